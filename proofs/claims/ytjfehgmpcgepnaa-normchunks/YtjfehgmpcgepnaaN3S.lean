/-
  FeedNorm and FlushNorm of both at any lists of few ints: one answer; slices of a list that lies anywhere.
-/
import Derived.Test.YtjfehgmpcgepnaaN3Q
import Derived.Test.YtjfehgmpcgepnaaN3R
import Derived.Test.YtjfehgmpcgepnaaArgB
namespace Go.Proofs.Ytjfehgmpcgepnaa
open Go.ChangeShapes Go.WideShapes Go.ChangeAt Go.WideMaps Go.WideElems Go.RowKit
set_option maxRecDepth 100000 in
theorem head_cut (ao : Option Addr) (n cap k : Nat) (hk : k ≤ n) (hc : n ≤ cap) : ∃ A C, (∀ w, (Instr.slice 24 (.slice ao n cap) none (some (.int .i64 (k : Int))) none).run Try.prog w = .ok (.slice A k C) w) ∧ ∀ w L, L.length = n → IntsAt w ao L → IntsAt w A (L.take k) := by
  obtain ⟨i0, hi, hz0, hz1, hz2⟩ := info_parts Try.info3
  refine ⟨if cap = 0 then ao else ao.map (·.add 0), cap, fun w => ?_, fun w L hl h j hj => ?_⟩
  · rw [run_slice_h w 24 ao n cap Try.underlying24 .i64 (k : Int) (by omega) (by omega), show Try.prog.elem 24 = 3 by kernel_rfl]
    simp [sizeOf, typeInfo, hi, hz1, sliced]
  · simp at hj
    obtain ⟨b, off, rfl, h2, h3⟩ := h j (by omega)
    refine ⟨b, off, ?_, h2, ?_⟩
    · split
      · rfl
      · simp [Addr.add]
    · rw [h3]
      simp [List.getD, hj, show j < L.length by omega]
set_option maxRecDepth 100000 in
theorem tail_cut (ao : Option Addr) (n cap k : Nat) (hk : k ≤ n) (hc : n ≤ cap) : ∃ A C, (∀ w, (Instr.slice 24 (.slice ao n cap) (some (.int .i64 (k : Int))) none none).run Try.prog w = .ok (.slice A (n - k) C) w) ∧ ∀ w L, L.length = n → IntsAt w ao L → IntsAt w A (L.drop k) := by
  obtain ⟨i0, hi, hz0, hz1, hz2⟩ := info_parts Try.info3
  refine ⟨if cap = k then ao else ao.map (·.add k), cap - k, fun w => ?_, fun w L hl h j hj => ?_⟩
  · rw [run_slice_l w 24 ao n cap Try.underlying24 .i64 (k : Int) (by omega) (by omega), show Try.prog.elem 24 = 3 by kernel_rfl]
    simp [sizeOf, typeInfo, hi, hz1, sliced]
  · simp at hj
    obtain ⟨b, off, rfl, h2, h3⟩ := h (k + j) (by omega)
    refine ⟨b, off + k, ?_, h2, ?_⟩
    · rw [if_neg (by omega)]
      simp [Addr.add]
    · rw [show off + k + j = off + (k + j) by omega, h3]
      simp [List.getD, show k + j < L.length by omega]
theorem own_zero (w : World) (B : Nat) : w.ownsRow B 3 1 (.slice none 0 0) ([] : List Int).length (ints []) := ⟨by simp [ints], .inl ⟨rfl, rfl⟩⟩
theorem ints_val {w : World} {B : Nat} {a : Option Addr} {n c : Nat} {L : List Int} (h : w.ownsRow B 3 1 (.slice a n c) L.length (ints L)) : IntsAt w a L := by
  obtain ⟨_, a', c', he, i⟩ := ints_of_own h
  cases he
  exact i
theorem own_cap {w : World} {B : Nat} {a : Option Addr} {n c : Nat} {L : List Int} (h : w.ownsRow B 3 1 (.slice a n c) L.length (ints L)) : L.length ≤ c := by
  rcases h.2 with ⟨h1, h2⟩ | ⟨g, cap, cur, h1, -, -, h2, -⟩
  · cases h1; omega
  · cases h1; exact h2
def FeedI (ok : Bool) (H L X Y : List Int) (f : FuncId) : Prop :=
  ∀ (ah al : Option Addr) (m ch cl : Nat) (w : World), m = L.length → IntsAt w ah H → IntsAt w al L → Calls Try.prog f #[.agg #[.slice ah H.length ch], .slice al m cl] w fun e w' => ∃ A C v, e = .returned (.tuple #[.agg #[.slice A X.length C], v, .bool ok]) ∧ IntsAt w' A X ∧ w'.ownsRow w.heap.size 3 1 v Y.length (ints Y) ∧ Below w.heap.size w w'
theorem fullL_len (Z : List Int) : (fullL Z).length ≤ Z.length := by
  have h := joinL_len (sortL Z)
  rw [sortL_len] at h
  exact h
theorem feed_both (H L : List Int) (hlen : H.length + 3 * L.length ≤ 300) : ∃ (ok : Bool) (X Y : List Int), X.length ≤ H.length + 3 * L.length ∧ Y.length ≤ H.length + 3 * L.length ∧ FeedI ok H L X Y 6 ∧ FeedI ok H L X Y 7 ∧
    (ok = true → allG H = true ∧ allG L = true ∧ X = (H ++ splitAllL L).drop (cutN (H ++ splitAllL L)) ∧ Y = fullL ((H ++ splitAllL L).take (cutN (H ++ splitAllL L)))) ∧ (allG H = true → allG L = true → ok = true) := by
  cases hg : (allG H && allG L)
  · refine ⟨false, [], [], by simp, by simp, fun ah al m ch cl w hm hH hL => ?_, fun ah al m ch cl w hm hH hL => ?_, fun h => (by cases h), fun h1 h2 => (by rw [h1, h2] at hg; cases hg)⟩
    · subst hm
      refine (ifeed_no H L ah al ch cl w hlen hg hH hL).mono ?_
      rintro e w' ⟨rfl, b⟩
      exact ⟨none, 0, _, rfl, ints_nil _, own_zero _ _, b⟩
    · subst hm
      refine (sFeed_no H L ah al ch cl w hlen hg hH hL).mono ?_
      rintro e w' ⟨rfl, b⟩
      exact ⟨none, 0, _, rfl, ints_nil _, own_zero _ _, b⟩
  · rw [Bool.and_eq_true] at hg
    have hs := splitAllL_len L
    have hX : (H ++ splitAllL L).length ≤ H.length + 3 * L.length := by rw [List.length_append]; omega
    refine ⟨true, _, _, ?_, ?_, fun ah al m ch cl w hm hH hL => ?_, fun ah al m ch cl w hm hH hL => ?_, fun _ => ⟨hg.1, hg.2, rfl, rfl⟩, fun _ _ => rfl⟩
    · rw [List.length_drop]; omega
    · have := fullL_len ((H ++ splitAllL L).take (cutN (H ++ splitAllL L)))
      rw [List.length_take] at this; omega
    · subst hm
      exact ifeed_yes H L ah al ch cl w hlen hg.1 hg.2 hH hL
    · subst hm
      refine (sFeed_yes H L ah al ch cl w hlen hg.1 hg.2 hH hL).mono ?_
      rintro e w' ⟨v0, v1, rfl, o0, o1, b⟩
      obtain ⟨-, a, c, rfl, i⟩ := ints_of_own o0
      exact ⟨a, c, v1, rfl, i, o1, b⟩
def FlushI (ok : Bool) (H X : List Int) (f : FuncId) : Prop :=
  ∀ (ao : Option Addr) (cap : Nat) (w : World), IntsAt w ao H → Calls Try.prog f #[.agg #[.slice ao H.length cap]] w fun e w' => ∃ v, e = .returned (.tuple #[v, .bool ok]) ∧ w'.ownsRow w.heap.size 3 1 v X.length (ints X) ∧ Below w.heap.size w w'
theorem flush_both (H : List Int) (hlen : H.length ≤ 300) : ∃ (ok : Bool) (X : List Int), X.length ≤ 300 ∧ FlushI ok H X 10 ∧ FlushI ok H X 13 ∧ (allG H = true → ok = true ∧ X = fullL H) := by
  cases hg : heldB H
  · refine ⟨false, [], by simp, fun ao cap w hH => ?_, fun ao cap w hH => ?_, fun h => (by rw [heldB_mk hlen h] at hg; cases hg)⟩
    · refine (iflush_no H ao _ cap w rfl (by omega) hg hH).mono ?_
      rintro e w' ⟨rfl, b⟩
      exact ⟨_, rfl, own_zero _ _, b⟩
    · refine (sflush_no H ao _ cap w rfl (by omega) hg hH).mono ?_
      rintro e w' ⟨rfl, b⟩
      exact ⟨_, rfl, own_zero _ _, b⟩
  · refine ⟨true, _, Nat.le_trans (fullL_len H) hlen, fun ao cap w hH => ?_, fun ao cap w hH => ?_, fun h => ⟨rfl, rfl⟩⟩
    · exact iflush_yes H ao _ cap w rfl hg hH
    · exact sflush_yes H ao _ cap w rfl hg hH
/-- A row of one's own whose block lies between two places. -/
def OwnB (w : World) (lo hi : Nat) (v : Value) (L : List Int) : Prop := w.ownsRow lo 3 1 v L.length (ints L) ∧ ∀ g, v.ownBlock = some g → g < hi
theorem own_block_lt {w : World} {B : Nat} {v : Value} {n : Nat} {L : List Int} (h : w.ownsRow B 3 1 v n (ints L)) : ∀ g, v.ownBlock = some g → g < w.heap.size := fun g hg => by
  rcases h.2 with ⟨rfl, -⟩ | ⟨g', cap, cur, rfl, -, hh, -⟩
  · cases hg
  · simp [Value.ownBlock] at hg
    subst hg
    exact (Array.getElem?_eq_some_iff.1 hh).1
theorem own_block_ge {w : World} {B : Nat} {v : Value} {n : Nat} {L : List Int} (h : w.ownsRow B 3 1 v n (ints L)) : ∀ g, v.ownBlock = some g → B ≤ g := fun g hg => by
  rcases h.2 with ⟨rfl, -⟩ | ⟨g', cap, cur, rfl, hb, -⟩
  · cases hg
  · simp [Value.ownBlock] at hg
    subst hg
    exact hb
theorem OwnB.mk' {w : World} {lo : Nat} {v : Value} {L : List Int} (h : w.ownsRow lo 3 1 v L.length (ints L)) : OwnB w lo w.heap.size v L := ⟨h, own_block_lt h⟩
theorem OwnB.kept {w w' : World} {lo hi : Nat} {v : Value} {L : List Int} {row : Option Nat} (h : OwnB w lo hi v L) (gr : w.grownBy w' row) (hr : ∀ g, row = some g → g < lo ∨ hi ≤ g) : OwnB w' lo hi v L :=
  ⟨World.ownsRow.kept h.1 gr (by
    cases hv : v.ownBlock with
    | none => exact .inl rfl
    | some g => exact .inr fun e => by have h1 := own_block_ge h.1 g hv; have h2 := h.2 g hv; have h3 := hr g e.symm; omega), h.2⟩
theorem OwnB.below {w w' : World} {lo hi : Nat} {v : Value} {L : List Int} (h : OwnB w lo hi v L) (b : Below w.heap.size w w') : OwnB w' lo hi v L := ⟨ownsRow_below h.1 b, h.2⟩
theorem append_b {w : World} {lo hi lo' hi' : Nat} {v u : Value} {L M : List Int} (h : OwnB w lo hi v L) (k : OwnB w lo' hi' u M) (hlen : L.length + M.length ≤ 4000) (hlo : lo ≤ w.heap.size) :
    ∃ a c w', (Builtin.append_ #[24, 24] 24 #[v, u]).run Try.prog w = .ok (.slice a (L ++ M).length c) w' ∧ w'.ownsRow lo 3 1 (.slice a (L ++ M).length c) (L ++ M).length (ints (L ++ M)) ∧ w.grownBy w' v.ownBlock ∧ (Value.ownBlock (.slice a (L ++ M).length c) = v.ownBlock ∨ Value.ownBlock (.slice a (L ++ M).length c) = some w.heap.size) := by
  obtain ⟨i0, hi, hz0, hz1, hz2⟩ := info_parts Try.info3
  obtain ⟨v', w', h1, h2, h3, h4⟩ := run_append_row (P := Try.prog) w _ 24 24 3 i0 (.int .i64 0) 1 8 Try.underlying24 hi hz0 hz1 hz2 rfl (by decide) _ L.length (ints L) h.1 _ _ M.length (ints M) k.1 (ints_one _) (by unfold maxLen; omega) (by omega) hlo
  have h2' : w'.ownsRow lo 3 1 v' (L ++ M).length (ints (L ++ M)) := by
    rw [List.length_append, show ints (L ++ M) = ints L ++ ints M by simp [ints]]
    exact h2
  obtain ⟨-, a, c, rfl, -⟩ := ints_of_own h2'
  exact ⟨a, c, w', h1, h2', h3, h4⟩
end Go.Proofs.Ytjfehgmpcgepnaa
