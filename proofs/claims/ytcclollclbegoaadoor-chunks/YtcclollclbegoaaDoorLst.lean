/-
  Lists of numbers in memory, the runes of a text one behind the other, the bytes of runes one behind the other; contract of spec.l1Runes.
-/
import Derived.Test.YtcclollclbegoaaDoorAt
import Derived.Test.YtcclollclbegoaaDoorReg
import Derived.Test.YtcclollclbegoaaDoorDec
import Derived.Lib.AppendStr
import Derived.Lib.OthersKept
import Derived.WalkSmall
namespace Go.Proofs.YtcclollclbegoaaDoor
open Go.ChangeShapes Go.WideShapes Go.ChangeAt Go.RowKit
theorem Tryd.info3 : (Tryd.prog.info? 3).map (fun i => (i.zero, i.size, i.bytes)) = some (some (.int .i64 0), 1, 8) := by kernel_rfl
theorem Tryd.info5 : (Tryd.prog.info? 5).map (fun i => (i.zero, i.size, i.bytes)) = some (some (.int .u8 0), 1, 1) := by kernel_rfl
theorem ownsRow_below {w w' : World} {base : Nat} {e : TypeId} {size : Nat} {v : Value} {n : Nat} {xs : List Value} (h : w.ownsRow base e size v n xs) (hb : Below w.heap.size w w') : w'.ownsRow base e size v n xs := by
  refine ⟨h.1, ?_⟩
  rcases h.2 with h2 | ⟨g, cap, cur, h1, h2, h3, h4⟩
  · exact .inl h2
  · exact .inr ⟨g, cap, cur, h1, h2, by rw [hb.block g (Array.getElem?_eq_some_iff.1 h3).1]; exact h3, h4⟩
/-- The numbers L lie, one behind the other, where a slice of that length begins. -/
def IntsAt (w : World) (ao : Option Addr) (L : List Int) : Prop :=
  ∀ j, j < L.length → ∃ b off, ao = some ⟨b, off, none⟩ ∧ b < w.heap.size ∧ w.cell? ⟨b, off + j, none⟩ = some (.int .i64 (L.getD j 0))
theorem IntsAt.below {w w' : World} {ao : Option Addr} {L : List Int} (h : IntsAt w ao L) (hb : Below w.heap.size w w') : IntsAt w' ao L := fun j hj => by
  obtain ⟨b, off, h1, h2, h3⟩ := h j hj
  exact ⟨b, off, h1, by have := hb.size; omega, (hb.cell (p := ⟨b, off + j, none⟩) h2).trans h3⟩
abbrev ints (L : List Int) : List Value := L.map (Value.int .i64)
theorem ints_of_own {w : World} {base : Nat} {v : Value} {n : Nat} {L : List Int} (h : w.ownsRow base 3 1 v n (ints L)) : n = L.length ∧ ∃ ao cap, v = .slice ao n cap ∧ IntsAt w ao L := by
  have hn : n = L.length := by have := h.1; simp [ints] at this; omega
  subst hn
  refine ⟨rfl, ?_⟩
  rcases h.2 with ⟨rfl, h0⟩ | ⟨g, cap, cur, rfl, h2, h3, h4⟩
  · refine ⟨none, 0, by rw [h0], fun j hj => ?_⟩
    omega
  · refine ⟨_, _, rfl, fun j hj => ⟨g, 0, rfl, (Array.getElem?_eq_some_iff.1 h3).1, ?_⟩⟩
    have := h.cells (g := g) rfl j (.int .i64 (L.getD j 0)) (by simp [ints, List.getD, hj])
    have hp : (⟨g, 0, none⟩ : Addr).add j = ⟨g, 0 + j, none⟩ := by unfold Addr.add; split <;> simp_all
    rw [hp] at this
    exact this
/-- The runes of a text from a place on. -/
def runesFrom (s : ByteArray) : Nat → Nat → List Int
  | 0, _ => []
  | f + 1, p => if p < s.size then decR s p :: runesFrom s f (p + decW s p) else []
def runes (s : ByteArray) : List Int := runesFrom s s.size 0
theorem runesFrom_end (s : ByteArray) (f p : Nat) (h : ¬ p < s.size) : runesFrom s f p = [] := by
  cases f with
  | zero => rfl
  | succ f => simp [runesFrom, h]
theorem runesFrom_len (s : ByteArray) : ∀ f p, (runesFrom s f p).length ≤ f
  | 0, _ => Nat.le_refl _
  | f + 1, p => by
    unfold runesFrom
    split
    · simp only [List.length_cons]; have := runesFrom_len s f (p + decW s p); omega
    · simp
theorem runes_len (s : ByteArray) : (runes s).length ≤ s.size := runesFrom_len s _ _
theorem runesFrom_good (s : ByteArray) : ∀ f p, ∀ r ∈ runesFrom s f p, goodB r = true
  | 0, _, r, h => by simp [runesFrom] at h
  | f + 1, p, r, h => by
    unfold runesFrom at h
    split at h
    · rename_i hp
      rcases List.mem_cons.1 h with rfl | h
      · exact decR_good s p hp
      · exact runesFrom_good s f _ r h
    · simp at h
theorem runes_good (s : ByteArray) : ∀ r ∈ runes s, goodB r = true := runesFrom_good s _ _
set_option maxRecDepth 100000 in
set_option maxHeartbeats 1000000 in
theorem runes_any (s : ByteArray) (w : World) (hs : s.size ≤ 1000) :
    Calls Tryd.prog 82 #[.string s] w fun e w' => ∃ v, e = .returned v ∧ w'.ownsRow w.heap.size 3 1 v (runes s).length (ints (runes s)) ∧ Below w.heap.size w w' := by
  obtain ⟨i0, hi, hz0, hz1, hz2⟩ := info_parts Tryd.info3
  go_enter Tryd.func82, Tryd.ntmps82
  go_wp2
  go_loopw [3, 4] (fun v p wr => ∃ (k f : Nat) (L : List Int), k ≤ s.size ∧ p = .int .i64 k ∧ L ++ runesFrom s f k = runes s ∧ s.size ≤ k + f ∧ wr.ownsRow w.heap.size 3 1 v L.length (ints L) ∧ Below w.heap.size w wr) (fun _ p _ => s.size - (intOf p).toNat)
  case atStart => exact ⟨0, s.size, [], Nat.zero_le _, rfl, rfl, by omega, World.ownsRow_nil _ _ _ _, Below.refl _ _⟩
  case round =>
    obtain ⟨k, f, L, hk, rfl, hL, hf, hown, hbw⟩ := hrel
    have HL : Hid _ := hL
    clear hL
    by_cases hlt : k < s.size
    · obtain ⟨f, rfl⟩ : ∃ f', f = f' + 1 := ⟨f - 1, by omega⟩
      have HS : Hid (runesFrom s (f + 1) k = decR s k :: runesFrom s f (k + decW s k)) := by show runesFrom s (f + 1) k = _; rw [runesFrom, if_pos hlt]
      have hw := decW_pos s k hlt
      have hlen : L.length ≤ 1000 := by
        have h1 := congrArg List.length HL.out
        have h2 := runes_len s
        rw [List.length_append] at h1
        omega
      go_wp2_with fail
      refine (at_any s k _ hs hlt).mono ?_
      rintro e w1 ⟨rfl, hb1⟩
      have hown1 := ownsRow_below hown hb1
      have hbw1 := hbw.trans (hb1.mono hbw.size)
      clear hown hbw hb1
      generalize decR s k = r at *
      generalize decW s k = d at *
      go_wp2_with (at_builtin; refine wpList_append_own _ rfl _ _ 28 rfl w.heap.size 3 i0 (.int .i64 0) 1 8 Tryd.underlying28 hi hz0 hz1 hz2 rfl (by decide) _ _ _ rfl (hown1.alloc _) ⟨w1.heap.size, 0, none⟩ 1 1 [.int .i64 r] rfl rfl ?c1 ?c2 ?c3 ?c4 ?c5 ?_)
      case c1 => exact cell_one_new _ _ _
      case c2 => intro u hu; simp at hu; subst hu; rfl
      case c3 => unfold maxLen; omega
      case c4 => omega
      case c5 => have := hbw1.size; simp; omega
      intro v' w2 hown2 hgrow _
      have hb2 : Below w.heap.size w w2 := by
        refine Below.grown (hbw1.alloc hbw1.size _) hgrow (by have := hbw1.size; simp; omega) (fun g hg => ?_)
        exact (hown1.lt g hg).1
      clear hgrow hown1 hbw1
      go_wp2
      go_roundw
      case rel => exact ⟨k + d, f, L ++ [r], by omega, by go_num, by rw [← HL.out, HS.out]; simp, by omega, by simpa [ints] using hown2, hb2⟩
      case measure => simp [intOf]; omega
    · go_wp2
      go_ret
      refine ⟨_, rfl, ?_, hbw⟩
      have : L = runes s := by rw [← HL.out, runesFrom_end s f k hlt, List.append_nil]
      rw [← this]
      exact hown
end Go.Proofs.YtcclollclbegoaaDoor
