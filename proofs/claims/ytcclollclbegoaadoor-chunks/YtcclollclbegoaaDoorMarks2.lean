/-
  Marks from any number on; two lists in rows of their own while one is marked.
-/
import Derived.Test.YtcclollclbegoaaDoorMarks
import Derived.Test.YtcclollclbegoaaDoorEq
import Derived.Test.YtcclollclbegoaaDoorD2Two
namespace Go.Proofs.YtcclollclbegoaaDoor
open Go.ChangeShapes Go.WideShapes Go.ChangeAt Go.RowKit
set_option maxRecDepth 100000 in
set_option maxHeartbeats 1000000 in
theorem mark_c (c : Int) (c0 : 0 ≤ c) (c1 : c ≤ 10000000) (L : List Int) (v : Value) (n base : Nat) (w : World) (hl : L.length ≤ 1048576) (hown : w.ownsRow base 3 1 v n (ints L)) :
    Calls Tryd.prog 32 #[v, .int .i64 c] w fun e w' => e = .returned (.int .i64 (c + L.length)) ∧ w'.ownsRow base 3 1 v n (ints (mk2 L c L.length)) ∧ w.grownBy w' v.ownBlock := by
  obtain ⟨hn, ao, cap, rfl, hA⟩ := ints_of_own hown
  subst hn
  have HA : Hid _ := hA
  have HO : Hid _ := hown
  clear hown hA
  go_enter Tryd.func32, Tryd.ntmps32
  go_wp2
  go_loopw [1, 5] (fun cc i wr => ∃ k : Nat, k ≤ L.length ∧ i = .int .i64 k ∧ cc = .int .i64 (c + k) ∧ wr.ownsRow base 3 1 (.slice ao L.length cap) L.length (ints (mk2 L c k)) ∧ w.grownBy wr (Value.ownBlock (.slice ao L.length cap))) (fun _ i _ => L.length - (intOf i).toNat)
  case atStart => exact ⟨0, Nat.zero_le _, rfl, by simp, by rw [mk2_zero]; exact HO.out, grown_refl _ _⟩
  case round =>
    obtain ⟨k, hk, rfl, rfl, hown, hgr⟩ := hrel
    by_cases hlt : k < L.length
    · have hltI : (k : Int) < (L.length : Int) := by omega
      obtain ⟨g, cap', cur, hv, hbg, hrest⟩ : ∃ g cap' cur, Value.slice ao L.length cap = .slice (some ⟨g, 0, none⟩) L.length cap' ∧ base ≤ g ∧ wr.heap[g]? = some (.cells cur 3 (0, 0)) := by
        rcases hown.2 with ⟨h1, h2⟩ | ⟨g, cap', cur, h1, h2, h3, _⟩
        · omega
        · exact ⟨g, cap', cur, h1, h2, h3⟩
      simp only [Value.slice.injEq, true_and] at hv
      obtain ⟨rfl, rfl⟩ := hv
      have hfz := hown.frozenAt k
      have hcell := hown.cellAt k (by omega)
      have hget : (ints (mk2 L c k))[k]? = some (.int .i64 (L.getD k 0)) := by simp [ints, mk2_at L c k k hlt]
      rw [hget] at hcell
      have hst := hown.stored k (.int .i64 (c + k))
      rw [mk2_step L c k hlt] at hst
      have HST : Hid _ := hst
      have HGR : Hid _ := hgr
      clear hst hown hgr hrest hget
      generalize L.getD k 0 = x at *
      go_wp2
      go_roundw
      case rel => exact ⟨k + 1, by omega, by go_num, (by go_num), HST.out.1, grown_trans HGR.out HST.out.2⟩
      case measure => simp [intOf]; omega
    · go_wp2
      go_ret
      obtain rfl : k = L.length := by omega
      exact ⟨rfl, hown, hgr⟩
set_option maxRecDepth 100000 in
set_option maxHeartbeats 1000000 in
theorem held_c (c : Int) (c0 : 0 ≤ c) (c1 : c ≤ 10000000) (L : List Int) (ao : Option Addr) (cap : Nat) (w : World) (hl : L.length ≤ 1048576) (hA : IntsAt w ao (mk2 L c L.length)) :
    Calls Tryd.prog 33 #[.slice ao L.length cap, .int .i64 c] w fun e w' => e = .returned (.int .i64 (c + L.length)) ∧ Below w.heap.size w w' := by
  have HA : Hid _ := hA
  clear hA
  go_enter Tryd.func33, Tryd.ntmps33
  go_wp2
  go_loopw [1, 5] (fun cc i wr => ∃ k : Nat, k ≤ L.length ∧ i = .int .i64 k ∧ cc = .int .i64 (c + k) ∧ Below w.heap.size w wr) (fun _ i _ => L.length - (intOf i).toNat)
  case atStart => exact ⟨0, Nat.zero_le _, rfl, by simp, Below.refl _ _⟩
  case round =>
    obtain ⟨k, hk, rfl, rfl, hbw⟩ := hrel
    by_cases hlt : k < L.length
    · have hltI : (k : Int) < (L.length : Int) := by omega
      obtain ⟨b1, o1, rfl, l1, h1⟩ := HA.out k (by rw [mk2_len]; exact hlt)
      have e1 : (mk2 L c L.length).getD k 0 = c + k := by rw [List.getD, mk2_at L c _ k hlt, if_pos hlt]; rfl
      rw [e1] at h1
      have g1 : wr.cell? ⟨b1, o1 + k, none⟩ = some (.int .i64 (c + k)) := (hbw.cell (p := ⟨b1, o1 + k, none⟩) l1).trans h1
      clear h1 e1
      go_wp2
      go_roundw
      case rel => exact ⟨k + 1, by omega, by go_num, (by go_num), hbw⟩
      case measure => simp [intOf]; omega
    · go_wp2
      go_ret
      obtain rfl : k = L.length := by omega
      exact ⟨rfl, hbw⟩

theorem Two.i1 {B : Nat} {w : World} {a : Option Addr} {n c : Nat} {v2 : Value} {L1 L2 : List Int} (T : Two B w (.slice a n c) L1 v2 L2) : IntsAt w a L1 := by
  obtain ⟨_, a', c', e', i'⟩ := ints_of_own T.a
  simp only [Value.slice.injEq] at e'
  obtain ⟨rfl, _, _⟩ := e'
  exact i'
theorem Two.i2 {B : Nat} {w : World} {a : Option Addr} {n c : Nat} {v1 : Value} {L1 L2 : List Int} (T : Two B w v1 L1 (.slice a n c) L2) : IntsAt w a L2 := T.swap.i1
theorem Two.form {B : Nat} {w : World} {v1 v2 : Value} {L1 L2 : List Int} (T : Two B w v1 L1 v2 L2) : ∃ a1 c1 a2 c2, v1 = .slice a1 L1.length c1 ∧ v2 = .slice a2 L2.length c2 := by
  obtain ⟨_, a1, c1, e1, _⟩ := ints_of_own T.a
  obtain ⟨_, a2, c2, e2, _⟩ := ints_of_own T.b
  exact ⟨a1, c1, a2, c2, e1, e2⟩
/-- The first list's numbers have turned. -/
theorem Two.turn1 {B : Nat} {w w' : World} {v1 v2 : Value} {L1 L2 M : List Int} (T : Two B w v1 L1 v2 L2) (hm : M.length = L1.length) (ho : w'.ownsRow B 3 1 v1 L1.length (ints M)) (hg : w.grownBy w' v1.ownBlock) : Two B w' v1 M v2 L2 := by
  refine ⟨by rw [hm]; exact ho, T.b.kept hg ?_, T.far⟩
  by_cases h : v1.ownBlock = v2.ownBlock
  · exact .inl (by rw [← h]; exact T.far h)
  · exact .inr (Ne.symm h)
theorem Two.turn2 {B : Nat} {w w' : World} {v1 v2 : Value} {L1 L2 M : List Int} (T : Two B w v1 L1 v2 L2) (hm : M.length = L2.length) (ho : w'.ownsRow B 3 1 v2 L2.length (ints M)) (hg : w.grownBy w' v2.ownBlock) : Two B w' v1 L1 v2 M := (T.swap.turn1 hm ho hg).swap
/-- Where the two lists' blocks lie. -/
structure Lies (v1 v2 : Value) (lo hi : Nat) : Prop where
  a : ∀ g, v1.ownBlock = some g → lo ≤ g ∧ g < hi
  b : ∀ g, v2.ownBlock = some g → lo ≤ g ∧ g < hi
theorem Two.lies {B : Nat} {w : World} {v1 v2 : Value} {L1 L2 : List Int} (T : Two B w v1 L1 v2 L2) : Lies v1 v2 B w.heap.size := ⟨fun g h => T.a.lt g h, fun g h => T.b.lt g h⟩
theorem Two.keep {B : Nat} {w w' : World} {v1 v2 : Value} {L1 L2 : List Int} {row : Option Nat} (T : Two B w v1 L1 v2 L2) (hg : w.grownBy w' row) {lo hi : Nat} (hl : Lies v1 v2 lo hi) (hr : ∀ g, row = some g → hi ≤ g) : Two B w' v1 L1 v2 L2 := by
  have far : ∀ {u : Value}, (∀ g, u.ownBlock = some g → lo ≤ g ∧ g < hi) → u.ownBlock = none ∨ u.ownBlock ≠ row := fun {u} hu => by
    cases h : u.ownBlock with
    | none => exact .inl rfl
    | some g => exact .inr (fun e => by have := (hu g h).2; have := hr g e.symm; omega)
  exact ⟨T.a.kept hg (far hl.a), T.b.kept hg (far hl.b), T.far⟩
end Go.Proofs.YtcclollclbegoaaDoor
