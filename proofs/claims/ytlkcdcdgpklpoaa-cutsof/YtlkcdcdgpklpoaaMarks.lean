/-
  Contracts of laws.markIntS and laws.heldIntS.
-/
import Derived.Test.YtlkcdcdgpklpoaaEq
import Derived.Laws.OwnMore
namespace Go.Proofs.Ytlkcdcdgpklpoaa
open Go.ChangeShapes Go.WideShapes Go.ChangeAt Go.RowKit
/-- The numbers of L, the first j of them c, c + 1, .. -/
def mk2 (L : List Int) (c : Int) (j : Nat) : List Int := (List.range L.length).map fun i => if i < j then c + i else L.getD i 0
theorem mk2_len (L : List Int) (c : Int) (j : Nat) : (mk2 L c j).length = L.length := by simp [mk2]
theorem mk2_at (L : List Int) (c : Int) (j i : Nat) (h : i < L.length) : (mk2 L c j)[i]? = some (if i < j then c + i else L.getD i 0) := by
  simp [mk2, h]
theorem mk2_zero (L : List Int) (c : Int) : mk2 L c 0 = L := by
  apply List.ext_getElem?
  intro i
  by_cases h : i < L.length
  · rw [mk2_at L c 0 i h]; simp [List.getD, h]
  · rw [List.getElem?_eq_none (by rw [mk2_len]; omega), List.getElem?_eq_none (by omega)]
theorem mk2_step (L : List Int) (c : Int) (j : Nat) (h : j < L.length) : (ints (mk2 L c j)).set j (.int .i64 (c + j)) = ints (mk2 L c (j + 1)) := by
  apply List.ext_getElem?
  intro i
  rw [List.getElem?_set]
  by_cases hi : i < L.length
  · simp only [ints, List.getElem?_map, mk2_at L c _ i hi, List.length_map, mk2_len]
    by_cases e : j = i
    · subst e; simp [hi]
    · simp only [e, if_false, Option.map_some]
      by_cases h2 : i < j
      · rw [if_pos h2, if_pos (by omega)]
      · rw [if_neg h2, if_neg (by omega)]
  · have n1 : (ints (mk2 L c j))[i]? = none := List.getElem?_eq_none (by simp [ints, mk2_len]; omega)
    have n2 : (ints (mk2 L c (j + 1)))[i]? = none := List.getElem?_eq_none (by simp [ints, mk2_len]; omega)
    rw [n1, n2, if_neg (by omega)]
theorem grown_trans {a b c : World} {row : Option Nat} (h : a.grownBy b row) (k : b.grownBy c row) : a.grownBy c row :=
  ⟨k.os.trans h.os, k.tape.trans h.tape, k.output.trans h.output, Nat.le_trans h.size k.size, fun i hi hn => (k.block i (Nat.lt_of_lt_of_le hi h.size) hn).trans (h.block i hi hn)⟩
theorem grown_refl (w : World) (row : Option Nat) : w.grownBy w row := ⟨rfl, rfl, rfl, Nat.le_refl _, fun _ _ _ => rfl⟩
set_option maxRecDepth 100000 in
set_option maxHeartbeats 1000000 in
theorem mark_any (L : List Int) (v : Value) (n base : Nat) (w : World) (hl : L.length ≤ 1048576) (hown : w.ownsRow base 3 1 v n (ints L)) :
    Calls Try.prog 40 #[v, .int .i64 1] w fun e w' => e = .returned (.int .i64 (1 + L.length)) ∧ w'.ownsRow base 3 1 v n (ints (mk2 L 1 L.length)) ∧ w.grownBy w' v.ownBlock := by
  obtain ⟨hn, ao, cap, rfl, hA⟩ := ints_of_own hown
  subst hn
  have HA : Hid _ := hA
  have HO : Hid _ := hown
  clear hown hA
  go_enter Try.func40, Try.ntmps40
  go_wp2
  go_loopw [1, 5] (fun c i wr => ∃ k : Nat, k ≤ L.length ∧ i = .int .i64 k ∧ c = .int .i64 (1 + k) ∧ wr.ownsRow base 3 1 (.slice ao L.length cap) L.length (ints (mk2 L 1 k)) ∧ w.grownBy wr (Value.ownBlock (.slice ao L.length cap))) (fun _ i _ => L.length - (intOf i).toNat)
  case atStart => exact ⟨0, Nat.zero_le _, rfl, rfl, by rw [mk2_zero]; exact HO.out, grown_refl _ _⟩
  case round =>
    obtain ⟨k, hk, rfl, rfl, hown, hgr⟩ := hrel
    by_cases hlt : k < L.length
    · have hltI : (k : Int) < (L.length : Int) := by omega
      obtain ⟨g, cap', cur, hv, hbg, hrest⟩ : ∃ g cap' cur, Value.slice ao L.length cap = .slice (some ⟨g, 0, none⟩) L.length cap' ∧ base ≤ g ∧ wr.heap[g]? = some (.cells cur 3 (0, 0)) := by
        rcases hown.2 with ⟨h1, h2⟩ | ⟨g, cap', cur, h1, h2, h3, _⟩
        · omega
        · exact ⟨g, cap', cur, h1, h2, h3⟩
      simp only [Value.slice.injEq, true_and] at hv
      obtain ⟨rfl, rfl⟩ := hv
      have hfz := hown.frozenAt k
      have hcell := hown.cellAt k (by omega)
      have hget : (ints (mk2 L 1 k))[k]? = some (.int .i64 (L.getD k 0)) := by simp [ints, mk2_at L 1 k k hlt]
      rw [hget] at hcell
      have hst := hown.stored k (.int .i64 (1 + k))
      rw [mk2_step L 1 k hlt] at hst
      have HST : Hid _ := hst
      have HGR : Hid _ := hgr
      clear hst hown hgr hrest hget
      generalize L.getD k 0 = x at *
      go_wp2
      go_roundw
      case rel => exact ⟨k + 1, by omega, by go_num, by go_num, HST.out.1, grown_trans HGR.out HST.out.2⟩
      case measure => simp [intOf]; omega
    · go_wp2
      go_ret
      obtain rfl : k = L.length := by omega
      exact ⟨rfl, hown, hgr⟩
set_option maxRecDepth 100000 in
set_option maxHeartbeats 1000000 in
theorem held_any (L : List Int) (ao : Option Addr) (cap : Nat) (w : World) (hl : L.length ≤ 1048576) (hA : IntsAt w ao (mk2 L 1 L.length)) :
    Calls Try.prog 41 #[.slice ao L.length cap, .int .i64 1] w fun e w' => e = .returned (.int .i64 (1 + L.length)) ∧ Below w.heap.size w w' := by
  have HA : Hid _ := hA
  clear hA
  go_enter Try.func41, Try.ntmps41
  go_wp2
  go_loopw [1, 5] (fun c i wr => ∃ k : Nat, k ≤ L.length ∧ i = .int .i64 k ∧ c = .int .i64 (1 + k) ∧ Below w.heap.size w wr) (fun _ i _ => L.length - (intOf i).toNat)
  case atStart => exact ⟨0, Nat.zero_le _, rfl, rfl, Below.refl _ _⟩
  case round =>
    obtain ⟨k, hk, rfl, rfl, hbw⟩ := hrel
    by_cases hlt : k < L.length
    · have hltI : (k : Int) < (L.length : Int) := by omega
      obtain ⟨b1, o1, rfl, l1, h1⟩ := HA.out k (by rw [mk2_len]; exact hlt)
      have e1 : (mk2 L 1 L.length).getD k 0 = 1 + k := by rw [List.getD, mk2_at L 1 _ k hlt, if_pos hlt]; rfl
      rw [e1] at h1
      have g1 : wr.cell? ⟨b1, o1 + k, none⟩ = some (.int .i64 (1 + k)) := (hbw.cell (p := ⟨b1, o1 + k, none⟩) l1).trans h1
      clear h1 e1
      go_wp2
      go_roundw
      case rel => exact ⟨k + 1, by omega, by go_num, by go_num, hbw⟩
      case measure => simp [intOf]; omega
    · go_wp2
      go_ret
      obtain rfl : k = L.length := by omega
      exact ⟨rfl, hbw⟩
end Go.Proofs.Ytlkcdcdgpklpoaa
