/-
  Contract of spec.l1AllRunes.
-/
import Derived.Test.YtlkcdcdgpklpoaaLst
import Derived.Test.YtlkcdcdgpklpoaaReg
namespace Go.Proofs.Ytlkcdcdgpklpoaa
open Go.ChangeShapes Go.WideShapes Go.ChangeAt Go.RowKit
def allG (L : List Int) : Bool := L.all goodB
theorem allG_true {L : List Int} (h : allG L = true) : ∀ r ∈ L, goodB r = true := fun r hr => List.all_eq_true.1 h r hr
theorem allG_bad {L : List Int} {k : Nat} (h : k < L.length) (hb : goodB (L.getD k 0) = false) : allG L = false := by
  rw [Bool.eq_false_iff]
  intro ha
  have := allG_true ha (L.getD k 0) (by simp [List.getD, h])
  rw [hb] at this
  cases this
set_option maxRecDepth 100000 in
set_option maxHeartbeats 1000000 in
theorem all_any (L : List Int) (ao : Option Addr) (cap : Nat) (w : World) (hl : L.length ≤ 1048576) (hA : IntsAt w ao L) :
    Calls Try.prog 73 #[.slice ao L.length cap] w fun e w' => e = .returned (.bool (allG L && decide (L.length ≤ 1000))) ∧ Below w.heap.size w w' := by
  have HA : Hid _ := hA
  clear hA
  go_enter Try.func73, Try.ntmps73
  go_wp2
  go_loopw [7] (fun i wr => ∃ k : Nat, k ≤ L.length ∧ i = .int .i64 k ∧ (∀ j, j < k → goodB (L.getD j 0) = true) ∧ wr = w) (fun i _ => L.length - (intOf i).toNat)
  case atStart => exact ⟨0, Nat.zero_le _, rfl, fun j hj => absurd hj (by omega), rfl⟩
  case round =>
    obtain ⟨k, hk, rfl, hall, rfl⟩ := hrel
    have HALL : Hid _ := hall
    clear hall
    by_cases hlt : k < L.length
    · have hltI : (k : Int) < (L.length : Int) := by omega
      obtain ⟨b1, o1, rfl, l1, h1⟩ := HA.out k hlt
      cases hgd : goodB (L.getD k 0)
      · have HG : Hid _ := hgd
        have HB : Hid _ := allG_bad hlt hgd
        clear hgd
        generalize L.getD k 0 = r at *
        go_wp2_with (go_at_call 69; refine (good_not HG.out _).mono ?_; rintro e w' ⟨rfl, rfl⟩)
        go_ret
        exact ⟨by rw [HB.out]; rfl, Below.refl _ _⟩
      · have HG : Hid _ := hgd
        have HN : Hid (∀ j, j < k + 1 → goodB (L.getD j 0) = true) := fun j hj => by
          by_cases e : j = k
          · subst e; exact hgd
          · exact HALL.out j (by omega)
        clear hgd
        generalize L.getD k 0 = r at *
        go_wp2_with (go_at_call 69; refine (good_yes HG.out _).mono ?_; rintro e w' ⟨rfl, rfl⟩)
        go_roundw
        case rel => exact ⟨k + 1, by omega, by go_num, HN.out, by first | rfl | trivial⟩
        case measure => simp [intOf]; omega
    · obtain rfl : k = L.length := by omega
      have HB : Hid (allG L = true) := List.all_eq_true.2 fun r hr => by
        obtain ⟨j, hj, rfl⟩ := List.mem_iff_getElem.1 hr
        have := HALL.out j hj
        simpa [List.getD, hj] using this
      go_wp2
      go_ret
      exact ⟨by rw [HB.out, Bool.true_and]; exact ret_bool (decide_eq_decide.2 ⟨fun h => by omega, fun h => by omega⟩), Below.refl _ _⟩
end Go.Proofs.Ytlkcdcdgpklpoaa
