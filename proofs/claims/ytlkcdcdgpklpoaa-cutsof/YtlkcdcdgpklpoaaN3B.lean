/-
  SplitRune of both, lists that may be held, copies of a list (laws.toIntS), SplitAll of both.
-/
import Derived.Test.YtlkcdcdgpklpoaaN3A
import Derived.Test.YtlkcdcdgpklpoaaRowAp
import Derived.OwnWalk
namespace Go.Proofs.Ytlkcdcdgpklpoaa
open Go.ChangeShapes Go.WideShapes Go.ChangeAt Go.RowKit
/-- Two rows of one's own that were made one behind the other are apart. -/
theorem own_apart {w1 w2 : World} {b1 b2 : Nat} {e : TypeId} {s : Nat} {v1 v2 : Value} {n1 n2 : Nat} {xs1 xs2 : List Value} (h1 : w1.ownsRow b1 e s v1 n1 xs1) (h2 : w2.ownsRow b2 e s v2 n2 xs2) (h : w1.heap.size ≤ b2) : v1.ownBlock = none ∨ v1.ownBlock ≠ v2.ownBlock := by
  cases hb : v1.ownBlock with
  | none => exact .inl rfl
  | some g =>
    refine .inr fun e' => ?_
    have h3 := (World.ownsRow.lt h1 g hb).2
    have h4 := (World.ownsRow.lt h2 g e'.symm).1
    omega
theorem own_apart' {w1 w2 : World} {b1 b2 : Nat} {e : TypeId} {s : Nat} {v1 v2 : Value} {n1 n2 : Nat} {xs1 xs2 : List Value} (h1 : w1.ownsRow b1 e s v1 n1 xs1) (h2 : w2.ownsRow b2 e s v2 n2 xs2) (h : w1.heap.size ≤ b2) : v2.ownBlock = none ∨ v2.ownBlock ≠ v1.ownBlock := by
  cases hb : v2.ownBlock with
  | none => exact .inl rfl
  | some g =>
    refine .inr fun e' => ?_
    have h3 := (World.ownsRow.lt h1 g e'.symm).2
    have h4 := (World.ownsRow.lt h2 g hb).1
    omega
/-- A list that may be held. -/
def heldB (L : List Int) : Bool := decide (L.length ≤ 300) && allG L
theorem heldB_true {L : List Int} (h : heldB L = true) : L.length ≤ 300 ∧ allG L = true := by simpa [heldB] using h
theorem heldB_mk {L : List Int} (h1 : L.length ≤ 300) (h2 : allG L = true) : heldB L = true := by simp [heldB, h1, h2]
set_option maxRecDepth 100000 in
set_option maxHeartbeats 1000000 in
theorem iall3_any (L : List Int) (ao : Option Addr) (cap : Nat) (w : World) (hl : L.length ≤ 1048576) (hA : IntsAt w ao L) :
    Calls Try.prog 77 #[.slice ao L.length cap] w fun e w' => e = .returned (.bool (allG L)) ∧ w' = w := by
  have HA : Hid _ := hA
  clear hA
  go_enter Try.func77, Try.ntmps77
  go_wp2
  go_loopw [7] (fun i wr => ∃ k : Nat, k ≤ L.length ∧ i = .int .i64 k ∧ (∀ j, j < k → goodB (L.getD j 0) = true) ∧ wr = w) (fun i _ => L.length - (intOf i).toNat)
  case atStart => exact ⟨0, Nat.zero_le _, rfl, fun j hj => absurd hj (by omega), rfl⟩
  case round =>
    obtain ⟨k, hk, rfl, hall, rfl⟩ := hrel
    have HALL : Hid _ := hall
    clear hall
    by_cases hlt : k < L.length
    · have hltI : (k : Int) < (L.length : Int) := by omega
      obtain ⟨b1, o1, rfl, l1, h1⟩ := HA.out k hlt
      cases hgd : goodB (L.getD k 0)
      · have HG : Hid _ := hgd
        have HB : Hid _ := allG_bad hlt hgd
        clear hgd
        generalize L.getD k 0 = r at *
        go_wp2_with (go_at_call 67; refine (igood_not HG.out _).mono ?_; rintro e w' ⟨rfl, rfl⟩)
        go_ret
        exact ⟨by rw [HB.out]; rfl, rfl⟩
      · have HG : Hid _ := hgd
        have HN : Hid (∀ j, j < k + 1 → goodB (L.getD j 0) = true) := fun j hj => by
          by_cases e : j = k
          · subst e; exact hgd
          · exact HALL.out j (by omega)
        clear hgd
        generalize L.getD k 0 = r at *
        go_wp2_with (go_at_call 67; refine (igood_yes HG.out _).mono ?_; rintro e w' ⟨rfl, rfl⟩)
        go_roundw
        case rel => exact ⟨k + 1, by omega, by go_num, HN.out, by first | rfl | trivial⟩
        case measure => simp [intOf]; omega
    · obtain rfl : k = L.length := by omega
      have HB : Hid (allG L = true) := List.all_eq_true.2 fun r hr => by
        obtain ⟨j, hj, rfl⟩ := List.mem_iff_getElem.1 hr
        have := HALL.out j hj
        simpa [List.getD, hj] using this
      go_wp2
      go_ret
      exact ⟨by rw [HB.out]; rfl, rfl⟩
end Go.Proofs.Ytlkcdcdgpklpoaa
