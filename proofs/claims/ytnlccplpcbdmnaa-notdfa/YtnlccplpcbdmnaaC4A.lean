/-
  Chapter 4's small functions of the specification: l1All, GoodSet, l4In, InSet, CountSet, l4Made.
-/
import Derived.Test.YtnlccplpcbdmnaaC4Pure
import Derived.Test.YtnlccplpcbdmnaaN3C
namespace Go.Proofs.Ytnlccplpcbdmnaa
open Go.ChangeShapes Go.WideShapes Go.ChangeAt Go.RowKit
def inR (L : List Int) : Bool := L.all fun x => decide (0 ≤ x ∧ x ≤ 1114111)
theorem inR_true {L : List Int} (h : inR L = true) : ∀ x ∈ L, 0 ≤ x ∧ x ≤ 1114111 := fun x hx => of_decide_eq_true (List.all_eq_true.1 h x hx)
theorem inR_at {L : List Int} (h : inR L = true) {k : Nat} (hk : k < L.length) : 0 ≤ L.getD k 0 ∧ L.getD k 0 ≤ 1114111 := inR_true h _ (by simp [List.getD, hk])
theorem inR_bad {L : List Int} {k : Nat} (h : k < L.length) (hb : ¬ (0 ≤ L.getD k 0 ∧ L.getD k 0 ≤ 1114111)) : inR L = false := by
  rw [Bool.eq_false_iff]
  intro ha
  exact hb (inR_at ha h)
def okAt (L : List Int) (j : Nat) : Prop := L.getD (2 * j) 0 ≤ L.getD (2 * j + 1) 0 ∧ (0 < j → L.getD (2 * j - 1) 0 + 2 ≤ L.getD (2 * j) 0)
instance (L : List Int) (j : Nat) : Decidable (okAt L j) := by unfold okAt; exact inferInstance
def okAll (L : List Int) : Bool := decide (∀ j, j < L.length / 2 → okAt L j)
/-- A good set. -/
def goodS (L : List Int) : Bool := decide (L.length % 2 = 0) && decide (L.length ≤ 24) && inR L && okAll L
theorem goodS_true {L : List Int} (h : goodS L = true) : L.length % 2 = 0 ∧ L.length ≤ 24 ∧ inR L = true ∧ ∀ j, j < L.length / 2 → okAt L j := by
  simp [goodS, okAll] at h
  exact ⟨h.1.1.1, h.1.1.2, h.1.2, h.2⟩
theorem goodS_mk {L : List Int} (h1 : L.length % 2 = 0) (h2 : L.length ≤ 24) (h3 : inR L = true) (h4 : ∀ j, j < L.length / 2 → okAt L j) : goodS L = true := by
  simp [goodS, okAll]
  exact ⟨⟨⟨h1, h2⟩, h3⟩, h4⟩
set_option maxRecDepth 100000 in
set_option maxHeartbeats 1000000 in
theorem sall4_any (L : List Int) (ao : Option Addr) (cap : Nat) (w : World) (hl : L.length ≤ 1048576) (hA : IntsAt w ao L) :
    Calls Try.prog 32 #[.slice ao L.length cap, .int .i64 0, .int .i64 1114111] w fun e w' => e = .returned (.bool (inR L)) ∧ w' = w := by
  have HA : Hid _ := hA
  clear hA
  go_enter Try.func32, Try.ntmps32
  go_wp2
  go_loopw [11] (fun i wr => ∃ k : Nat, k ≤ L.length ∧ i = .int .i64 k ∧ (∀ j, j < k → 0 ≤ L.getD j 0 ∧ L.getD j 0 ≤ 1114111) ∧ wr = w) (fun i _ => L.length - (intOf i).toNat)
  case atStart => exact ⟨0, Nat.zero_le _, rfl, fun j hj => absurd hj (by omega), rfl⟩
  case round =>
    obtain ⟨k, hk, rfl, hall, rfl⟩ := hrel
    have HALL : Hid _ := hall
    clear hall
    by_cases hlt : k < L.length
    · have hltI : (k : Int) < (L.length : Int) := by omega
      obtain ⟨b1, o1, rfl, l1, h1⟩ := HA.out k hlt
      by_cases hgd : 0 ≤ L.getD k 0 ∧ L.getD k 0 ≤ 1114111
      · have HG : Hid _ := hgd
        have HN : Hid (∀ j, j < k + 1 → 0 ≤ L.getD j 0 ∧ L.getD j 0 ≤ 1114111) := fun j hj => by
          by_cases e : j = k
          · subst e; exact hgd
          · exact HALL.out j (by omega)
        clear hgd
        generalize L.getD k 0 = r at *
        go_wp2_with (go_at_call 30; refine (in_yes HG.out _).mono ?_; rintro e w' ⟨rfl, rfl⟩)
        go_roundw
        case rel => exact ⟨k + 1, by omega, by go_num, HN.out, by first | rfl | trivial⟩
        case measure => simp [intOf]; omega
      · have HG : Hid _ := hgd
        have HB : Hid _ := inR_bad hlt hgd
        clear hgd
        generalize L.getD k 0 = r at *
        go_wp2_with (go_at_call 30; refine (in_no HG.out _).mono ?_; rintro e w' ⟨rfl, rfl⟩)
        go_ret
        exact ⟨by rw [HB.out]; rfl, rfl⟩
    · obtain rfl : k = L.length := by omega
      have HB : Hid (inR L = true) := List.all_eq_true.2 fun r hr => by
        obtain ⟨j, hj, rfl⟩ := List.mem_iff_getElem.1 hr
        have := HALL.out j hj
        exact decide_eq_true (by simpa [List.getD, hj] using this)
      go_wp2
      go_ret
      exact ⟨by rw [HB.out]; rfl, rfl⟩
end Go.Proofs.Ytnlccplpcbdmnaa
