/-
  Chapter 4's small functions of the specification: l1All, GoodSet, l4In, InSet, CountSet, l4Made.
-/
import Derived.Test.YtdhppigjlldfmaaC4Pure
import Derived.Test.YtdhppigjlldfmaaN3C
namespace Go.Proofs.Ytdhppigjlldfmaa
open Go.ChangeShapes Go.WideShapes Go.ChangeAt Go.RowKit
def inR (L : List Int) : Bool := L.all fun x => decide (0 ≤ x ∧ x ≤ 1114111)
theorem inR_true {L : List Int} (h : inR L = true) : ∀ x ∈ L, 0 ≤ x ∧ x ≤ 1114111 := fun x hx => of_decide_eq_true (List.all_eq_true.1 h x hx)
theorem inR_at {L : List Int} (h : inR L = true) {k : Nat} (hk : k < L.length) : 0 ≤ L.getD k 0 ∧ L.getD k 0 ≤ 1114111 := inR_true h _ (by simp [List.getD, hk])
theorem inR_bad {L : List Int} {k : Nat} (h : k < L.length) (hb : ¬ (0 ≤ L.getD k 0 ∧ L.getD k 0 ≤ 1114111)) : inR L = false := by
  rw [Bool.eq_false_iff]
  intro ha
  exact hb (inR_at ha h)
def okAt (L : List Int) (j : Nat) : Prop := L.getD (2 * j) 0 ≤ L.getD (2 * j + 1) 0 ∧ (0 < j → L.getD (2 * j - 1) 0 + 2 ≤ L.getD (2 * j) 0)
instance (L : List Int) (j : Nat) : Decidable (okAt L j) := by unfold okAt; exact inferInstance
def okAll (L : List Int) : Bool := decide (∀ j, j < L.length / 2 → okAt L j)
/-- A good set. -/
def goodS (L : List Int) : Bool := decide (L.length % 2 = 0) && decide (L.length ≤ 24) && inR L && okAll L
theorem goodS_true {L : List Int} (h : goodS L = true) : L.length % 2 = 0 ∧ L.length ≤ 24 ∧ inR L = true ∧ ∀ j, j < L.length / 2 → okAt L j := by
  simp [goodS, okAll] at h
  exact ⟨h.1.1.1, h.1.1.2, h.1.2, h.2⟩
theorem goodS_mk {L : List Int} (h1 : L.length % 2 = 0) (h2 : L.length ≤ 24) (h3 : inR L = true) (h4 : ∀ j, j < L.length / 2 → okAt L j) : goodS L = true := by
  simp [goodS, okAll]
  exact ⟨⟨⟨h1, h2⟩, h3⟩, h4⟩
end Go.Proofs.Ytdhppigjlldfmaa
