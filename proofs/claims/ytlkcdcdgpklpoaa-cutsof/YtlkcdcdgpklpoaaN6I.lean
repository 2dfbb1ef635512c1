/-
  RunNfa of the program.
-/
import Derived.Test.YtlkcdcdgpklpoaaN6H
import Derived.Test.YtlkcdcdgpklpoaaN3B
import Derived.Deep.RegionHeld
namespace Go.Proofs.Ytlkcdcdgpklpoaa
open Go.ChangeShapes Go.WideShapes Go.ChangeAt Go.WideMaps Go.WideElems Go.RowKit
theorem rst_eq (st : Option Nat) : rst st = .agg #[.bool st.isSome, .int .u64 (st.getD 0 : Nat)] := by cases st <;> rfl
/-- The state behind the first runes. -/
def stN (S G : Rw) (F : List Int) (X : List Int) : Nat → Option Nat
  | 0 => none
  | k + 1 => some (nextN G (bitsL F) S.length (bitsP (fun j => memS (rw_ S j) (X.getD k 0)) S.length) (stN S G F X k))
noncomputable def gN (S G : Rw) (F L X : List Int) : Bool := goodN S G F L && (allG X && decide (X.length ≤ 1000))
def rN (E : Bool) (S G : Rw) (F L X : List Int) : Bool := finN E (bitsL L) (stN S G F X X.length)
theorem bitsL_lt {N : Nat} (hN : N ≤ 40) : ∀ {L : List Int}, (∀ y ∈ L, 0 ≤ y ∧ y < (N : Int)) → bitsL L < 1099511627776 := by
  intro L h
  have key : ∀ (L : List Int) (n : Nat), n < 1099511627776 → (∀ y ∈ L, 0 ≤ y ∧ y < (N : Int)) → L.foldl (fun n y => n ||| 2 ^ y.toNat) n < 1099511627776 := by
    intro L
    induction L with
    | nil => intro n hn _; exact hn
    | cons y L ih =>
      intro n hn h
      have := h y (by simp)
      exact ih _ (or_lt hn this.1 (by omega)) fun z hz => h z (by simp [hz])
  exact key L 0 (by omega) h
theorem ris_lt {N : Nat} (hN : N ≤ 40) {L : List Int} (h : risB 0 ((N : Int) - 1) L = true) : bitsL L < 1099511627776 := by
  refine bitsL_lt hN fun y hy => ?_
  obtain ⟨j, hj, rfl⟩ := List.mem_iff_getElem.1 hy
  have := (of_decide_eq_true h j hj).1
  have e : L.getD j 0 = L[j] := by simp [List.getD, hj]
  rw [e] at this
  omega
theorem stN_lt {S G : Rw} {F X : List Int} (hF : bitsL F < 1099511627776) (hG : ∀ k, k < S.length → bitsL (rw_ G k) < 1099511627776) : ∀ k n, stN S G F X k = some n → n < 1099511627776
  | 0, n, h => by cases h
  | k + 1, n, h => by
    simp only [stN, Option.some.injEq] at h
    subst h
    cases stN S G F X k with
    | none => exact and_lt hF
    | some m => exact stepB_lt hG _ (Nat.le_refl _)
theorem goodN_of {S G : Rw} {F L : List Int} (h : goodN S G F L = true) : okN S G F L := @of_decide_eq_true _ (Classical.propDecidable _) h
end Go.Proofs.Ytlkcdcdgpklpoaa
