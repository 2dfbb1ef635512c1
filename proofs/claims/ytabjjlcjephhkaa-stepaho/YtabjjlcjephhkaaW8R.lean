/-
  What the period of a list says: the list has it, and none that is shorter; where a word stands. No program.
-/
import Derived.Test.YtabjjlcjephhkaaW8M
import Derived.Test.YtabjjlcjephhkaaW8O
import Derived.Test.YtabjjlcjephhkaaW8Q
namespace Go.Proofs.Ytabjjlcjephhkaa
open Go.ChangeShapes Go.WideShapes Go.ChangeAt Go.WideMaps Go.WideElems Go.RowKit
theorem getD_q {L : List Int} {k : Nat} (h : k < L.length) : L[k]? = some (L.getD k 0) := by simp [List.getD, h]
/-- A beginning ends the list just where the list has the period. -/
theorem suf_per {L : List Int} {q : Nat} (hq : q ≤ L.length) : L.take (L.length - q) <:+ L ↔ ∀ k, q ≤ k → k < L.length → L.getD k 0 = L.getD (k - q) 0 := by
  have l1 : (L.take (L.length - q)).length = L.length - q := by rw [List.length_take]; omega
  rw [List.suffix_iff_eq_drop, l1, show L.length - (L.length - q) = q by omega]
  constructor
  · intro h k h1 h2
    have e : (L.take (L.length - q))[k - q]? = (L.drop q)[k - q]? := by rw [h]
    rw [List.getElem?_take, if_pos (by omega), List.getElem?_drop, show q + (k - q) = k by omega, getD_q h2, getD_q (by omega)] at e
    exact (Option.some.inj e).symm
  · intro h
    apply List.ext_getElem?
    intro i
    by_cases hi : i < L.length - q
    · rw [List.getElem?_take, if_pos hi, List.getElem?_drop, getD_q (by omega), getD_q (by omega), h (q + i) (by omega) (by omega), show q + i - q = i by omega]
    · rw [List.getElem?_eq_none (by omega), List.getElem?_eq_none (by rw [List.length_drop]; omega)]
theorem per_parts {L : List Int} (h : perB L = true) : ∃ p : Nat, perV L = (p : Int) ∧ 1 ≤ p ∧ p ≤ L.length ∧ (∀ k, p ≤ k → k < L.length → L.getD k 0 = L.getD (k - p) 0) ∧ ∀ q, 1 ≤ q → q < p → ¬ ∀ k, q ≤ k → k < L.length → L.getD k 0 = L.getD (k - q) 0 := by
  have h0 : L.length ≠ 0 := by
    unfold perB at h
    simp only [Bool.and_eq_true, decide_eq_true_eq] at h
    exact h.2
  have hb := bestK_le L (L.length - 1) (L.length - 1)
  obtain ⟨i1, i2⟩ := bestK_is L (L.length - 1) (by omega) (L.length - 1) (Nat.le_refl _)
  unfold perV
  rw [if_pos h]
  rw [show L.length - 1 + 1 = L.length by omega, List.take_length] at i1 i2
  generalize bestK L (L.length - 1) (L.length - 1) = b at *
  refine ⟨L.length - b, by omega, by omega, by omega, ?_, fun q q1 q2 hq => ?_⟩
  · exact (suf_per (by omega)).1 (by rw [show L.length - (L.length - b) = b by omega]; exact i1)
  · have := i2 (L.length - q) (by omega) ((suf_per (by omega)).2 hq)
    omega
theorem plA_at (T M : List Int) (i : Nat) (hi : i < (plA T M).length) : ∃ j : Nat, (plA T M).getD i 0 = (j : Int) ∧ j + M.length ≤ T.length ∧ (T.take (j + M.length)).drop j = M := by
  unfold plA at hi ⊢
  split at hi
  · rename_i ho
    rw [if_pos ho]
    have hm : (plc T M (T.length + 1 - M.length)).getD i 0 ∈ plc T M (T.length + 1 - M.length) := List.mem_of_getElem? (getD_q hi)
    generalize (plc T M (T.length + 1 - M.length)).getD i 0 = x at hm ⊢
    unfold plc at hm
    obtain ⟨j, hj, rfl⟩ := List.mem_map.1 hm
    obtain ⟨hj, hb⟩ := List.mem_filter.1 hj
    have := List.mem_range.1 hj
    refine ⟨j, rfl, by omega, ?_⟩
    rw [List.drop_take, show j + M.length - j = M.length by omega]
    exact of_decide_eq_true hb
  · simp at hi
end Go.Proofs.Ytabjjlcjephhkaa
