/-
  A trie read from a machine of words, as plain words.
-/
import Derived.Test.YtabjjlcjephhkaaW8V
import Derived.Test.YtabjjlcjephhkaaW8I
namespace Go.Proofs.Ytabjjlcjephhkaa
open Go.ChangeShapes Go.WideShapes Go.ChangeAt Go.WideMaps Go.WideElems Go.RowKit
/-- The states that the first k states of a machine give. -/
def rdQ (P B F : List Int) (V : Nat → Value) : Nat → List Sq
  | 0 => [⟨-1, -1, 0, 0, .slice none 0 0⟩]
  | k + 1 => if k = 0 then [⟨-1, -1, 0, 0, V 0⟩] else rdQ P B F V k ++ [⟨P.getD k 0, B.getD k 0, (sq (rdQ P B F V k) (P.getD k 0).toNat).l + 1, F.getD k 0, V k⟩]
/-- .. and the edges. -/
def rdE (P B : List Int) : Nat → Ed
  | 0 => noE
  | k + 1 => if k = 0 then noE else upE (rdE P B k) (P.getD k 0) (B.getD k 0) k
theorem rdQ_one (P B F : List Int) (V : Nat → Value) : rdQ P B F V 1 = [⟨-1, -1, 0, 0, V 0⟩] := rfl
theorem rdE_one (P B : List Int) : rdE P B 1 = noE := rfl
theorem rdQ_step (P B F : List Int) (V : Nat → Value) {k : Nat} (h : 0 < k) : rdQ P B F V (k + 1) = rdQ P B F V k ++ [⟨P.getD k 0, B.getD k 0, (sq (rdQ P B F V k) (P.getD k 0).toNat).l + 1, F.getD k 0, V k⟩] := by
  rw [rdQ, if_neg (by omega)]
theorem rdE_step (P B : List Int) {k : Nat} (h : 0 < k) : rdE P B (k + 1) = upE (rdE P B k) (P.getD k 0) (B.getD k 0) k := by
  rw [rdE, if_neg (by omega)]
theorem rdQ_len (P B F : List Int) (V : Nat → Value) : ∀ k, 0 < k → (rdQ P B F V k).length = k
  | k + 1, _ => by
    by_cases h : k = 0
    · subst h; rfl
    · rw [rdQ_step _ _ _ _ (by omega), List.length_append, rdQ_len P B F V k (by omega)]
      rfl
theorem rdE_some (P B : List Int) (f b : Int) (j : Nat) : ∀ k, rdE P B k f b = some j → 1 ≤ j ∧ j < k ∧ P.getD j 0 = f ∧ B.getD j 0 = b
  | 0, h => by cases h
  | k + 1, h => by
    by_cases h0 : k = 0
    · subst h0; cases h
    · rw [rdE_step _ _ (by omega)] at h
      unfold upE at h
      split at h
      · rename_i e
        cases h
        exact ⟨by omega, by omega, e.1.symm, e.2.symm⟩
      · obtain ⟨h1, h2, h3⟩ := rdE_some P B f b j k h
        exact ⟨h1, by omega, h3⟩
theorem rdE_none (P B : List Int) (f b : Int) : ∀ k, rdE P B k f b = none → ∀ j, 1 ≤ j → j < k → ¬ (P.getD j 0 = f ∧ B.getD j 0 = b)
  | 0, _, j, _, h2 => absurd h2 (by omega)
  | k + 1, h, j, h1, h2 => by
    by_cases h0 : k = 0
    · omega
    · rw [rdE_step _ _ (by omega)] at h
      unfold upE at h
      split at h
      · cases h
      · rename_i ne
        by_cases e : j = k
        · subst e
          exact fun ⟨a, b⟩ => ne ⟨a.symm, b.symm⟩
        · exact rdE_none P B f b k h j h1 (by omega)
/-- How long the lists are. -/
theorem rdQ_l (P B F : List Int) (V : Nat → Value) : ∀ k, (∀ j, 0 < j → j < k → 0 ≤ P.getD j 0 ∧ P.getD j 0 ≤ (j : Int) - 1) → ∀ j, j < (rdQ P B F V k).length → 0 ≤ (sq (rdQ P B F V k) j).l ∧ (sq (rdQ P B F V k) j).l ≤ j
  | 0, _, j, hj => by
    obtain rfl : j = 0 := by simp [rdQ] at hj; exact hj
    exact ⟨Int.le_refl _, Int.le_refl _⟩
  | k + 1, hp, j, hj => by
    by_cases h0 : k = 0
    · subst h0
      obtain rfl : j = 0 := by simp [rdQ] at hj; exact hj
      exact ⟨Int.le_refl _, Int.le_refl _⟩
    · have hl := rdQ_len P B F V k (by omega)
      have ih := rdQ_l P B F V k fun j h1 h2 => hp j h1 (by omega)
      rw [rdQ_step _ _ _ _ (by omega)] at hj ⊢
      rw [List.length_append, List.length_singleton, hl] at hj
      by_cases e : j < k
      · rw [sq_old _ _ _ (by omega)]
        exact ih j (by omega)
      · obtain rfl : j = k := by omega
        have hs := sq_new (rdQ P B F V j) ⟨P.getD j 0, B.getD j 0, (sq (rdQ P B F V j) (P.getD j 0).toNat).l + 1, F.getD j 0, V j⟩
        rw [hl] at hs
        rw [hs]
        have h1 := hp j (by omega) (by omega)
        have h2 := ih (P.getD j 0).toNat (by omega)
        dsimp only
        omega
theorem goodB_bd {x : Int} (h : goodB x = true) : 0 ≤ x ∧ x ≤ 1114111 := by
  unfold goodB at h
  have := of_decide_eq_true h
  omega
/-- A good machine's state at k, told by the program's words. -/
theorem stB_ok {P B F : List Int} {k : Nat} (h0 : 0 < k) (h : stB P B F k = true) (hn : noTwin P B k k) : okSt P B F k := by
  unfold stB at h
  rw [if_neg (by omega)] at h
  simp only [Bool.and_eq_true, decide_eq_true_eq] at h
  exact ⟨by omega, h.2.1, by omega, hn⟩
theorem stB_of {P B F : List Int} {k : Nat} (h0 : 0 < k) (h : okSt P B F k) : stB P B F k = true := by
  unfold stB
  rw [if_neg (by omega)]
  obtain ⟨h1, h2, h3, -⟩ := h
  simp only [Bool.and_eq_true, decide_eq_true_eq]
  exact ⟨by omega, h2, by omega⟩
theorem stB_0 {P B F : List Int} : stB P B F 0 = true ↔ P.getD 0 0 = -1 ∧ B.getD 0 0 = -1 ∧ F.getD 0 0 = 0 := by
  unfold stB
  rw [if_pos rfl]
  simp only [Bool.and_eq_true, decide_eq_true_eq]
end Go.Proofs.Ytabjjlcjephhkaa
