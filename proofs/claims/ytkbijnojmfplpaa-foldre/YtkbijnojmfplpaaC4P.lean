/-
  The contrary in the specification: l4Not, l4Made, NotSet.
-/
import Derived.Test.YtkbijnojmfplpaaC4O
namespace Go.Proofs.Ytkbijnojmfplpaa
open Go.ChangeShapes Go.WideShapes Go.ChangeAt Go.RowKit
theorem flS_at : ∀ (C : List (Int × Int)) (j : Nat), j < C.length → (flS C).getD (2 * j) 0 = (C.getD j (0, 0)).1 ∧ (flS C).getD (2 * j + 1) 0 = (C.getD j (0, 0)).2 - 1
  | [], j, h => by simp at h
  | p :: r, 0, _ => ⟨rfl, rfl⟩
  | p :: r, j + 1, h => by
    have := flS_at r j (by simp at h; omega)
    rw [show 2 * (j + 1) = 2 * j + 1 + 1 by omega]
    simpa [flS] using this
theorem PR_flS (C : List (Int × Int)) : PR (flS C) C.length = C := by
  refine List.ext_getElem (by simp [PR]) fun j h1 h2 => ?_
  have h := flS_at C j h2
  simp only [PR, List.getElem_map, List.getElem_range]
  rw [h.1, h.2]
  simp [List.getD, h2]
theorem flS_PR (L : List Int) (n : Nat) (hn : L.length = 2 * n) : flS (PR L n) = L := by
  refine List.ext_getElem (by rw [flS_len, PR_len, hn]) fun j h1 h2 => ?_
  have hj : j / 2 < (PR L n).length := by rw [PR_len]; omega
  have h := flS_at (PR L n) (j / 2) hj
  have e : (PR L n).getD (j / 2) (0, 0) = (L.getD (2 * (j / 2)) 0, L.getD (2 * (j / 2) + 1) 0 + 1) := by
    rw [PR_len] at hj
    simp [PR, List.getD, hj]
  rw [e] at h
  have g1 : (flS (PR L n))[j] = (flS (PR L n)).getD j 0 := by simp [List.getD, h1]
  have g2 : L[j] = L.getD j 0 := by simp [List.getD, h2]
  rw [g1, g2]
  rcases (by omega : j = 2 * (j / 2) ∨ j = 2 * (j / 2) + 1) with e | e
  · rw [← e] at h; exact h.1
  · rw [← e] at h; rw [h.2]; simp only; omega
/-- Spans that reach no further than runes do. -/
def Top (C : List (Int × Int)) : Prop := ∀ p ∈ C, p.2 ≤ 1114112
theorem goodS_flS {C : List (Int × Int)} (hc : Can (-1) C) (ht : Top C) : goodS (flS C) = decide (C.length ≤ 12) := by
  have hl := flS_len C
  by_cases h : C.length ≤ 12
  · rw [decide_eq_true h]
    refine goodS_of (n := C.length) hl (by omega) (fun j hj => ?_) (by rw [PR_flS]; exact hc)
    have hf := flS_at C j hj
    have hm : C.getD j (0, 0) ∈ C := by simp [List.getD, hj]
    have h1 := hc.ge hm
    have h2 := ht _ hm
    unfold spok
    rw [hf.1, hf.2]
    omega
  · rw [decide_eq_false h, Bool.eq_false_iff]
    intro hg
    have := (goodS_true hg).2.1
    omega
theorem top_PR {L : List Int} {n : Nat} (hs : ∀ j, j < n → spok L j) : Top (PR L n) := fun p hp => by
  simp only [PR, List.mem_map, List.mem_range] at hp
  obtain ⟨j, hj, rfl⟩ := hp
  have := hs j hj
  unfold spok at this
  show L.getD (2 * j + 1) 0 + 1 ≤ 1114112
  omega
/-- The gaps ahead of the spans so far, and from where on the next one is. -/
def gaps : List (Int × Int) → Int → List (Int × Int) × Int
  | [], f => ([], f)
  | p :: r, f => ((if f < p.1 then [(f, p.1)] else []) ++ (gaps r p.2).1, (gaps r p.2).2)
theorem gaps_snoc (A : List (Int × Int)) (p : Int × Int) (f : Int) : gaps (A ++ [p]) f = ((gaps A f).1 ++ (if (gaps A f).2 < p.1 then [((gaps A f).2, p.1)] else []), p.2) := by
  induction A generalizing f with
  | nil => simp only [List.nil_append, gaps, List.append_nil]; rfl
  | cons q r ih =>
    simp only [List.cons_append, gaps]
    rw [ih, List.append_assoc]
    rfl
theorem notF_gaps (S : List (Int × Int)) (f : Int) : notF S f = (gaps S f).1 ++ (if (gaps S f).2 ≤ 1114111 then [((gaps S f).2, 1114112)] else []) := by
  induction S generalizing f with
  | nil => simp only [notF, gaps, List.nil_append]; rfl
  | cons p r ih =>
    unfold notF gaps
    rw [ih]
    split <;> simp
theorem gaps_bd {C : List (Int × Int)} (hc : Can (-1) C) (ht : Top C) (f : Int) (hf : 0 ≤ f ∧ f ≤ 1114112) (k : Nat) : 0 ≤ (gaps (C.take k) f).2 ∧ (gaps (C.take k) f).2 ≤ 1114112 ∧ (gaps (C.take k) f).1.length ≤ k := by
  induction k with
  | zero => exact ⟨hf.1, hf.2, Nat.le_refl _⟩
  | succ k ih =>
    by_cases h : k < C.length
    · rw [take_snocS C k h, gaps_snoc]
      have hm : C.getD k (0, 0) ∈ C := by simp [List.getD, h]
      have h1 := hc.ge hm
      have h2 := ht _ hm
      refine ⟨by simp only; omega, h2, ?_⟩
      split <;> simp <;> omega
    · rw [List.take_of_length_le (by omega)]
      rw [List.take_of_length_le (by omega)] at ih
      exact ⟨ih.1, ih.2.1, by omega⟩
theorem notF_top {S : List (Int × Int)} : ∀ {f : Int}, (∀ p ∈ S, p.1 < p.2) → Top S → Top (notF S f) := by
  induction S with
  | nil =>
    intro f _ _ p hp
    unfold notF at hp
    split at hp
    · simp at hp; subst hp; exact Int.le_refl _
    · cases hp
  | cons q r ih =>
    intro f hne ht p hp
    have hq := ht q (by simp)
    have hq2 := hne q (by simp)
    have hr : Top (notF r q.2) := ih (fun p hp => hne p (by simp [hp])) fun p hp => ht p (by simp [hp])
    unfold notF at hp
    split at hp
    · rcases List.mem_cons.1 hp with rfl | hp
      · show q.1 ≤ 1114112
        omega
      · exact hr p hp
    · exact hr p hp
theorem notF_len (S : List (Int × Int)) (f : Int) : (notF S f).length ≤ S.length + 1 := by
  induction S generalizing f with
  | nil => unfold notF; split <;> simp
  | cons q r ih => unfold notF; have := ih q.2; split <;> simp <;> omega
/-- The set of a good list. -/
structure Good4 (L : List Int) (C : List (Int × Int)) : Prop where
  fl : flS C = L
  can : Can (-1) C
  top : Top C
  le : C.length ≤ 12
  pr : PR L (L.length / 2) = C
theorem good4_of {L : List Int} (h : goodS L = true) : ∃ C, Good4 L C := by
  have h1 := (goodS_true h).1
  have h2 := goodS_spok (n := L.length / 2) (by omega) h
  exact ⟨PR L (L.length / 2), flS_PR L _ (by omega), h2.2, top_PR h2.1, goodS_le h, rfl⟩
theorem Good4.ne {L : List Int} {C : List (Int × Int)} (h : Good4 L C) : ∀ p ∈ C, p.1 < p.2 := fun _ hp => (h.can.ge hp).2
theorem Good4.good {L : List Int} {C : List (Int × Int)} (h : Good4 L C) : goodS L = true := by rw [← h.fl, goodS_flS h.can h.top, decide_eq_true h.le]
/-- The contrary of a good set. -/
theorem not_facts {L : List Int} {C : List (Int × Int)} (h : Good4 L C) : Can (-1) (notF C 0) ∧ Top (notF C 0) ∧ (notF C 0).length ≤ 13 ∧ ∀ x, Mem x (notF C 0) ↔ (0 ≤ x ∧ x ≤ 1114111) ∧ ¬ Mem x C := by
  obtain ⟨h1, h2⟩ := notF_can (S := C) (f := 0) (c := -1) (h.can.mono (by omega)) (by omega) h.top
  have := notF_len C 0
  have := h.le
  exact ⟨h1, notF_top h.ne h.top, by omega, h2⟩
/-- What a function that makes a set answers. -/
def SetE (w w' : World) (D : List (Int × Int)) (e : Ending) : Prop := (D.length ≤ 12 ∧ ∃ v, e = .returned (.tuple #[v, .bool true]) ∧ w'.ownsRow w.heap.size 3 1 v (flS D).length (ints (flS D))) ∨ (12 < D.length ∧ e = .returned (.tuple #[.slice none 0 0, .bool false]))
end Go.Proofs.Ytkbijnojmfplpaa
