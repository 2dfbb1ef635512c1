/-
  Cuts: of the sets of a machine, as plain lists; sorting and thinning gives the same rising list as putting one after the other.
-/
import Derived.Test.YtlkcdcdgpklpoaaN6J
import Derived.Test.YtlkcdcdgpklpoaaC4A
import Derived.Lib.SlicesCompact
namespace Go.Proofs.Ytlkcdcdgpklpoaa
open Go.ChangeShapes Go.WideShapes Go.ChangeAt Go.RowKit
/-- The cuts that the i-th span of a set makes. -/
def pairC (L : List Int) (i : Nat) : List Int := (if 0 < L.getD (2 * i) 0 then [L.getD (2 * i) 0] else []) ++ (if L.getD (2 * i + 1) 0 < 1114111 then [L.getD (2 * i + 1) 0 + 1] else [])
def setC (L : List Int) (n : Nat) : List Int := (List.range n).flatMap (pairC L)
def rowsC (S : Rw) (k : Nat) : List Int := (List.range k).flatMap fun j => setC (rw_ S j) ((rw_ S j).length / 2)
theorem setC_succ (L : List Int) (n : Nat) : setC L (n + 1) = setC L n ++ pairC L n := by simp [setC, List.range_succ]
theorem rowsC_succ (S : Rw) (k : Nat) : rowsC S (k + 1) = rowsC S k ++ setC (rw_ S k) ((rw_ S k).length / 2) := by simp [rowsC, List.range_succ]
theorem pairC_len (L : List Int) (i : Nat) : (pairC L i).length ≤ 2 := by
  unfold pairC
  split <;> split <;> simp
theorem setC_len (L : List Int) : ∀ n, (setC L n).length ≤ 2 * n
  | 0 => by simp [setC]
  | n + 1 => by
    rw [setC_succ, List.length_append]
    have := setC_len L n
    have := pairC_len L n
    omega
theorem rowsC_len {S : Rw} (h : ∀ k, k < S.length → (rw_ S k).length ≤ 24) : ∀ k, k ≤ S.length → (rowsC S k).length ≤ 24 * k
  | 0, _ => by simp [rowsC]
  | k + 1, hk => by
    rw [rowsC_succ, List.length_append]
    have := rowsC_len h k (by omega)
    have := setC_len (rw_ S k) ((rw_ S k).length / 2)
    have := h k (by omega)
    omega
/-- One put after the other. -/
def putsL (X : List Int) : List Int := X.foldl (fun acc x => putL x acc) []
theorem putsL_snoc (X : List Int) (x : Int) : putsL (X ++ [x]) = putL x (putsL X) := by simp [putsL]
theorem putsL_len : ∀ X : List Int, (putsL X).length ≤ X.length := by
  have h : ∀ (X acc : List Int), (X.foldl (fun acc x => putL x acc) acc).length ≤ X.length + acc.length := by
    intro X
    induction X with
    | nil => intro acc; simp
    | cons x X ih =>
      intro acc
      have h1 := ih (putL x acc)
      have h2 := putL_len x acc
      simp only [List.foldl_cons, List.length_cons]
      omega
  intro X
  have := h X []
  show (X.foldl (fun acc x => putL x acc) []).length ≤ X.length
  simpa using this
theorem putsL_mem : ∀ (X : List Int) (y : Int), y ∈ putsL X ↔ y ∈ X := by
  have h : ∀ (X acc : List Int) (y : Int), y ∈ X.foldl (fun acc x => putL x acc) acc ↔ y ∈ X ∨ y ∈ acc := by
    intro X
    induction X with
    | nil => intro acc y; simp
    | cons x X ih =>
      intro acc y
      simp only [List.foldl_cons, List.mem_cons]
      rw [ih, mem_putL]
      constructor
      · rintro (h | h | h) <;> simp [h]
      · rintro ((h | h) | h) <;> simp [h]
  intro X y
  have := h X [] y
  simpa [putsL] using this
theorem putP_sorted {n : Int} : ∀ {L : List Int}, L.Pairwise (· < ·) → (putL n L).Pairwise (· < ·)
  | [], _ => by simp [putL]
  | y :: L, h => by
    obtain ⟨h1, h2⟩ := List.pairwise_cons.1 h
    unfold putL
    by_cases a : y < n
    · rw [if_pos a]
      refine List.pairwise_cons.2 ⟨fun x hx => ?_, putP_sorted h2⟩
      rcases mem_putL.1 hx with e | e
      · omega
      · exact h1 x e
    · rw [if_neg a]
      by_cases b : y = n
      · rw [if_pos b]; exact h
      · rw [if_neg b]
        refine List.pairwise_cons.2 ⟨fun x hx => ?_, h⟩
        rcases List.mem_cons.1 hx with e | e
        · omega
        · have := h1 x e; omega
theorem putsL_sorted (X : List Int) : (putsL X).Pairwise (· < ·) := by
  have h : ∀ (X acc : List Int), acc.Pairwise (· < ·) → (X.foldl (fun acc x => putL x acc) acc).Pairwise (· < ·) := by
    intro X
    induction X with
    | nil => intro acc h; exact h
    | cons x X ih => intro acc h; exact ih _ (putP_sorted h)
  exact h X [] List.Pairwise.nil
/-- Rising lists with the same members are one. -/
theorem rising_ext : ∀ {A B : List Int}, A.Pairwise (· < ·) → B.Pairwise (· < ·) → (∀ x, x ∈ A ↔ x ∈ B) → A = B
  | [], [], _, _, _ => rfl
  | [], b :: B, _, _, h => by have := (h b).2 (by simp); simp at this
  | a :: A, [], _, _, h => by have := (h a).1 (by simp); simp at this
  | a :: A, b :: B, ha, hb, h => by
    obtain ⟨a1, a2⟩ := List.pairwise_cons.1 ha
    obtain ⟨b1, b2⟩ := List.pairwise_cons.1 hb
    have e : a = b := by
      have h1 := (h a).1 (by simp)
      have h2 := (h b).2 (by simp)
      rcases List.mem_cons.1 h1 with q | q
      · exact q
      · rcases List.mem_cons.1 h2 with r | r
        · exact r.symm
        · have := b1 a q; have := a1 b r; omega
    subst e
    rw [rising_ext a2 b2 fun x => ?_]
    constructor
    · intro hx
      rcases List.mem_cons.1 ((h x).1 (List.mem_cons_of_mem _ hx)) with q | q
      · have := a1 x hx; omega
      · exact q
    · intro hx
      rcases List.mem_cons.1 ((h x).2 (List.mem_cons_of_mem _ hx)) with q | q
      · have := b1 x hx; omega
      · exact q
/-- What is left of a sorted list. -/
theorem comp_up (d : Array Int) (hs : ∀ i j, i < j → j < d.size → d[i]! ≤ d[j]!) : ∀ m, m ≤ d.size → (Lib.compactUpTo d m).Pairwise (· < ·) ∧ (∀ y, y ∈ Lib.compactUpTo d m ↔ ∃ j, j < m ∧ d[j]! = y)
  | 0, _ => by simp [Lib.compactUpTo]
  | m + 1, hm => by
    obtain ⟨h1, h2⟩ := comp_up d hs m (by omega)
    rw [Lib.compactUpTo_succ]
    by_cases hk : Lib.keeps d m = true
    · rw [if_pos hk]
      have hk2 := of_decide_eq_true hk
      refine ⟨List.pairwise_append.2 ⟨h1, by simp, fun x hx y hy => ?_⟩, fun y => ?_⟩
      · obtain ⟨j, hj, rfl⟩ := (h2 x).1 hx
        obtain rfl : y = d[m]! := by simpa using hy
        rcases hk2 with q | q
        · omega
        · have q1 := hs (m - 1) m (by omega) (by omega)
          have q2 : d[j]! ≤ d[m - 1]! := by
            by_cases e : j = m - 1
            · rw [e]; omega
            · exact hs j (m - 1) (by omega) (by omega)
          omega
      · rw [List.mem_append, h2]
        constructor
        · rintro (⟨j, hj, rfl⟩ | hy)
          · exact ⟨j, by omega, rfl⟩
          · exact ⟨m, by omega, (List.mem_singleton.1 hy).symm⟩
        · rintro ⟨j, hj, rfl⟩
          by_cases e : j = m
          · subst e; exact .inr (by simp)
          · exact .inl ⟨j, by omega, rfl⟩
    · rw [if_neg hk, List.append_nil]
      refine ⟨h1, fun y => ?_⟩
      rw [h2]
      constructor
      · rintro ⟨j, hj, rfl⟩; exact ⟨j, by omega, rfl⟩
      · rintro ⟨j, hj, rfl⟩
        by_cases e : j = m
        · subst e
          have hk2 : ¬ (j = 0 ∨ d[j]! ≠ d[j - 1]!) := fun q => hk (decide_eq_true q)
          refine ⟨j - 1, by omega, ?_⟩
          by_cases q : d[j]! = d[j - 1]!
          · exact q.symm
          · exact absurd (Or.inr q) hk2
        · exact ⟨j, by omega, rfl⟩
theorem comp_sort (X : List Int) : Lib.compact (X.mergeSort fun x y => decide (x ≤ y)) = putsL X := by
  have hp : (X.mergeSort fun x y => decide (x ≤ y)).Pairwise (fun a b => decide (a ≤ b) = true) := List.pairwise_mergeSort (fun a b c h1 h2 => by simp at *; omega) (fun a b => by simp; omega) X
  generalize hZ : (X.mergeSort fun x y => decide (x ≤ y)) = Z at *
  have hm : ∀ y, y ∈ Z ↔ y ∈ X := fun y => by rw [← hZ]; exact (List.mergeSort_perm X _).mem_iff
  have hs : ∀ i j, i < j → j < Z.toArray.size → Z.toArray[i]! ≤ Z.toArray[j]! := fun i j hij hj => by
    have hj' : j < Z.length := by simpa using hj
    have := List.pairwise_iff_getElem.1 hp i j (by omega) hj' hij
    simp [getElem!_pos, hj', show i < Z.length by omega]
    simpa using this
  obtain ⟨h1, h2⟩ := comp_up Z.toArray hs Z.length (by simp)
  refine rising_ext h1 (putsL_sorted X) fun y => ?_
  unfold Lib.compact
  rw [h2, putsL_mem, ← hm]
  constructor
  · rintro ⟨j, hj, rfl⟩
    simp [getElem!_pos, hj]
  · intro hy
    obtain ⟨j, hj, rfl⟩ := List.mem_iff_getElem.1 hy
    exact ⟨j, hj, by simp [getElem!_pos, hj]⟩
end Go.Proofs.Ytlkcdcdgpklpoaa
