/-
  Letters that count as one, in the specification: l4FoldSet, FoldSet.
-/
import Derived.Test.YtpkhmihkchiheaaC4S
namespace Go.Proofs.Ytpkhmihkchiheaa
open Go.ChangeShapes Go.WideShapes Go.ChangeAt Go.RowKit
theorem memS_flS (C : List (Int × Int)) (r : Int) : memS (flS C) r = true ↔ Mem r C := by
  have hl := flS_len C
  rw [mem_iff]
  constructor
  · intro h
    obtain ⟨j, hj, hd⟩ := List.any_eq_true.1 h
    have hj' : j < C.length := by have := List.mem_range.1 hj; omega
    have hd := of_decide_eq_true hd
    have hf := flS_at C j hj'
    rw [hf.1, hf.2] at hd
    exact ⟨C.getD j (0, 0), by simp [List.getD, hj'], by omega⟩
  · rintro ⟨p, hp, h1⟩
    obtain ⟨j, hj, rfl⟩ := List.mem_iff_getElem.1 hp
    have hf := flS_at C j hj
    have e : C.getD j (0, 0) = C[j] := by simp [List.getD, hj]
    rw [e] at hf
    exact memS_true (j := j) (by omega) (by rw [hf.1, hf.2]; omega)
/-- The set with the letters that count as one with its own, as far as it goes. -/
def foldK (C : List (Int × Int)) : Nat → List (Int × Int)
  | 0 => C
  | i + 1 => if (memS (flS C) (65 + i) || memS (flS C) (97 + i)) = true then addS (addS (foldK C i) (65 + i) (65 + i + 1)) (97 + i) (97 + i + 1) else foldK C i
theorem foldK_facts {C : List (Int × Int)} (h : CT C) (hl : C.length ≤ 12) : ∀ i : Nat, i ≤ 26 → CT (foldK C i) ∧ (foldK C i).length ≤ 12 + 2 * i ∧ ∀ x, Mem x (foldK C i) ↔ Mem x C ∨ ∃ j : Nat, j < i ∧ (Mem (65 + j) C ∨ Mem (97 + j) C) ∧ (x = 65 + j ∨ x = 97 + j)
  | 0, _ => ⟨h, by simpa [foldK] using hl, fun x => ⟨.inl, fun q => q.elim id (fun ⟨j, hj, _⟩ => absurd hj (by omega))⟩⟩
  | i + 1, hi => by
    obtain ⟨i1, i2, i3⟩ := foldK_facts h hl i (by omega)
    unfold foldK
    have hm : ((memS (flS C) (65 + i) || memS (flS C) (97 + i)) = true) ↔ (Mem (65 + i) C ∨ Mem (97 + i) C) := by rw [Bool.or_eq_true, memS_flS, memS_flS]
    by_cases hb : (memS (flS C) (65 + i) || memS (flS C) (97 + i)) = true
    · rw [if_pos hb]
      obtain ⟨a1, a2⟩ := addS_ct i1 (lo := 65 + i) (hi := 65 + i) (by omega) (Int.le_refl _) (by omega)
      have a3 := addS_len i1 (lo := 65 + i) (hi := 65 + i + 1) (by omega) (by omega)
      obtain ⟨b1, b2⟩ := addS_ct a1 (lo := 97 + i) (hi := 97 + i) (by omega) (Int.le_refl _) (by omega)
      have b3 := addS_len a1 (lo := 97 + i) (hi := 97 + i + 1) (by omega) (by omega)
      refine ⟨b1, by omega, fun x => ?_⟩
      rw [b2 x, a2 x, i3 x]
      constructor
      · rintro (((q | ⟨j, hj, q1, q2⟩) | q) | q)
        · exact .inl q
        · exact .inr ⟨j, by omega, q1, q2⟩
        · exact .inr ⟨i, by omega, hm.1 hb, .inl (by omega)⟩
        · exact .inr ⟨i, by omega, hm.1 hb, .inr (by omega)⟩
      · rintro (q | ⟨j, hj, q1, q2⟩)
        · exact .inl (.inl (.inl q))
        · by_cases e : j = i
          · subst e
            rcases q2 with q2 | q2
            · exact .inl (.inr (by omega))
            · exact .inr (by omega)
          · exact .inl (.inl (.inr ⟨j, by omega, q1, q2⟩))
    · rw [if_neg hb]
      refine ⟨i1, by omega, fun x => ?_⟩
      rw [i3 x]
      constructor
      · rintro (q | ⟨j, hj, q1, q2⟩)
        · exact .inl q
        · exact .inr ⟨j, by omega, q1, q2⟩
      · rintro (q | ⟨j, hj, q1, q2⟩)
        · exact .inl q
        · by_cases e : j = i
          · subst e
            exact absurd (hm.2 q1) hb
          · exact .inr ⟨j, by omega, q1, q2⟩
end Go.Proofs.Ytpkhmihkchiheaa
