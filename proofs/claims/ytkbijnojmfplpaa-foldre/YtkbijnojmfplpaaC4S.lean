/-
  SetOf of both.
-/
import Derived.Test.YtkbijnojmfplpaaC4R
import Derived.Test.YtkbijnojmfplpaaC4Q
import Derived.Laws.MakeOwn
namespace Go.Proofs.Ytkbijnojmfplpaa
open Go.ChangeShapes Go.WideShapes Go.ChangeAt Go.RowKit
/-- A list of spans in the one form, none beyond what runes are. -/
structure CT (C : List (Int × Int)) : Prop where
  can : Can (-1) C
  top : Top C
theorem CT.bd {C : List (Int × Int)} (h : CT C) : ∀ p ∈ C, 0 ≤ p.1 ∧ p.1 ≤ 1114112 ∧ 0 ≤ p.2 ∧ p.2 ≤ 1114112 := fun p hp => by
  have h1 := h.can.ge hp
  have h2 := h.top p hp
  omega
theorem top_of_mem {C : List (Int × Int)} (hc : Can (-1) C) (h : ∀ x, Mem x C → x ≤ 1114111) : Top C := fun p hp => by
  have h1 := (hc.ge hp).2
  have := h (p.2 - 1) (mem_iff.2 ⟨p, hp, by omega, by omega⟩)
  omega
theorem mem_le {C : List (Int × Int)} (ht : Top C) {x : Int} (h : Mem x C) : x ≤ 1114111 := by
  obtain ⟨p, hp, h1⟩ := mem_iff.1 h
  have := ht p hp
  omega
theorem addS_ct {C : List (Int × Int)} (h : CT C) {lo hi : Int} (h1 : 0 ≤ lo) (h2 : lo ≤ hi) (h3 : hi ≤ 1114111) : CT (addS C lo (hi + 1)) ∧ ∀ x, Mem x (addS C lo (hi + 1)) ↔ Mem x C ∨ (lo ≤ x ∧ x < hi + 1) := by
  obtain ⟨k1, k2⟩ := addS_can (S := C) (c := -1) (lo := lo) (hi := hi + 1) h.can (by omega) (by omega)
  refine ⟨⟨k1, top_of_mem k1 fun x hx => ?_⟩, k2⟩
  rcases (k2 x).1 hx with m | m
  · exact mem_le h.top m
  · omega
theorem addS_len {C : List (Int × Int)} (h : CT C) {lo hi : Int} (h1 : 0 ≤ lo ∧ lo ≤ 1114112) (h2 : 0 ≤ hi ∧ hi ≤ 1114112) : (addS C lo hi).length ≤ C.length + 1 := by
  have := (addF_bd h.bd h1 h2).2.2
  unfold addS insS
  rw [List.length_append, List.length_cons]
  have e : ((addF C lo hi).1.takeWhile (fun p => decide (p.1 < (addF C lo hi).2.1))).length + ((addF C lo hi).1.dropWhile (fun p => decide (p.1 < (addF C lo hi).2.1))).length = (addF C lo hi).1.length := by
    rw [← List.length_append, List.takeWhile_append_dropWhile]
  omega
/-- The set of some runes. -/
def setL (L : List Int) : List (Int × Int) := L.foldl (fun C r => addS C r (r + 1)) []
theorem setL_snoc (L : List Int) (r : Int) : setL (L ++ [r]) = addS (setL L) r (r + 1) := by simp [setL]
theorem setL_facts (L : List Int) (h : ∀ r ∈ L, 0 ≤ r ∧ r ≤ 1114111) (k : Nat) (hk : k ≤ L.length) : CT (setL (L.take k)) ∧ (setL (L.take k)).length ≤ k ∧ ∀ x, Mem x (setL (L.take k)) ↔ x ∈ L.take k := by
  induction k with
  | zero => exact ⟨⟨trivial, fun p hp => by cases hp⟩, Nat.le_refl _, fun x => by simp [setL, Mem]⟩
  | succ k ih =>
    obtain ⟨i1, i2, i3⟩ := ih (by omega)
    have hr := h (L.getD k 0) (by simp [List.getD, show k < L.length by omega])
    rw [take_snoc L k (by omega), setL_snoc]
    obtain ⟨j1, j2⟩ := addS_ct i1 (lo := L.getD k 0) (hi := L.getD k 0) hr.1 (Int.le_refl _) hr.2
    have j3 := addS_len i1 (lo := L.getD k 0) (hi := L.getD k 0 + 1) (by omega) (by omega)
    refine ⟨j1, by omega, fun x => ?_⟩
    rw [j2 x, i3 x, List.mem_append, List.mem_singleton]
    constructor
    · rintro (m | m)
      · exact .inl m
      · exact .inr (by omega)
    · rintro (m | m)
      · exact .inl m
      · exact .inr (by omega)
def setB (L : List Int) : Bool := allG L && decide (L.length ≤ 1000)
theorem setB_true {L : List Int} (h : setB L = true) : allG L = true ∧ L.length ≤ 1000 := by simpa [setB] using h
theorem allG_bd {L : List Int} (h : allG L = true) : ∀ r ∈ L, 0 ≤ r ∧ r ≤ 1114111 := fun r hr => by have := goodB_true (allG_true h r hr); omega
/-- The spans of one rune each. -/
def oneL (L : List Int) : List (Int × Int) := L.map fun r => (r, r + 1)
theorem oneL_take (L : List Int) (k : Nat) (h : k < L.length) : oneL (L.take (k + 1)) = oneL (L.take k) ++ [(L.getD k 0, L.getD k 0 + 1)] := by
  rw [take_snoc L k h]
  simp [oneL]
theorem oneL_mem (L : List Int) (x : Int) : Mem x (oneL L) ↔ x ∈ L := by
  rw [mem_iff]
  constructor
  · rintro ⟨p, hp, h1⟩
    simp only [oneL, List.mem_map] at hp
    obtain ⟨r, hr, rfl⟩ := hp
    simp only at h1
    obtain rfl : x = r := by omega
    exact hr
  · intro h
    exact ⟨(x, x + 1), by simp only [oneL, List.mem_map]; exact ⟨x, h, rfl⟩, by simp only; omega⟩
theorem make_spans (w : World) (n : Nat) (hn : n ≤ 1048576) : ∃ w', (Instr.makeSlice 109 (.int .i64 0) (.int .i64 (n : Int))).run Try.prog w = .ok (.slice (some ⟨w.heap.size, 0, none⟩) 0 n) w' ∧ ownS w' w.heap.size (.slice (some ⟨w.heap.size, 0, none⟩) 0 n) [] ∧ Below w.heap.size w w' := by
  obtain ⟨i0, hi, hz0, hz1, hz2⟩ := info62b
  obtain ⟨w1, h1, h2, h3⟩ := run_make_own (P := Try.prog) w w.heap.size 109 103 i0 _ 2 Try.underlying109 hi hz0 hz1 .i64 .i64 n (by rw [hz2]; omega) (by unfold maxLen; omega) (Nat.le_refl _)
  exact ⟨w1, h1, h2, Below.grown (Below.refl _ _) h3 (Nat.le_refl _) (fun g hg => by cases hg)⟩
end Go.Proofs.Ytkbijnojmfplpaa
