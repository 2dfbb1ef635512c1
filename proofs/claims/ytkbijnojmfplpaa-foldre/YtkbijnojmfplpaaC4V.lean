/-
  Union and meeting in the specification: l4Union, UnionSet, MeetSet.
-/
import Derived.Test.YtkbijnojmfplpaaC4S
import Derived.Deep.RegionWith
namespace Go.Proofs.Ytkbijnojmfplpaa
open Go.ChangeShapes Go.WideShapes Go.ChangeAt Go.RowKit
/-- Spans added one by one. -/
def uniF (A B : List (Int × Int)) : List (Int × Int) := B.foldl (fun C p => addS C p.1 p.2) A
theorem uniF_snoc (A B : List (Int × Int)) (p : Int × Int) : uniF A (B ++ [p]) = addS (uniF A B) p.1 p.2 := by simp [uniF]
theorem uniF_facts {A B : List (Int × Int)} (hA : CT A) (hB : CT B) : ∀ k, k ≤ B.length → CT (uniF A (B.take k)) ∧ (uniF A (B.take k)).length ≤ A.length + k ∧ ∀ x, Mem x (uniF A (B.take k)) ↔ Mem x A ∨ Mem x (B.take k)
  | 0, _ => ⟨hA, Nat.le_refl _, fun x => by simp [uniF, Mem]⟩
  | k + 1, h => by
    obtain ⟨i1, i2, i3⟩ := uniF_facts hA hB k (by omega)
    have hm : B.getD k (0, 0) ∈ B := by simp [List.getD, show k < B.length by omega]
    have h1 := hB.can.ge hm
    have h2 := hB.top _ hm
    rw [take_snocS B k (by omega), uniF_snoc]
    generalize B.getD k (0, 0) = p at *
    obtain ⟨j1, j2⟩ := addS_ct i1 (lo := p.1) (hi := p.2 - 1) (by omega) (by omega) (by omega)
    rw [Int.sub_add_cancel] at j1 j2
    have j3 := addS_len i1 (lo := p.1) (hi := p.2) (by omega) (by omega)
    refine ⟨j1, by omega, fun x => ?_⟩
    rw [j2 x, i3 x, mem_append, or_assoc]
    simp [Mem]
end Go.Proofs.Ytkbijnojmfplpaa
