/-
  MeetSet of the program.
-/
import Derived.Test.YtkbijnojmfplpaaC4W
namespace Go.Proofs.Ytkbijnojmfplpaa
open Go.ChangeShapes Go.WideShapes Go.ChangeAt Go.RowKit
def meetP (p q : Int × Int) : Int × Int := (max p.1 q.1, min p.2 q.2)
/-- The twelve spans of a set's array. -/
def tw (C : List (Int × Int)) : List (Int × Int) := (List.range 12).map fun j => C.getD j (0, 0)
theorem tw_len (C : List (Int × Int)) : (tw C).length = 12 := by simp [tw]
theorem tw_get (C : List (Int × Int)) (k : Nat) (hk : k < 12) : (tw C).getD k (0, 0) = C.getD k (0, 0) := by simp [tw, List.getD, hk]
theorem tw_mem {C : List (Int × Int)} (hl : C.length ≤ 12) (x : Int) : Mem x (tw C) ↔ Mem x C := by
  rw [mem_iff, mem_iff]
  constructor
  · rintro ⟨p, hp, h⟩
    simp only [tw, List.mem_map, List.mem_range] at hp
    obtain ⟨j, hj, rfl⟩ := hp
    by_cases hc : j < C.length
    · exact ⟨_, by simp [List.getD, hc], h⟩
    · rw [show C.getD j (0, 0) = (0, 0) by simp [List.getD, List.getElem?_eq_none (Nat.le_of_not_lt hc)]] at h
      simp only at h
      omega
  · rintro ⟨p, hp, h⟩
    obtain ⟨j, hj, rfl⟩ := List.mem_iff_getElem.1 hp
    refine ⟨C[j], ?_, h⟩
    simp only [tw, List.mem_map, List.mem_range]
    exact ⟨j, by omega, by simp [List.getD, hj]⟩
theorem tw_bd {C : List (Int × Int)} (h : CT C) : ∀ p ∈ tw C, 0 ≤ p.1 ∧ p.1 ≤ 1114112 ∧ 0 ≤ p.2 ∧ p.2 ≤ 1114112 := fun p hp => by
  simp only [tw, List.mem_map, List.mem_range] at hp
  obtain ⟨j, hj, rfl⟩ := hp
  by_cases hc : j < C.length
  · exact h.bd _ (by simp [List.getD, hc])
  · rw [show C.getD j (0, 0) = (0, 0) by simp [List.getD, List.getElem?_eq_none (Nat.le_of_not_lt hc)]]
    simp only
    omega
/-- All meetings, row by row. -/
def crossS (A B : List (Int × Int)) : List (Int × Int) := A.flatMap fun p => B.map (meetP p)
theorem crossS_mem (A B : List (Int × Int)) (x : Int) : Mem x (crossS A B) ↔ Mem x A ∧ Mem x B := by
  simp only [mem_iff, crossS, List.mem_flatMap, List.mem_map]
  constructor
  · rintro ⟨_, ⟨p, hp, q, hq, rfl⟩, h⟩
    unfold meetP at h
    simp only at h
    exact ⟨⟨p, hp, by omega⟩, ⟨q, hq, by omega⟩⟩
  · rintro ⟨⟨p, hp, h1⟩, ⟨q, hq, h2⟩⟩
    exact ⟨meetP p q, ⟨p, hp, q, hq, rfl⟩, by unfold meetP; simp only; omega⟩
theorem crossS_len (A B : List (Int × Int)) : (crossS A B).length = A.length * B.length := by
  induction A with
  | nil => simp [crossS]
  | cons p r ih =>
    have : crossS (p :: r) B = B.map (meetP p) ++ crossS r B := rfl
    rw [this, List.length_append, ih, List.length_map, List.length_cons, Nat.succ_mul]
    omega
theorem crossS_take (A B : List (Int × Int)) (k : Nat) (h : k < A.length) : crossS (A.take (k + 1)) B = crossS (A.take k) B ++ B.map (meetP (A.getD k (0, 0))) := by
  rw [take_snocS A k h]
  simp [crossS]
theorem map_take (p : Int × Int) (B : List (Int × Int)) (j : Nat) (h : j < B.length) : (B.take (j + 1)).map (meetP p) = (B.take j).map (meetP p) ++ [meetP p (B.getD j (0, 0))] := by
  rw [take_snocS B j h]
  simp
section
variable (L M : List Int) (ao bo : Option Addr) (ca cb : Nat) (w : World)
end
end Go.Proofs.Ytkbijnojmfplpaa
