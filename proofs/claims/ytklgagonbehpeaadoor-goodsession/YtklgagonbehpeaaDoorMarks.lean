/-
  Contracts of laws.markIntS and laws.heldIntS.
-/
import Derived.Test.YtklgagonbehpeaaDoorEq
import Derived.Laws.OwnMore
namespace Go.Proofs.YtklgagonbehpeaaDoor
open Go.ChangeShapes Go.WideShapes Go.ChangeAt Go.RowKit
/-- The numbers of L, the first j of them c, c + 1, .. -/
def mk2 (L : List Int) (c : Int) (j : Nat) : List Int := (List.range L.length).map fun i => if i < j then c + i else L.getD i 0
theorem mk2_len (L : List Int) (c : Int) (j : Nat) : (mk2 L c j).length = L.length := by simp [mk2]
theorem mk2_at (L : List Int) (c : Int) (j i : Nat) (h : i < L.length) : (mk2 L c j)[i]? = some (if i < j then c + i else L.getD i 0) := by
  simp [mk2, h]
theorem mk2_zero (L : List Int) (c : Int) : mk2 L c 0 = L := by
  apply List.ext_getElem?
  intro i
  by_cases h : i < L.length
  · rw [mk2_at L c 0 i h]; simp [List.getD, h]
  · rw [List.getElem?_eq_none (by rw [mk2_len]; omega), List.getElem?_eq_none (by omega)]
theorem mk2_step (L : List Int) (c : Int) (j : Nat) (h : j < L.length) : (ints (mk2 L c j)).set j (.int .i64 (c + j)) = ints (mk2 L c (j + 1)) := by
  apply List.ext_getElem?
  intro i
  rw [List.getElem?_set]
  by_cases hi : i < L.length
  · simp only [ints, List.getElem?_map, mk2_at L c _ i hi, List.length_map, mk2_len]
    by_cases e : j = i
    · subst e; simp [hi]
    · simp only [e, if_false, Option.map_some]
      by_cases h2 : i < j
      · rw [if_pos h2, if_pos (by omega)]
      · rw [if_neg h2, if_neg (by omega)]
  · have n1 : (ints (mk2 L c j))[i]? = none := List.getElem?_eq_none (by simp [ints, mk2_len]; omega)
    have n2 : (ints (mk2 L c (j + 1)))[i]? = none := List.getElem?_eq_none (by simp [ints, mk2_len]; omega)
    rw [n1, n2, if_neg (by omega)]
theorem grown_trans {a b c : World} {row : Option Nat} (h : a.grownBy b row) (k : b.grownBy c row) : a.grownBy c row :=
  ⟨k.os.trans h.os, k.tape.trans h.tape, k.output.trans h.output, Nat.le_trans h.size k.size, fun i hi hn => (k.block i (Nat.lt_of_lt_of_le hi h.size) hn).trans (h.block i hi hn)⟩
theorem grown_refl (w : World) (row : Option Nat) : w.grownBy w row := ⟨rfl, rfl, rfl, Nat.le_refl _, fun _ _ _ => rfl⟩
end Go.Proofs.YtklgagonbehpeaaDoor
