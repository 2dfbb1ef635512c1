/-
  Contract of spec.l2One: the rune at the front of some bytes in a code.
-/
import Derived.Test.YtklgagonbehpeaaDoorD2Good
namespace Go.Proofs.YtklgagonbehpeaaDoor
open Go.ChangeShapes Go.WideShapes Go.ChangeAt Go.RowKit
theorem at_zero2 (x : ByteArray) (w : World) (hs : x.size ≤ 2000) (hi : 0 < x.size) :
    Calls Tryd.prog 35 #[.string x, .int .i64 0] w fun e w' => e = .returned (.tuple #[.int .i64 (decR x 0), .int .i64 (decW x 0)]) ∧ Below w.heap.size w w' := at_any2 x 0 w hs hi
theorem slice_two (s : ByteArray) (h2 : 2 ≤ s.size) (w : World) : (Instr.slice 9 (.string s) (some (.int .i64 2)) none none).run Tryd.prog w = .ok (.string (s.extract 2 s.size)) w := by
  have h' : (2 : Int) ≤ s.size := by omega
  go_simp
theorem tail2_byt (s : ByteArray) (k : Nat) (h : 2 + k < s.size) : byt (s.extract 2 s.size) k = byt s (2 + k) := by
  have hz : (s.extract 2 s.size).size = s.size - 2 := by rw [ByteArray.size_extract]; omega
  have e1 : (s.extract 2 s.size).data.toList[k]? = some s[2 + k] := by
    rw [Lib.extract_data, List.getElem?_take, if_pos (by omega), List.getElem?_drop]
    exact byt_list s (2 + k) h
  rw [byt_of e1, byt_eq h]
theorem unit_tail (en : Int) (s : ByteArray) (h : 4 ≤ s.size) : unitN en (s.extract 2 s.size) 0 = unitN en s 2 := by
  unfold unitN
  have a := tail2_byt s 0 (by omega)
  have b := tail2_byt s 1 (by omega)
  simp only [Nat.add_zero, Nat.zero_add] at a b ⊢
  rw [a, b]
end Go.Proofs.YtklgagonbehpeaaDoor
