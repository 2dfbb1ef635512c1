/-
  Contract of (*l1Cur).bytes: some text of at most 26 bytes.
-/
import Derived.Test.YtdhppigjlldfmaaCur3
import Derived.Deep.RegionHeld
namespace Go.Proofs.Ytdhppigjlldfmaa
open Go.ChangeShapes Go.WideShapes Go.ChangeAt Go.RowKit
theorem slice_head (s : ByteArray) (i : Nat) (h2 : i ≤ s.size) (w : World) : (Instr.slice 9 (.string s) none (some (.int .i64 i)) none).run Try.prog w = .ok (.string (s.extract 0 i)) w := by
  have h' : (i : Int) ≤ s.size := by omega
  go_simp
theorem slice_from (s : ByteArray) (i : Nat) (I : Int) (hI : I = i) (h2 : i ≤ s.size) (w : World) : (Instr.slice 9 (.string s) (some (.int .i64 I)) none none).run Try.prog w = .ok (.string (s.extract i s.size)) w := by
  subst hI
  have h' : (i : Int) ≤ s.size := by omega
  go_simp
theorem head_size (s : ByteArray) (i : Nat) (h : i ≤ s.size) : (s.extract 0 i).size = i := by rw [ByteArray.size_extract]; omega
theorem from_size (s : ByteArray) (i : Nat) : (s.extract i s.size).size = s.size - i := by rw [ByteArray.size_extract]; omega
end Go.Proofs.Ytdhppigjlldfmaa
