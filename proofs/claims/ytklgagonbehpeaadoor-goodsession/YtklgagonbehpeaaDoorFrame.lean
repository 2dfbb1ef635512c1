/-
  What the listed tables hold gives the contracts' premise; the door's own heap meets the condition; a law's row whose arguments are plain, out of a walk that returns true and leaves all old memory as it was.
-/
import Derived.Test.YtklgagonbehpeaaDoorUtf
import Derived.Test.YtklgagonbehpeaaDoorTie
import Derived.Test.YtklgagonbehpeaaDoorCards
import Derived.ProofKit
import Derived.LaidMore
import Derived.OpenShut
import Derived.OpenVars
import Derived.Stop.Joined
import Derived.Stop.LaidErr
import Derived.Lib.LaidTab
import Derived.SevenTiedAt
namespace Go.Proofs.YtklgagonbehpeaaDoor
open Go.ChangeShapes Go.WideShapes Go.ChangeAt Go.WideMaps Go.WideElems Go.RowKit
theorem own : ownKnob Tryd.prog.godebug = none := by kernel_rfl
theorem laidOut : laidOutB Tryd.prog = true := by kernel_rfl
def laid2 : List (String × DataW Unit) := [("loop.example/g00692/impl.formLeast", Rows.laid_loop_example_g00692_impl_formLeast), ("loop.example/g00692/impl.formLead", Rows.laid_loop_example_g00692_impl_formLead)]
def vars2 : List String := ["loop.example/g00692/impl.formLead", "loop.example/g00692/impl.formLeast"]
theorem gLead : Tryd.prog.globalNamed "loop.example/g00692/impl.formLead" = some 0 := by kernel_rfl
theorem gLeast : Tryd.prog.globalNamed "loop.example/g00692/impl.formLeast" = some 1 := by kernel_rfl
theorem tLead : (Tryd.prog.globals[0]?).map (·.type) = some 81 := by kernel_rfl
theorem tLeast : (Tryd.prog.globals[1]?).map (·.type) = some 81 := by kernel_rfl
theorem Tryd.cells3 : Tryd.prog.cellsOf 3 = 1 := by kernel_rfl
theorem Tryd.cellsArr4 : Tryd.prog.cellsOf 81 = 4 := by kernel_rfl
theorem door_met (os : Os) (args : Array Value) : laidMetH Tryd.prog laid2 ((World.doorLaid Tryd.prog 400 os).forCall (fun _ _ => 0) ⟨#[], args, []⟩).memory :=
  laidMetH_of_parts3 (fuel := 8) (laidMet_of_run' 8 (by kernel_rfl) (by kernel_rfl)) (by kernel_rfl) (by kernel_rfl)
theorem tabs_of_laid {W : World} (h : laidMetH Tryd.prog laid2 W) : Tabs W := by
  rw [MakeChecks.laidMetH_plain _ _ _ (by kernel_rfl)] at h
  have h1 : Lib.TabIs Tryd.prog W "loop.example/g00692/impl.formLeast" .i64 [0, 128, 2048, 65536] := Lib.tabIs_of_head gLeast tLeast Tryd.underlying81 Tryd.underlying3 Tryd.cells3 Tryd.cellsArr4 h
  have h2 : Lib.TabIs Tryd.prog W "loop.example/g00692/impl.formLead" .i64 [0, 192, 224, 240] := Lib.tabIs_of_head gLead tLead Tryd.underlying81 Tryd.underlying3 Tryd.cells3 Tryd.cellsArr4 (laidMet.tail h)
  have c := h1.cell gLeast 0 (by decide)
  have c' := h2.cell gLead 0 (by decide)
  have hb := World.block_lt_of_cell? W ⟨1, 0, none⟩ c
  have hb' := World.block_lt_of_cell? W ⟨0, 0, none⟩ c'
  exact ⟨c', h2.cell gLead 1 (by decide), h2.cell gLead 2 (by decide), h2.cell gLead 3 (by decide), c, h1.cell gLeast 1 (by decide), h1.cell gLeast 2 (by decide), h1.cell gLeast 3 (by decide), hb', hb⟩
end Go.Proofs.YtklgagonbehpeaaDoor
