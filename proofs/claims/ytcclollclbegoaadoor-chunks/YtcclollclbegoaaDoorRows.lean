/-
  NARROWER THAN 'FOR EVERY INPUT', by the rows' own cells (each row's printed sentence says how): FnChunks: laid · FnEncoded: laid · FnExactDecodeAll: laid · FnExactGuessCode: laid.
  DERIVED. THE GIVEN ROWS OF THIS SEAT. 4 by the template 'for every input the law returns true; each argument reads behind the call as it read before'; 0 by the template 'total and deterministic' (their statements: YtcclollclbegoaaDoorTotals.lean).
  GIVEN WITH THE SEED: the statements are not yours to turn. If you find one false, say at which input.
  Laid BY PROGRAM, IN A SANDBOX (cutbox-rows.mjs): the forced cells as the released guide's own fill.sh prints them over the translation 75c926a206c72a4d… (all of the seat's roots in one cut). By AI agents, Wed Nov 11 2026. No macro, syntax, notation, axiom, sorry.
-/
import Derived.Test.YtcclollclbegoaaDoorChecked
import GoSem.Claim
import GoSem.ClaimJoined
import GoSem.ClaimMapViews
import Derived.JoinedTies
import Derived.KernelRfl
namespace Go.Proofs.YtcclollclbegoaaDoor
/- THE CELL 'sum', in the pinned program and in every row, IS THE sha256 OF THE DUMP (.gsa) THAT YtcclollclbegoaaDoorProg.lean LOADS. Nothing in Lean hashes anything: it is a label: what it is worth is what the hold of that sum in a sandbox is worth. -/
noncomputable def Tryd.pinned : Pinned := { name := "ytcclollclbegoaadoor", sum := "75c926a206c72a4d94b7d9256d53d0283975da6e59c78ab91bc19aa76e1c6b07", checked := Tryd.checked }
namespace Rows
def none {H : Type} : Left H := { results := [], args := [] }

/- WHAT THE LISTED PACKAGE-LEVEL VARIABLES READ AS WHEN THE CALL BEGINS. Each datum BY PROGRAM (the guide's laid-datum.mjs) off the statement by which the dump's own 'gosem.cut.vars' lays the variable. In a bare row this is a premise. The card (YtcclollclbegoaaDoorCards.lean) ties it to the program's text. -/
def laid_loop_example_g00692_impl_formLeast {H : Type} : DataW H := .agg [.lit (.int .i64 0), .lit (.int .i64 128), .lit (.int .i64 2048), .lit (.int .i64 65536)]
def laid_loop_example_g00692_impl_formLead {H : Type} : DataW H := .agg [.lit (.int .i64 0), .lit (.int .i64 192), .lit (.int .i64 224), .lit (.int .i64 240)]

/-- 'laws.FnChunks': WHATEVER THE INPUT: true; the input reads as it did. -/
def fnChunksSpec : ChangeSpec := { name := "fnChunks", vars := ["loop.example/g00692/impl.formLead", "loop.example/g00692/impl.formLeast"], fn := fun _ => fun
  | [d1, d2, g1, g2] => { results := [.lit (.bool true)], args := [d1, d2], vars := [g1, g2] }
  | _ => none }
def fnChunksRow : OpenClaim := { program := "ytcclollclbegoaadoor", sum := "75c926a206c72a4d94b7d9256d53d0283975da6e59c78ab91bc19aa76e1c6b07", func := "loop.example/g00692/laws.FnChunks", spec := "fnChunks", unfollowed := true, recurses := true, named := ["loop.example/g00692/impl.formLead", "loop.example/g00692/impl.formLeast"], apart := false, laid := [("loop.example/g00692/impl.formLeast", laid_loop_example_g00692_impl_formLeast), ("loop.example/g00692/impl.formLead", laid_loop_example_g00692_impl_formLead)] }
def FnChunksSaid : Prop := fnChunksRow.holds Tryd.pinned (OpenSpec.ofChange fnChunksSpec)

/-- ITS FALSE NEIGHBOUR: 'it returns false'. Refute it at one input. -/
def fnChunksWrong : ChangeSpec := { name := "fnChunks", vars := ["loop.example/g00692/impl.formLead", "loop.example/g00692/impl.formLeast"], fn := fun _ => fun
  | [d1, d2, g1, g2] => { results := [.lit (.bool false)], args := [d1, d2], vars := [g1, g2] }
  | _ => none }
def FnChunksWrongFalsely : Prop := fnChunksRow.holds Tryd.pinned (OpenSpec.ofChange fnChunksWrong)

/-- 'laws.FnEncoded': WHATEVER THE INPUT: true; the input reads as it did. -/
def fnEncodedSpec : ChangeSpec := { name := "fnEncoded", vars := ["loop.example/g00692/impl.formLead", "loop.example/g00692/impl.formLeast"], fn := fun _ => fun
  | [d1, d2, g1, g2] => { results := [.lit (.bool true)], args := [d1, d2], vars := [g1, g2] }
  | _ => none }
def fnEncodedRow : OpenClaim := { program := "ytcclollclbegoaadoor", sum := "75c926a206c72a4d94b7d9256d53d0283975da6e59c78ab91bc19aa76e1c6b07", func := "loop.example/g00692/laws.FnEncoded", spec := "fnEncoded", unfollowed := true, recurses := true, named := ["loop.example/g00692/impl.formLead", "loop.example/g00692/impl.formLeast"], apart := false, laid := [("loop.example/g00692/impl.formLeast", laid_loop_example_g00692_impl_formLeast), ("loop.example/g00692/impl.formLead", laid_loop_example_g00692_impl_formLead)] }
def FnEncodedSaid : Prop := fnEncodedRow.holds Tryd.pinned (OpenSpec.ofChange fnEncodedSpec)

/-- ITS FALSE NEIGHBOUR: 'it returns false'. Refute it at one input. -/
def fnEncodedWrong : ChangeSpec := { name := "fnEncoded", vars := ["loop.example/g00692/impl.formLead", "loop.example/g00692/impl.formLeast"], fn := fun _ => fun
  | [d1, d2, g1, g2] => { results := [.lit (.bool false)], args := [d1, d2], vars := [g1, g2] }
  | _ => none }
def FnEncodedWrongFalsely : Prop := fnEncodedRow.holds Tryd.pinned (OpenSpec.ofChange fnEncodedWrong)

/-- 'laws.FnExactDecodeAll': WHATEVER THE INPUT: true; the input reads as it did. -/
def fnExactDecodeAllSpec : ChangeSpec := { name := "fnExactDecodeAll", vars := ["loop.example/g00692/impl.formLead", "loop.example/g00692/impl.formLeast"], fn := fun _ => fun
  | [d1, d2, g1, g2] => { results := [.lit (.bool true)], args := [d1, d2], vars := [g1, g2] }
  | _ => none }
def fnExactDecodeAllRow : OpenClaim := { program := "ytcclollclbegoaadoor", sum := "75c926a206c72a4d94b7d9256d53d0283975da6e59c78ab91bc19aa76e1c6b07", func := "loop.example/g00692/laws.FnExactDecodeAll", spec := "fnExactDecodeAll", unfollowed := true, recurses := true, named := ["loop.example/g00692/impl.formLead", "loop.example/g00692/impl.formLeast"], apart := false, laid := [("loop.example/g00692/impl.formLeast", laid_loop_example_g00692_impl_formLeast), ("loop.example/g00692/impl.formLead", laid_loop_example_g00692_impl_formLead)] }
def FnExactDecodeAllSaid : Prop := fnExactDecodeAllRow.holds Tryd.pinned (OpenSpec.ofChange fnExactDecodeAllSpec)

/-- ITS FALSE NEIGHBOUR: 'it returns false'. Refute it at one input. -/
def fnExactDecodeAllWrong : ChangeSpec := { name := "fnExactDecodeAll", vars := ["loop.example/g00692/impl.formLead", "loop.example/g00692/impl.formLeast"], fn := fun _ => fun
  | [d1, d2, g1, g2] => { results := [.lit (.bool false)], args := [d1, d2], vars := [g1, g2] }
  | _ => none }
def FnExactDecodeAllWrongFalsely : Prop := fnExactDecodeAllRow.holds Tryd.pinned (OpenSpec.ofChange fnExactDecodeAllWrong)

/-- 'laws.FnExactGuessCode': WHATEVER THE INPUT: true; the input reads as it did. -/
def fnExactGuessCodeSpec : ChangeSpec := { name := "fnExactGuessCode", vars := ["loop.example/g00692/impl.formLead", "loop.example/g00692/impl.formLeast"], fn := fun _ => fun
  | [d, g1, g2] => { results := [.lit (.bool true)], args := [d], vars := [g1, g2] }
  | _ => none }
def fnExactGuessCodeRow : OpenClaim := { program := "ytcclollclbegoaadoor", sum := "75c926a206c72a4d94b7d9256d53d0283975da6e59c78ab91bc19aa76e1c6b07", func := "loop.example/g00692/laws.FnExactGuessCode", spec := "fnExactGuessCode", named := ["loop.example/g00692/impl.formLead", "loop.example/g00692/impl.formLeast"], apart := false, laid := [("loop.example/g00692/impl.formLeast", laid_loop_example_g00692_impl_formLeast), ("loop.example/g00692/impl.formLead", laid_loop_example_g00692_impl_formLead)] }
def FnExactGuessCodeSaid : Prop := fnExactGuessCodeRow.holds Tryd.pinned (OpenSpec.ofChange fnExactGuessCodeSpec)

/-- ITS FALSE NEIGHBOUR: 'it returns false'. Refute it at one input. -/
def fnExactGuessCodeWrong : ChangeSpec := { name := "fnExactGuessCode", vars := ["loop.example/g00692/impl.formLead", "loop.example/g00692/impl.formLeast"], fn := fun _ => fun
  | [d, g1, g2] => { results := [.lit (.bool false)], args := [d], vars := [g1, g2] }
  | _ => none }
def FnExactGuessCodeWrongFalsely : Prop := fnExactGuessCodeRow.holds Tryd.pinned (OpenSpec.ofChange fnExactGuessCodeWrong)

/- THE SECOND FORM. 'bulk': how many values and letters a reading holds, each counted each time it is reached (what is shared counts as often as it is met; a slice's spare places count too). A statement '..UptoSaid' is the law's where the arguments, and the package variables that the reading takes, are together of bulk at most 1048576: NARROWER than '..Said'. Prove '..Said' where nothing that the law and all that it calls make is longer than what came in: it says more and counts as full. Else prove '..UptoSaid'. A law counts once. -/
mutual
def uptoBulk {H : Type} : DataW H → Nat
  | .lit (.string bytes) => bytes.length + 1
  | .lit _ => 1
  | .nil => 1
  | .ptr d => uptoBulk d + 1
  | .slice elems spare => uptoBulkAll elems + uptoBulkAll spare + 1
  | .agg parts => uptoBulkAll parts + 1
  | .iface _ d => uptoBulk d + 1
  | .map entries => uptoBulkEntries entries + 1
  | .held _ => 1
def uptoBulkAll {H : Type} : List (DataW H) → Nat
  | [] => 0
  | d :: r => uptoBulk d + uptoBulkAll r
def uptoBulkEntries {H : Type} : List (Lit × DataW H) → Nat
  | [] => 0
  | x :: r => uptoBulkEntry x + uptoBulkEntries r
def uptoBulkEntry {H : Type} : Lit × DataW H → Nat
  | (.string bytes, d) => bytes.length + uptoBulk d + 1
  | (_, d) => uptoBulk d + 1
 end
def uptoSmall : (H : Type) → List (DataW H) → Bool := fun _ ds => decide (uptoBulkAll ds ≤ 1048576)
def OpenSpec.upto (s : _root_.Go.ChangeSpec) : _root_.Go.OpenSpec := { _root_.Go.OpenSpec.ofChange s with cond := some uptoSmall }

/-- 'laws.FnChunks', WHERE WHAT IT READS IS OF BULK AT MOST 1048576: true; the input reads as it did. -/
def fnChunksUptoRow : OpenClaim := { program := "ytcclollclbegoaadoor", sum := "75c926a206c72a4d94b7d9256d53d0283975da6e59c78ab91bc19aa76e1c6b07", func := "loop.example/g00692/laws.FnChunks", spec := "fnChunks", unfollowed := true, recurses := true, named := ["loop.example/g00692/impl.formLead", "loop.example/g00692/impl.formLeast"], apart := false, laid := [("loop.example/g00692/impl.formLeast", laid_loop_example_g00692_impl_formLeast), ("loop.example/g00692/impl.formLead", laid_loop_example_g00692_impl_formLead)], narrowed := true }
def FnChunksUptoSaid : Prop := fnChunksUptoRow.holds Tryd.pinned (OpenSpec.upto fnChunksSpec)

/-- 'laws.FnEncoded', WHERE WHAT IT READS IS OF BULK AT MOST 1048576: true; the input reads as it did. -/
def fnEncodedUptoRow : OpenClaim := { program := "ytcclollclbegoaadoor", sum := "75c926a206c72a4d94b7d9256d53d0283975da6e59c78ab91bc19aa76e1c6b07", func := "loop.example/g00692/laws.FnEncoded", spec := "fnEncoded", unfollowed := true, recurses := true, named := ["loop.example/g00692/impl.formLead", "loop.example/g00692/impl.formLeast"], apart := false, laid := [("loop.example/g00692/impl.formLeast", laid_loop_example_g00692_impl_formLeast), ("loop.example/g00692/impl.formLead", laid_loop_example_g00692_impl_formLead)], narrowed := true }
def FnEncodedUptoSaid : Prop := fnEncodedUptoRow.holds Tryd.pinned (OpenSpec.upto fnEncodedSpec)

/-- 'laws.FnExactDecodeAll', WHERE WHAT IT READS IS OF BULK AT MOST 1048576: true; the input reads as it did. -/
def fnExactDecodeAllUptoRow : OpenClaim := { program := "ytcclollclbegoaadoor", sum := "75c926a206c72a4d94b7d9256d53d0283975da6e59c78ab91bc19aa76e1c6b07", func := "loop.example/g00692/laws.FnExactDecodeAll", spec := "fnExactDecodeAll", unfollowed := true, recurses := true, named := ["loop.example/g00692/impl.formLead", "loop.example/g00692/impl.formLeast"], apart := false, laid := [("loop.example/g00692/impl.formLeast", laid_loop_example_g00692_impl_formLeast), ("loop.example/g00692/impl.formLead", laid_loop_example_g00692_impl_formLead)], narrowed := true }
def FnExactDecodeAllUptoSaid : Prop := fnExactDecodeAllUptoRow.holds Tryd.pinned (OpenSpec.upto fnExactDecodeAllSpec)

/-- 'laws.FnExactGuessCode', WHERE WHAT IT READS IS OF BULK AT MOST 1048576: true; the input reads as it did. -/
def fnExactGuessCodeUptoRow : OpenClaim := { program := "ytcclollclbegoaadoor", sum := "75c926a206c72a4d94b7d9256d53d0283975da6e59c78ab91bc19aa76e1c6b07", func := "loop.example/g00692/laws.FnExactGuessCode", spec := "fnExactGuessCode", named := ["loop.example/g00692/impl.formLead", "loop.example/g00692/impl.formLeast"], apart := false, laid := [("loop.example/g00692/impl.formLeast", laid_loop_example_g00692_impl_formLeast), ("loop.example/g00692/impl.formLead", laid_loop_example_g00692_impl_formLead)], narrowed := true }
def FnExactGuessCodeUptoSaid : Prop := fnExactGuessCodeUptoRow.holds Tryd.pinned (OpenSpec.upto fnExactGuessCodeSpec)

end Rows
end Go.Proofs.YtcclollclbegoaaDoor
