/-
  No cell of these rows narrows 'for every input' (looked for: loops, veiled, ifaces, maps, wideKeys, modest, calm, conditions, laid).
  DERIVED. THE GIVEN ROWS OF THIS SEAT. 6 by the template 'for every input the law returns true; each argument reads behind the call as it read before'; 0 by the template 'total and deterministic' (their statements: YthnmphfoljnekaaTotals.lean).
  GIVEN WITH THE SEED: the statements are not yours to turn. If you find one false, say at which input.
  Laid BY PROGRAM, IN A SANDBOX (cutbox-rows.mjs): the forced cells as the released guide's own fill.sh prints them over the translation 488cca2ac642b7b6… (all of the seat's roots in one cut). By AI agents, Wed Nov 11 2026. No macro, syntax, notation, axiom, sorry.
-/
import Derived.Test.YthnmphfoljnekaaChecked
import GoSem.Claim
import GoSem.ClaimJoined
import GoSem.ClaimMapViews
import Derived.JoinedTies
import Derived.KernelRfl
namespace Go.Proofs.Ythnmphfoljnekaa
/- THE CELL 'sum', in the pinned program and in every row, IS THE sha256 OF THE DUMP (.gsa) THAT YthnmphfoljnekaaProg.lean LOADS. Nothing in Lean hashes anything: it is a label: what it is worth is what the hold of that sum in a sandbox is worth. -/
noncomputable def Try.pinned : Pinned := { name := "ythnmphfoljnekaa", sum := "488cca2ac642b7b68086a895a3b711320d67f3e401ad49797992964ce7d3e4e1", checked := Try.checked }
namespace Rows
def none {H : Type} : Left H := { results := [], args := [] }

/-- 'laws.FnNormChunks': WHATEVER THE INPUT: true; the input reads as it did. -/
def fnNormChunksSpec : ChangeSpec := { name := "fnNormChunks", fn := fun _ => fun
  | [d1, d2] => { results := [.lit (.bool true)], args := [d1, d2] }
  | _ => none }
def fnNormChunksRow : OpenClaim := { program := "ythnmphfoljnekaa", sum := "488cca2ac642b7b68086a895a3b711320d67f3e401ad49797992964ce7d3e4e1", func := "loop.example/g00692/laws.FnNormChunks", spec := "fnNormChunks", apart := false }
def FnNormChunksSaid : Prop := fnNormChunksRow.holds Try.pinned (OpenSpec.ofChange fnNormChunksSpec)

/-- ITS FALSE NEIGHBOUR: 'it returns false'. Refute it at one input. -/
def fnNormChunksWrong : ChangeSpec := { name := "fnNormChunks", fn := fun _ => fun
  | [d1, d2] => { results := [.lit (.bool false)], args := [d1, d2] }
  | _ => none }
def FnNormChunksWrongFalsely : Prop := fnNormChunksRow.holds Try.pinned (OpenSpec.ofChange fnNormChunksWrong)

/-- 'laws.FnExactEncodeAll': WHATEVER THE INPUT: true; the input reads as it did. -/
def fnExactEncodeAllSpec : ChangeSpec := { name := "fnExactEncodeAll", fn := fun _ => fun
  | [d1, d2] => { results := [.lit (.bool true)], args := [d1, d2] }
  | _ => none }
def fnExactEncodeAllRow : OpenClaim := { program := "ythnmphfoljnekaa", sum := "488cca2ac642b7b68086a895a3b711320d67f3e401ad49797992964ce7d3e4e1", func := "loop.example/g00692/laws.FnExactEncodeAll", spec := "fnExactEncodeAll", unfollowed := true, recurses := true, apart := false }
def FnExactEncodeAllSaid : Prop := fnExactEncodeAllRow.holds Try.pinned (OpenSpec.ofChange fnExactEncodeAllSpec)

/-- ITS FALSE NEIGHBOUR: 'it returns false'. Refute it at one input. -/
def fnExactEncodeAllWrong : ChangeSpec := { name := "fnExactEncodeAll", fn := fun _ => fun
  | [d1, d2] => { results := [.lit (.bool false)], args := [d1, d2] }
  | _ => none }
def FnExactEncodeAllWrongFalsely : Prop := fnExactEncodeAllRow.holds Try.pinned (OpenSpec.ofChange fnExactEncodeAllWrong)

/-- 'laws.FnExactOrderOf': WHATEVER THE INPUT: true; the input reads as it did. -/
def fnExactOrderOfSpec : ChangeSpec := { name := "fnExactOrderOf", fn := fun _ => fun
  | [d] => { results := [.lit (.bool true)], args := [d] }
  | _ => none }
def fnExactOrderOfRow : OpenClaim := { program := "ythnmphfoljnekaa", sum := "488cca2ac642b7b68086a895a3b711320d67f3e401ad49797992964ce7d3e4e1", func := "loop.example/g00692/laws.FnExactOrderOf", spec := "fnExactOrderOf", apart := false }
def FnExactOrderOfSaid : Prop := fnExactOrderOfRow.holds Try.pinned (OpenSpec.ofChange fnExactOrderOfSpec)

/-- ITS FALSE NEIGHBOUR: 'it returns false'. Refute it at one input. -/
def fnExactOrderOfWrong : ChangeSpec := { name := "fnExactOrderOf", fn := fun _ => fun
  | [d] => { results := [.lit (.bool false)], args := [d] }
  | _ => none }
def FnExactOrderOfWrongFalsely : Prop := fnExactOrderOfRow.holds Try.pinned (OpenSpec.ofChange fnExactOrderOfWrong)

/-- 'laws.FnExactSplitRune': WHATEVER THE INPUT: true; the input reads as it did. -/
def fnExactSplitRuneSpec : ChangeSpec := { name := "fnExactSplitRune", fn := fun _ => fun
  | [d] => { results := [.lit (.bool true)], args := [d] }
  | _ => none }
def fnExactSplitRuneRow : OpenClaim := { program := "ythnmphfoljnekaa", sum := "488cca2ac642b7b68086a895a3b711320d67f3e401ad49797992964ce7d3e4e1", func := "loop.example/g00692/laws.FnExactSplitRune", spec := "fnExactSplitRune", apart := false }
def FnExactSplitRuneSaid : Prop := fnExactSplitRuneRow.holds Try.pinned (OpenSpec.ofChange fnExactSplitRuneSpec)

/-- ITS FALSE NEIGHBOUR: 'it returns false'. Refute it at one input. -/
def fnExactSplitRuneWrong : ChangeSpec := { name := "fnExactSplitRune", fn := fun _ => fun
  | [d] => { results := [.lit (.bool false)], args := [d] }
  | _ => none }
def FnExactSplitRuneWrongFalsely : Prop := fnExactSplitRuneRow.holds Try.pinned (OpenSpec.ofChange fnExactSplitRuneWrong)

/-- 'laws.FnExactSplitAll': WHATEVER THE INPUT: true; the input reads as it did. -/
def fnExactSplitAllSpec : ChangeSpec := { name := "fnExactSplitAll", fn := fun _ => fun
  | [d] => { results := [.lit (.bool true)], args := [d] }
  | _ => none }
def fnExactSplitAllRow : OpenClaim := { program := "ythnmphfoljnekaa", sum := "488cca2ac642b7b68086a895a3b711320d67f3e401ad49797992964ce7d3e4e1", func := "loop.example/g00692/laws.FnExactSplitAll", spec := "fnExactSplitAll", apart := false }
def FnExactSplitAllSaid : Prop := fnExactSplitAllRow.holds Try.pinned (OpenSpec.ofChange fnExactSplitAllSpec)

/-- ITS FALSE NEIGHBOUR: 'it returns false'. Refute it at one input. -/
def fnExactSplitAllWrong : ChangeSpec := { name := "fnExactSplitAll", fn := fun _ => fun
  | [d] => { results := [.lit (.bool false)], args := [d] }
  | _ => none }
def FnExactSplitAllWrongFalsely : Prop := fnExactSplitAllRow.holds Try.pinned (OpenSpec.ofChange fnExactSplitAllWrong)

/-- 'laws.FnExactSortMarks': WHATEVER THE INPUT: true; the input reads as it did. -/
def fnExactSortMarksSpec : ChangeSpec := { name := "fnExactSortMarks", fn := fun _ => fun
  | [d] => { results := [.lit (.bool true)], args := [d] }
  | _ => none }
def fnExactSortMarksRow : OpenClaim := { program := "ythnmphfoljnekaa", sum := "488cca2ac642b7b68086a895a3b711320d67f3e401ad49797992964ce7d3e4e1", func := "loop.example/g00692/laws.FnExactSortMarks", spec := "fnExactSortMarks", apart := false }
def FnExactSortMarksSaid : Prop := fnExactSortMarksRow.holds Try.pinned (OpenSpec.ofChange fnExactSortMarksSpec)

/-- ITS FALSE NEIGHBOUR: 'it returns false'. Refute it at one input. -/
def fnExactSortMarksWrong : ChangeSpec := { name := "fnExactSortMarks", fn := fun _ => fun
  | [d] => { results := [.lit (.bool false)], args := [d] }
  | _ => none }
def FnExactSortMarksWrongFalsely : Prop := fnExactSortMarksRow.holds Try.pinned (OpenSpec.ofChange fnExactSortMarksWrong)

/- THE SECOND FORM. 'bulk': how many values and letters a reading holds, each counted each time it is reached (what is shared counts as often as it is met; a slice's spare places count too). A statement '..UptoSaid' is the law's where the arguments, and the package variables that the reading takes, are together of bulk at most 1048576: NARROWER than '..Said'. Prove '..Said' where nothing that the law and all that it calls make is longer than what came in: it says more and counts as full. Else prove '..UptoSaid'. A law counts once. -/
mutual
def uptoBulk {H : Type} : DataW H → Nat
  | .lit (.string bytes) => bytes.length + 1
  | .lit _ => 1
  | .nil => 1
  | .ptr d => uptoBulk d + 1
  | .slice elems spare => uptoBulkAll elems + uptoBulkAll spare + 1
  | .agg parts => uptoBulkAll parts + 1
  | .iface _ d => uptoBulk d + 1
  | .map entries => uptoBulkEntries entries + 1
  | .held _ => 1
def uptoBulkAll {H : Type} : List (DataW H) → Nat
  | [] => 0
  | d :: r => uptoBulk d + uptoBulkAll r
def uptoBulkEntries {H : Type} : List (Lit × DataW H) → Nat
  | [] => 0
  | x :: r => uptoBulkEntry x + uptoBulkEntries r
def uptoBulkEntry {H : Type} : Lit × DataW H → Nat
  | (.string bytes, d) => bytes.length + uptoBulk d + 1
  | (_, d) => uptoBulk d + 1
 end
def uptoSmall : (H : Type) → List (DataW H) → Bool := fun _ ds => decide (uptoBulkAll ds ≤ 1048576)
def OpenSpec.upto (s : _root_.Go.ChangeSpec) : _root_.Go.OpenSpec := { _root_.Go.OpenSpec.ofChange s with cond := some uptoSmall }

/-- 'laws.FnNormChunks', WHERE WHAT IT READS IS OF BULK AT MOST 1048576: true; the input reads as it did. -/
def fnNormChunksUptoRow : OpenClaim := { program := "ythnmphfoljnekaa", sum := "488cca2ac642b7b68086a895a3b711320d67f3e401ad49797992964ce7d3e4e1", func := "loop.example/g00692/laws.FnNormChunks", spec := "fnNormChunks", apart := false, narrowed := true }
def FnNormChunksUptoSaid : Prop := fnNormChunksUptoRow.holds Try.pinned (OpenSpec.upto fnNormChunksSpec)

/-- 'laws.FnExactEncodeAll', WHERE WHAT IT READS IS OF BULK AT MOST 1048576: true; the input reads as it did. -/
def fnExactEncodeAllUptoRow : OpenClaim := { program := "ythnmphfoljnekaa", sum := "488cca2ac642b7b68086a895a3b711320d67f3e401ad49797992964ce7d3e4e1", func := "loop.example/g00692/laws.FnExactEncodeAll", spec := "fnExactEncodeAll", unfollowed := true, recurses := true, apart := false, narrowed := true }
def FnExactEncodeAllUptoSaid : Prop := fnExactEncodeAllUptoRow.holds Try.pinned (OpenSpec.upto fnExactEncodeAllSpec)

/-- 'laws.FnExactOrderOf', WHERE WHAT IT READS IS OF BULK AT MOST 1048576: true; the input reads as it did. -/
def fnExactOrderOfUptoRow : OpenClaim := { program := "ythnmphfoljnekaa", sum := "488cca2ac642b7b68086a895a3b711320d67f3e401ad49797992964ce7d3e4e1", func := "loop.example/g00692/laws.FnExactOrderOf", spec := "fnExactOrderOf", apart := false, narrowed := true }
def FnExactOrderOfUptoSaid : Prop := fnExactOrderOfUptoRow.holds Try.pinned (OpenSpec.upto fnExactOrderOfSpec)

/-- 'laws.FnExactSplitRune', WHERE WHAT IT READS IS OF BULK AT MOST 1048576: true; the input reads as it did. -/
def fnExactSplitRuneUptoRow : OpenClaim := { program := "ythnmphfoljnekaa", sum := "488cca2ac642b7b68086a895a3b711320d67f3e401ad49797992964ce7d3e4e1", func := "loop.example/g00692/laws.FnExactSplitRune", spec := "fnExactSplitRune", apart := false, narrowed := true }
def FnExactSplitRuneUptoSaid : Prop := fnExactSplitRuneUptoRow.holds Try.pinned (OpenSpec.upto fnExactSplitRuneSpec)

/-- 'laws.FnExactSplitAll', WHERE WHAT IT READS IS OF BULK AT MOST 1048576: true; the input reads as it did. -/
def fnExactSplitAllUptoRow : OpenClaim := { program := "ythnmphfoljnekaa", sum := "488cca2ac642b7b68086a895a3b711320d67f3e401ad49797992964ce7d3e4e1", func := "loop.example/g00692/laws.FnExactSplitAll", spec := "fnExactSplitAll", apart := false, narrowed := true }
def FnExactSplitAllUptoSaid : Prop := fnExactSplitAllUptoRow.holds Try.pinned (OpenSpec.upto fnExactSplitAllSpec)

/-- 'laws.FnExactSortMarks', WHERE WHAT IT READS IS OF BULK AT MOST 1048576: true; the input reads as it did. -/
def fnExactSortMarksUptoRow : OpenClaim := { program := "ythnmphfoljnekaa", sum := "488cca2ac642b7b68086a895a3b711320d67f3e401ad49797992964ce7d3e4e1", func := "loop.example/g00692/laws.FnExactSortMarks", spec := "fnExactSortMarks", apart := false, narrowed := true }
def FnExactSortMarksUptoSaid : Prop := fnExactSortMarksUptoRow.holds Try.pinned (OpenSpec.upto fnExactSortMarksSpec)

end Rows
end Go.Proofs.Ythnmphfoljnekaa
