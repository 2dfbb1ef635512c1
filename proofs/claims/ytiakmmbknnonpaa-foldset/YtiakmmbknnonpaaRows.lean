/-
  No cell of these rows narrows 'for every input' (looked for: loops, veiled, ifaces, maps, wideKeys, modest, calm, conditions, laid).
  DERIVED. THE GIVEN ROWS OF THIS SEAT. 12 by the template 'for every input the law returns true; each argument reads behind the call as it read before'; 0 by the template 'total and deterministic' (their statements: YtiakmmbknnonpaaTotals.lean).
  GIVEN WITH THE SEED: the statements are not yours to turn. If you find one false, say at which input.
  Laid BY PROGRAM, IN A SANDBOX (cutbox-rows.mjs): the forced cells as the released guide's own fill.sh prints them over the translation 780eadf07cada05f… (all of the seat's roots in one cut). By AI agents, Wed Nov 11 2026. No macro, syntax, notation, axiom, sorry.
-/
import Derived.Test.YtiakmmbknnonpaaChecked
import GoSem.Claim
import GoSem.ClaimJoined
import GoSem.ClaimMapViews
import Derived.JoinedTies
import Derived.KernelRfl
namespace Go.Proofs.Ytiakmmbknnonpaa
/- THE CELL 'sum', in the pinned program and in every row, IS THE sha256 OF THE DUMP (.gsa) THAT YtiakmmbknnonpaaProg.lean LOADS. Nothing in Lean hashes anything: it is a label: what it is worth is what the hold of that sum in a sandbox is worth. -/
noncomputable def Try.pinned : Pinned := { name := "ytiakmmbknnonpaa", sum := "780eadf07cada05f1f4ae411fe0da69f7a0a1edb69ac9abc954b5e1124f92df2", checked := Try.checked }
namespace Rows
def none {H : Type} : Left H := { results := [], args := [] }

/-- 'laws.FnNormChunks': WHATEVER THE INPUT: true; the input reads as it did. -/
def fnNormChunksSpec : ChangeSpec := { name := "fnNormChunks", fn := fun _ => fun
  | [d1, d2] => { results := [.lit (.bool true)], args := [d1, d2] }
  | _ => none }
def fnNormChunksRow : OpenClaim := { program := "ytiakmmbknnonpaa", sum := "780eadf07cada05f1f4ae411fe0da69f7a0a1edb69ac9abc954b5e1124f92df2", func := "loop.example/g00692/laws.FnNormChunks", spec := "fnNormChunks", apart := false }
def FnNormChunksSaid : Prop := fnNormChunksRow.holds Try.pinned (OpenSpec.ofChange fnNormChunksSpec)

/-- ITS FALSE NEIGHBOUR: 'it returns false'. Refute it at one input. -/
def fnNormChunksWrong : ChangeSpec := { name := "fnNormChunks", fn := fun _ => fun
  | [d1, d2] => { results := [.lit (.bool false)], args := [d1, d2] }
  | _ => none }
def FnNormChunksWrongFalsely : Prop := fnNormChunksRow.holds Try.pinned (OpenSpec.ofChange fnNormChunksWrong)

/-- 'laws.FnSets': WHATEVER THE INPUT: true; the input reads as it did. -/
def fnSetsSpec : ChangeSpec := { name := "fnSets", fn := fun _ => fun
  | [d1, d2] => { results := [.lit (.bool true)], args := [d1, d2] }
  | _ => none }
def fnSetsRow : OpenClaim := { program := "ytiakmmbknnonpaa", sum := "780eadf07cada05f1f4ae411fe0da69f7a0a1edb69ac9abc954b5e1124f92df2", func := "loop.example/g00692/laws.FnSets", spec := "fnSets", unfollowed := true, recurses := true, apart := false }
def FnSetsSaid : Prop := fnSetsRow.holds Try.pinned (OpenSpec.ofChange fnSetsSpec)

/-- ITS FALSE NEIGHBOUR: 'it returns false'. Refute it at one input. -/
def fnSetsWrong : ChangeSpec := { name := "fnSets", fn := fun _ => fun
  | [d1, d2] => { results := [.lit (.bool false)], args := [d1, d2] }
  | _ => none }
def FnSetsWrongFalsely : Prop := fnSetsRow.holds Try.pinned (OpenSpec.ofChange fnSetsWrong)

/-- 'laws.FnFolded': WHATEVER THE INPUT: true; the input reads as it did. -/
def fnFoldedSpec : ChangeSpec := { name := "fnFolded", fn := fun _ => fun
  | [d1, d2] => { results := [.lit (.bool true)], args := [d1, d2] }
  | _ => none }
def fnFoldedRow : OpenClaim := { program := "ytiakmmbknnonpaa", sum := "780eadf07cada05f1f4ae411fe0da69f7a0a1edb69ac9abc954b5e1124f92df2", func := "loop.example/g00692/laws.FnFolded", spec := "fnFolded", unfollowed := true, recurses := true, apart := false }
def FnFoldedSaid : Prop := fnFoldedRow.holds Try.pinned (OpenSpec.ofChange fnFoldedSpec)

/-- ITS FALSE NEIGHBOUR: 'it returns false'. Refute it at one input. -/
def fnFoldedWrong : ChangeSpec := { name := "fnFolded", fn := fun _ => fun
  | [d1, d2] => { results := [.lit (.bool false)], args := [d1, d2] }
  | _ => none }
def FnFoldedWrongFalsely : Prop := fnFoldedRow.holds Try.pinned (OpenSpec.ofChange fnFoldedWrong)

/-- 'laws.FnExactGoodSet': WHATEVER THE INPUT: true; the input reads as it did. -/
def fnExactGoodSetSpec : ChangeSpec := { name := "fnExactGoodSet", fn := fun _ => fun
  | [d] => { results := [.lit (.bool true)], args := [d] }
  | _ => none }
def fnExactGoodSetRow : OpenClaim := { program := "ytiakmmbknnonpaa", sum := "780eadf07cada05f1f4ae411fe0da69f7a0a1edb69ac9abc954b5e1124f92df2", func := "loop.example/g00692/laws.FnExactGoodSet", spec := "fnExactGoodSet", apart := false }
def FnExactGoodSetSaid : Prop := fnExactGoodSetRow.holds Try.pinned (OpenSpec.ofChange fnExactGoodSetSpec)

/-- ITS FALSE NEIGHBOUR: 'it returns false'. Refute it at one input. -/
def fnExactGoodSetWrong : ChangeSpec := { name := "fnExactGoodSet", fn := fun _ => fun
  | [d] => { results := [.lit (.bool false)], args := [d] }
  | _ => none }
def FnExactGoodSetWrongFalsely : Prop := fnExactGoodSetRow.holds Try.pinned (OpenSpec.ofChange fnExactGoodSetWrong)

/-- 'laws.FnExactSetOf': WHATEVER THE INPUT: true; the input reads as it did. -/
def fnExactSetOfSpec : ChangeSpec := { name := "fnExactSetOf", fn := fun _ => fun
  | [d] => { results := [.lit (.bool true)], args := [d] }
  | _ => none }
def fnExactSetOfRow : OpenClaim := { program := "ytiakmmbknnonpaa", sum := "780eadf07cada05f1f4ae411fe0da69f7a0a1edb69ac9abc954b5e1124f92df2", func := "loop.example/g00692/laws.FnExactSetOf", spec := "fnExactSetOf", unfollowed := true, recurses := true, apart := false }
def FnExactSetOfSaid : Prop := fnExactSetOfRow.holds Try.pinned (OpenSpec.ofChange fnExactSetOfSpec)

/-- ITS FALSE NEIGHBOUR: 'it returns false'. Refute it at one input. -/
def fnExactSetOfWrong : ChangeSpec := { name := "fnExactSetOf", fn := fun _ => fun
  | [d] => { results := [.lit (.bool false)], args := [d] }
  | _ => none }
def FnExactSetOfWrongFalsely : Prop := fnExactSetOfRow.holds Try.pinned (OpenSpec.ofChange fnExactSetOfWrong)

/-- 'laws.FnExactInSet': WHATEVER THE INPUT: true; the input reads as it did. -/
def fnExactInSetSpec : ChangeSpec := { name := "fnExactInSet", fn := fun _ => fun
  | [d1, d2] => { results := [.lit (.bool true)], args := [d1, d2] }
  | _ => none }
def fnExactInSetRow : OpenClaim := { program := "ytiakmmbknnonpaa", sum := "780eadf07cada05f1f4ae411fe0da69f7a0a1edb69ac9abc954b5e1124f92df2", func := "loop.example/g00692/laws.FnExactInSet", spec := "fnExactInSet", apart := false }
def FnExactInSetSaid : Prop := fnExactInSetRow.holds Try.pinned (OpenSpec.ofChange fnExactInSetSpec)

/-- ITS FALSE NEIGHBOUR: 'it returns false'. Refute it at one input. -/
def fnExactInSetWrong : ChangeSpec := { name := "fnExactInSet", fn := fun _ => fun
  | [d1, d2] => { results := [.lit (.bool false)], args := [d1, d2] }
  | _ => none }
def FnExactInSetWrongFalsely : Prop := fnExactInSetRow.holds Try.pinned (OpenSpec.ofChange fnExactInSetWrong)

/-- 'laws.FnExactUnionSet': WHATEVER THE INPUT: true; the input reads as it did. -/
def fnExactUnionSetSpec : ChangeSpec := { name := "fnExactUnionSet", fn := fun _ => fun
  | [d1, d2] => { results := [.lit (.bool true)], args := [d1, d2] }
  | _ => none }
def fnExactUnionSetRow : OpenClaim := { program := "ytiakmmbknnonpaa", sum := "780eadf07cada05f1f4ae411fe0da69f7a0a1edb69ac9abc954b5e1124f92df2", func := "loop.example/g00692/laws.FnExactUnionSet", spec := "fnExactUnionSet", unfollowed := true, recurses := true, apart := false }
def FnExactUnionSetSaid : Prop := fnExactUnionSetRow.holds Try.pinned (OpenSpec.ofChange fnExactUnionSetSpec)

/-- ITS FALSE NEIGHBOUR: 'it returns false'. Refute it at one input. -/
def fnExactUnionSetWrong : ChangeSpec := { name := "fnExactUnionSet", fn := fun _ => fun
  | [d1, d2] => { results := [.lit (.bool false)], args := [d1, d2] }
  | _ => none }
def FnExactUnionSetWrongFalsely : Prop := fnExactUnionSetRow.holds Try.pinned (OpenSpec.ofChange fnExactUnionSetWrong)

/-- 'laws.FnExactMeetSet': WHATEVER THE INPUT: true; the input reads as it did. -/
def fnExactMeetSetSpec : ChangeSpec := { name := "fnExactMeetSet", fn := fun _ => fun
  | [d1, d2] => { results := [.lit (.bool true)], args := [d1, d2] }
  | _ => none }
def fnExactMeetSetRow : OpenClaim := { program := "ytiakmmbknnonpaa", sum := "780eadf07cada05f1f4ae411fe0da69f7a0a1edb69ac9abc954b5e1124f92df2", func := "loop.example/g00692/laws.FnExactMeetSet", spec := "fnExactMeetSet", unfollowed := true, recurses := true, apart := false }
def FnExactMeetSetSaid : Prop := fnExactMeetSetRow.holds Try.pinned (OpenSpec.ofChange fnExactMeetSetSpec)

/-- ITS FALSE NEIGHBOUR: 'it returns false'. Refute it at one input. -/
def fnExactMeetSetWrong : ChangeSpec := { name := "fnExactMeetSet", fn := fun _ => fun
  | [d1, d2] => { results := [.lit (.bool false)], args := [d1, d2] }
  | _ => none }
def FnExactMeetSetWrongFalsely : Prop := fnExactMeetSetRow.holds Try.pinned (OpenSpec.ofChange fnExactMeetSetWrong)

/-- 'laws.FnExactNotSet': WHATEVER THE INPUT: true; the input reads as it did. -/
def fnExactNotSetSpec : ChangeSpec := { name := "fnExactNotSet", fn := fun _ => fun
  | [d] => { results := [.lit (.bool true)], args := [d] }
  | _ => none }
def fnExactNotSetRow : OpenClaim := { program := "ytiakmmbknnonpaa", sum := "780eadf07cada05f1f4ae411fe0da69f7a0a1edb69ac9abc954b5e1124f92df2", func := "loop.example/g00692/laws.FnExactNotSet", spec := "fnExactNotSet", unfollowed := true, recurses := true, apart := false }
def FnExactNotSetSaid : Prop := fnExactNotSetRow.holds Try.pinned (OpenSpec.ofChange fnExactNotSetSpec)

/-- ITS FALSE NEIGHBOUR: 'it returns false'. Refute it at one input. -/
def fnExactNotSetWrong : ChangeSpec := { name := "fnExactNotSet", fn := fun _ => fun
  | [d] => { results := [.lit (.bool false)], args := [d] }
  | _ => none }
def FnExactNotSetWrongFalsely : Prop := fnExactNotSetRow.holds Try.pinned (OpenSpec.ofChange fnExactNotSetWrong)

/-- 'laws.FnExactCountSet': WHATEVER THE INPUT: true; the input reads as it did. -/
def fnExactCountSetSpec : ChangeSpec := { name := "fnExactCountSet", fn := fun _ => fun
  | [d] => { results := [.lit (.bool true)], args := [d] }
  | _ => none }
def fnExactCountSetRow : OpenClaim := { program := "ytiakmmbknnonpaa", sum := "780eadf07cada05f1f4ae411fe0da69f7a0a1edb69ac9abc954b5e1124f92df2", func := "loop.example/g00692/laws.FnExactCountSet", spec := "fnExactCountSet", apart := false }
def FnExactCountSetSaid : Prop := fnExactCountSetRow.holds Try.pinned (OpenSpec.ofChange fnExactCountSetSpec)

/-- ITS FALSE NEIGHBOUR: 'it returns false'. Refute it at one input. -/
def fnExactCountSetWrong : ChangeSpec := { name := "fnExactCountSet", fn := fun _ => fun
  | [d] => { results := [.lit (.bool false)], args := [d] }
  | _ => none }
def FnExactCountSetWrongFalsely : Prop := fnExactCountSetRow.holds Try.pinned (OpenSpec.ofChange fnExactCountSetWrong)

/-- 'laws.FnExactFoldRune': WHATEVER THE INPUT: true; the input reads as it did. -/
def fnExactFoldRuneSpec : ChangeSpec := { name := "fnExactFoldRune", fn := fun _ => fun
  | [d] => { results := [.lit (.bool true)], args := [d] }
  | _ => none }
def fnExactFoldRuneRow : OpenClaim := { program := "ytiakmmbknnonpaa", sum := "780eadf07cada05f1f4ae411fe0da69f7a0a1edb69ac9abc954b5e1124f92df2", func := "loop.example/g00692/laws.FnExactFoldRune", spec := "fnExactFoldRune", apart := false }
def FnExactFoldRuneSaid : Prop := fnExactFoldRuneRow.holds Try.pinned (OpenSpec.ofChange fnExactFoldRuneSpec)

/-- ITS FALSE NEIGHBOUR: 'it returns false'. Refute it at one input. -/
def fnExactFoldRuneWrong : ChangeSpec := { name := "fnExactFoldRune", fn := fun _ => fun
  | [d] => { results := [.lit (.bool false)], args := [d] }
  | _ => none }
def FnExactFoldRuneWrongFalsely : Prop := fnExactFoldRuneRow.holds Try.pinned (OpenSpec.ofChange fnExactFoldRuneWrong)

/-- 'laws.FnExactFoldSet': WHATEVER THE INPUT: true; the input reads as it did. -/
def fnExactFoldSetSpec : ChangeSpec := { name := "fnExactFoldSet", fn := fun _ => fun
  | [d] => { results := [.lit (.bool true)], args := [d] }
  | _ => none }
def fnExactFoldSetRow : OpenClaim := { program := "ytiakmmbknnonpaa", sum := "780eadf07cada05f1f4ae411fe0da69f7a0a1edb69ac9abc954b5e1124f92df2", func := "loop.example/g00692/laws.FnExactFoldSet", spec := "fnExactFoldSet", unfollowed := true, recurses := true, apart := false }
def FnExactFoldSetSaid : Prop := fnExactFoldSetRow.holds Try.pinned (OpenSpec.ofChange fnExactFoldSetSpec)

/-- ITS FALSE NEIGHBOUR: 'it returns false'. Refute it at one input. -/
def fnExactFoldSetWrong : ChangeSpec := { name := "fnExactFoldSet", fn := fun _ => fun
  | [d] => { results := [.lit (.bool false)], args := [d] }
  | _ => none }
def FnExactFoldSetWrongFalsely : Prop := fnExactFoldSetRow.holds Try.pinned (OpenSpec.ofChange fnExactFoldSetWrong)

/- THE SECOND FORM. 'bulk': how many values and letters a reading holds, each counted each time it is reached (what is shared counts as often as it is met; a slice's spare places count too). A statement '..UptoSaid' is the law's where the arguments, and the package variables that the reading takes, are together of bulk at most 1048576: NARROWER than '..Said'. Prove '..Said' where nothing that the law and all that it calls make is longer than what came in: it says more and counts as full. Else prove '..UptoSaid'. A law counts once. -/
mutual
def uptoBulk {H : Type} : DataW H → Nat
  | .lit (.string bytes) => bytes.length + 1
  | .lit _ => 1
  | .nil => 1
  | .ptr d => uptoBulk d + 1
  | .slice elems spare => uptoBulkAll elems + uptoBulkAll spare + 1
  | .agg parts => uptoBulkAll parts + 1
  | .iface _ d => uptoBulk d + 1
  | .map entries => uptoBulkEntries entries + 1
  | .held _ => 1
def uptoBulkAll {H : Type} : List (DataW H) → Nat
  | [] => 0
  | d :: r => uptoBulk d + uptoBulkAll r
def uptoBulkEntries {H : Type} : List (Lit × DataW H) → Nat
  | [] => 0
  | x :: r => uptoBulkEntry x + uptoBulkEntries r
def uptoBulkEntry {H : Type} : Lit × DataW H → Nat
  | (.string bytes, d) => bytes.length + uptoBulk d + 1
  | (_, d) => uptoBulk d + 1
 end
def uptoSmall : (H : Type) → List (DataW H) → Bool := fun _ ds => decide (uptoBulkAll ds ≤ 1048576)
def OpenSpec.upto (s : _root_.Go.ChangeSpec) : _root_.Go.OpenSpec := { _root_.Go.OpenSpec.ofChange s with cond := some uptoSmall }

/-- 'laws.FnNormChunks', WHERE WHAT IT READS IS OF BULK AT MOST 1048576: true; the input reads as it did. -/
def fnNormChunksUptoRow : OpenClaim := { program := "ytiakmmbknnonpaa", sum := "780eadf07cada05f1f4ae411fe0da69f7a0a1edb69ac9abc954b5e1124f92df2", func := "loop.example/g00692/laws.FnNormChunks", spec := "fnNormChunks", apart := false, narrowed := true }
def FnNormChunksUptoSaid : Prop := fnNormChunksUptoRow.holds Try.pinned (OpenSpec.upto fnNormChunksSpec)

/-- 'laws.FnSets', WHERE WHAT IT READS IS OF BULK AT MOST 1048576: true; the input reads as it did. -/
def fnSetsUptoRow : OpenClaim := { program := "ytiakmmbknnonpaa", sum := "780eadf07cada05f1f4ae411fe0da69f7a0a1edb69ac9abc954b5e1124f92df2", func := "loop.example/g00692/laws.FnSets", spec := "fnSets", unfollowed := true, recurses := true, apart := false, narrowed := true }
def FnSetsUptoSaid : Prop := fnSetsUptoRow.holds Try.pinned (OpenSpec.upto fnSetsSpec)

/-- 'laws.FnFolded', WHERE WHAT IT READS IS OF BULK AT MOST 1048576: true; the input reads as it did. -/
def fnFoldedUptoRow : OpenClaim := { program := "ytiakmmbknnonpaa", sum := "780eadf07cada05f1f4ae411fe0da69f7a0a1edb69ac9abc954b5e1124f92df2", func := "loop.example/g00692/laws.FnFolded", spec := "fnFolded", unfollowed := true, recurses := true, apart := false, narrowed := true }
def FnFoldedUptoSaid : Prop := fnFoldedUptoRow.holds Try.pinned (OpenSpec.upto fnFoldedSpec)

/-- 'laws.FnExactGoodSet', WHERE WHAT IT READS IS OF BULK AT MOST 1048576: true; the input reads as it did. -/
def fnExactGoodSetUptoRow : OpenClaim := { program := "ytiakmmbknnonpaa", sum := "780eadf07cada05f1f4ae411fe0da69f7a0a1edb69ac9abc954b5e1124f92df2", func := "loop.example/g00692/laws.FnExactGoodSet", spec := "fnExactGoodSet", apart := false, narrowed := true }
def FnExactGoodSetUptoSaid : Prop := fnExactGoodSetUptoRow.holds Try.pinned (OpenSpec.upto fnExactGoodSetSpec)

/-- 'laws.FnExactSetOf', WHERE WHAT IT READS IS OF BULK AT MOST 1048576: true; the input reads as it did. -/
def fnExactSetOfUptoRow : OpenClaim := { program := "ytiakmmbknnonpaa", sum := "780eadf07cada05f1f4ae411fe0da69f7a0a1edb69ac9abc954b5e1124f92df2", func := "loop.example/g00692/laws.FnExactSetOf", spec := "fnExactSetOf", unfollowed := true, recurses := true, apart := false, narrowed := true }
def FnExactSetOfUptoSaid : Prop := fnExactSetOfUptoRow.holds Try.pinned (OpenSpec.upto fnExactSetOfSpec)

/-- 'laws.FnExactInSet', WHERE WHAT IT READS IS OF BULK AT MOST 1048576: true; the input reads as it did. -/
def fnExactInSetUptoRow : OpenClaim := { program := "ytiakmmbknnonpaa", sum := "780eadf07cada05f1f4ae411fe0da69f7a0a1edb69ac9abc954b5e1124f92df2", func := "loop.example/g00692/laws.FnExactInSet", spec := "fnExactInSet", apart := false, narrowed := true }
def FnExactInSetUptoSaid : Prop := fnExactInSetUptoRow.holds Try.pinned (OpenSpec.upto fnExactInSetSpec)

/-- 'laws.FnExactUnionSet', WHERE WHAT IT READS IS OF BULK AT MOST 1048576: true; the input reads as it did. -/
def fnExactUnionSetUptoRow : OpenClaim := { program := "ytiakmmbknnonpaa", sum := "780eadf07cada05f1f4ae411fe0da69f7a0a1edb69ac9abc954b5e1124f92df2", func := "loop.example/g00692/laws.FnExactUnionSet", spec := "fnExactUnionSet", unfollowed := true, recurses := true, apart := false, narrowed := true }
def FnExactUnionSetUptoSaid : Prop := fnExactUnionSetUptoRow.holds Try.pinned (OpenSpec.upto fnExactUnionSetSpec)

/-- 'laws.FnExactMeetSet', WHERE WHAT IT READS IS OF BULK AT MOST 1048576: true; the input reads as it did. -/
def fnExactMeetSetUptoRow : OpenClaim := { program := "ytiakmmbknnonpaa", sum := "780eadf07cada05f1f4ae411fe0da69f7a0a1edb69ac9abc954b5e1124f92df2", func := "loop.example/g00692/laws.FnExactMeetSet", spec := "fnExactMeetSet", unfollowed := true, recurses := true, apart := false, narrowed := true }
def FnExactMeetSetUptoSaid : Prop := fnExactMeetSetUptoRow.holds Try.pinned (OpenSpec.upto fnExactMeetSetSpec)

/-- 'laws.FnExactNotSet', WHERE WHAT IT READS IS OF BULK AT MOST 1048576: true; the input reads as it did. -/
def fnExactNotSetUptoRow : OpenClaim := { program := "ytiakmmbknnonpaa", sum := "780eadf07cada05f1f4ae411fe0da69f7a0a1edb69ac9abc954b5e1124f92df2", func := "loop.example/g00692/laws.FnExactNotSet", spec := "fnExactNotSet", unfollowed := true, recurses := true, apart := false, narrowed := true }
def FnExactNotSetUptoSaid : Prop := fnExactNotSetUptoRow.holds Try.pinned (OpenSpec.upto fnExactNotSetSpec)

/-- 'laws.FnExactCountSet', WHERE WHAT IT READS IS OF BULK AT MOST 1048576: true; the input reads as it did. -/
def fnExactCountSetUptoRow : OpenClaim := { program := "ytiakmmbknnonpaa", sum := "780eadf07cada05f1f4ae411fe0da69f7a0a1edb69ac9abc954b5e1124f92df2", func := "loop.example/g00692/laws.FnExactCountSet", spec := "fnExactCountSet", apart := false, narrowed := true }
def FnExactCountSetUptoSaid : Prop := fnExactCountSetUptoRow.holds Try.pinned (OpenSpec.upto fnExactCountSetSpec)

/-- 'laws.FnExactFoldRune', WHERE WHAT IT READS IS OF BULK AT MOST 1048576: true; the input reads as it did. -/
def fnExactFoldRuneUptoRow : OpenClaim := { program := "ytiakmmbknnonpaa", sum := "780eadf07cada05f1f4ae411fe0da69f7a0a1edb69ac9abc954b5e1124f92df2", func := "loop.example/g00692/laws.FnExactFoldRune", spec := "fnExactFoldRune", apart := false, narrowed := true }
def FnExactFoldRuneUptoSaid : Prop := fnExactFoldRuneUptoRow.holds Try.pinned (OpenSpec.upto fnExactFoldRuneSpec)

/-- 'laws.FnExactFoldSet', WHERE WHAT IT READS IS OF BULK AT MOST 1048576: true; the input reads as it did. -/
def fnExactFoldSetUptoRow : OpenClaim := { program := "ytiakmmbknnonpaa", sum := "780eadf07cada05f1f4ae411fe0da69f7a0a1edb69ac9abc954b5e1124f92df2", func := "loop.example/g00692/laws.FnExactFoldSet", spec := "fnExactFoldSet", unfollowed := true, recurses := true, apart := false, narrowed := true }
def FnExactFoldSetUptoSaid : Prop := fnExactFoldSetUptoRow.holds Try.pinned (OpenSpec.upto fnExactFoldSetSpec)

end Rows
end Go.Proofs.Ytiakmmbknnonpaa
