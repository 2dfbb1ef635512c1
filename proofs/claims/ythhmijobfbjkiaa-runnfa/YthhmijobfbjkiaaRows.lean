/-
  No cell of these rows narrows 'for every input' (looked for: loops, veiled, ifaces, maps, wideKeys, modest, calm, conditions, laid).
  DERIVED. THE GIVEN ROWS OF THIS SEAT. 4 by the template 'for every input the law returns true; each argument reads behind the call as it read before'; 0 by the template 'total and deterministic' (their statements: YthhmijobfbjkiaaTotals.lean).
  GIVEN WITH THE SEED: the statements are not yours to turn. If you find one false, say at which input.
  Laid BY PROGRAM, IN A SANDBOX (cutbox-rows.mjs): the forced cells as the released guide's own fill.sh prints them over the translation a123562dd7ab70f3… (all of the seat's roots in one cut). By AI agents, Wed Nov 11 2026. No macro, syntax, notation, axiom, sorry.
-/
import Derived.Test.YthhmijobfbjkiaaChecked
import GoSem.Claim
import GoSem.ClaimJoined
import GoSem.ClaimMapViews
import Derived.JoinedTies
import Derived.KernelRfl
namespace Go.Proofs.Ythhmijobfbjkiaa
/- THE CELL 'sum', in the pinned program and in every row, IS THE sha256 OF THE DUMP (.gsa) THAT YthhmijobfbjkiaaProg.lean LOADS. Nothing in Lean hashes anything: it is a label: what it is worth is what the hold of that sum in a sandbox is worth. -/
noncomputable def Try.pinned : Pinned := { name := "ythhmijobfbjkiaa", sum := "a123562dd7ab70f353bb77ef55dfedb8e9eee92784d1a1f94a7dd688dd50bc37", checked := Try.checked }
namespace Rows
def none {H : Type} : Left H := { results := [], args := [] }

/-- 'laws.FnExactMatchesRe': WHATEVER THE INPUT: true; the input reads as it did. -/
def fnExactMatchesReSpec : ChangeSpec := { name := "fnExactMatchesRe", fn := fun _ => fun
  | [d1, d2] => { results := [.lit (.bool true)], args := [d1, d2] }
  | _ => none }
def fnExactMatchesReRow : OpenClaim := { program := "ythhmijobfbjkiaa", sum := "a123562dd7ab70f353bb77ef55dfedb8e9eee92784d1a1f94a7dd688dd50bc37", func := "loop.example/g00692/laws.FnExactMatchesRe", spec := "fnExactMatchesRe", recurses := true, apart := false }
def FnExactMatchesReSaid : Prop := fnExactMatchesReRow.holds Try.pinned (OpenSpec.ofChange fnExactMatchesReSpec)

/-- ITS FALSE NEIGHBOUR: 'it returns false'. Refute it at one input. -/
def fnExactMatchesReWrong : ChangeSpec := { name := "fnExactMatchesRe", fn := fun _ => fun
  | [d1, d2] => { results := [.lit (.bool false)], args := [d1, d2] }
  | _ => none }
def FnExactMatchesReWrongFalsely : Prop := fnExactMatchesReRow.holds Try.pinned (OpenSpec.ofChange fnExactMatchesReWrong)

/-- 'laws.FnExactGoodNfa': WHATEVER THE INPUT: true; the input reads as it did. -/
def fnExactGoodNfaSpec : ChangeSpec := { name := "fnExactGoodNfa", fn := fun _ => fun
  | [d] => { results := [.lit (.bool true)], args := [d] }
  | _ => none }
def fnExactGoodNfaRow : OpenClaim := { program := "ythhmijobfbjkiaa", sum := "a123562dd7ab70f353bb77ef55dfedb8e9eee92784d1a1f94a7dd688dd50bc37", func := "loop.example/g00692/laws.FnExactGoodNfa", spec := "fnExactGoodNfa", apart := false }
def FnExactGoodNfaSaid : Prop := fnExactGoodNfaRow.holds Try.pinned (OpenSpec.ofChange fnExactGoodNfaSpec)

/-- ITS FALSE NEIGHBOUR: 'it returns false'. Refute it at one input. -/
def fnExactGoodNfaWrong : ChangeSpec := { name := "fnExactGoodNfa", fn := fun _ => fun
  | [d] => { results := [.lit (.bool false)], args := [d] }
  | _ => none }
def FnExactGoodNfaWrongFalsely : Prop := fnExactGoodNfaRow.holds Try.pinned (OpenSpec.ofChange fnExactGoodNfaWrong)

/-- 'laws.FnExactRunNfa': WHATEVER THE INPUT: true; the input reads as it did. -/
def fnExactRunNfaSpec : ChangeSpec := { name := "fnExactRunNfa", fn := fun _ => fun
  | [d1, d2] => { results := [.lit (.bool true)], args := [d1, d2] }
  | _ => none }
def fnExactRunNfaRow : OpenClaim := { program := "ythhmijobfbjkiaa", sum := "a123562dd7ab70f353bb77ef55dfedb8e9eee92784d1a1f94a7dd688dd50bc37", func := "loop.example/g00692/laws.FnExactRunNfa", spec := "fnExactRunNfa", apart := false }
def FnExactRunNfaSaid : Prop := fnExactRunNfaRow.holds Try.pinned (OpenSpec.ofChange fnExactRunNfaSpec)

/-- ITS FALSE NEIGHBOUR: 'it returns false'. Refute it at one input. -/
def fnExactRunNfaWrong : ChangeSpec := { name := "fnExactRunNfa", fn := fun _ => fun
  | [d1, d2] => { results := [.lit (.bool false)], args := [d1, d2] }
  | _ => none }
def FnExactRunNfaWrongFalsely : Prop := fnExactRunNfaRow.holds Try.pinned (OpenSpec.ofChange fnExactRunNfaWrong)

/-- 'laws.FnExactCutsOf': WHATEVER THE INPUT: true; the input reads as it did. -/
def fnExactCutsOfSpec : ChangeSpec := { name := "fnExactCutsOf", fn := fun _ => fun
  | [d] => { results := [.lit (.bool true)], args := [d] }
  | _ => none }
def fnExactCutsOfRow : OpenClaim := { program := "ythhmijobfbjkiaa", sum := "a123562dd7ab70f353bb77ef55dfedb8e9eee92784d1a1f94a7dd688dd50bc37", func := "loop.example/g00692/laws.FnExactCutsOf", spec := "fnExactCutsOf", recurses := true, apart := false }
def FnExactCutsOfSaid : Prop := fnExactCutsOfRow.holds Try.pinned (OpenSpec.ofChange fnExactCutsOfSpec)

/-- ITS FALSE NEIGHBOUR: 'it returns false'. Refute it at one input. -/
def fnExactCutsOfWrong : ChangeSpec := { name := "fnExactCutsOf", fn := fun _ => fun
  | [d] => { results := [.lit (.bool false)], args := [d] }
  | _ => none }
def FnExactCutsOfWrongFalsely : Prop := fnExactCutsOfRow.holds Try.pinned (OpenSpec.ofChange fnExactCutsOfWrong)

/- THE SECOND FORM. 'bulk': how many values and letters a reading holds, each counted each time it is reached (what is shared counts as often as it is met; a slice's spare places count too). A statement '..UptoSaid' is the law's where the arguments, and the package variables that the reading takes, are together of bulk at most 1048576: NARROWER than '..Said'. Prove '..Said' where nothing that the law and all that it calls make is longer than what came in: it says more and counts as full. Else prove '..UptoSaid'. A law counts once. -/
mutual
def uptoBulk {H : Type} : DataW H → Nat
  | .lit (.string bytes) => bytes.length + 1
  | .lit _ => 1
  | .nil => 1
  | .ptr d => uptoBulk d + 1
  | .slice elems spare => uptoBulkAll elems + uptoBulkAll spare + 1
  | .agg parts => uptoBulkAll parts + 1
  | .iface _ d => uptoBulk d + 1
  | .map entries => uptoBulkEntries entries + 1
  | .held _ => 1
def uptoBulkAll {H : Type} : List (DataW H) → Nat
  | [] => 0
  | d :: r => uptoBulk d + uptoBulkAll r
def uptoBulkEntries {H : Type} : List (Lit × DataW H) → Nat
  | [] => 0
  | x :: r => uptoBulkEntry x + uptoBulkEntries r
def uptoBulkEntry {H : Type} : Lit × DataW H → Nat
  | (.string bytes, d) => bytes.length + uptoBulk d + 1
  | (_, d) => uptoBulk d + 1
 end
def uptoSmall : (H : Type) → List (DataW H) → Bool := fun _ ds => decide (uptoBulkAll ds ≤ 1048576)
def OpenSpec.upto (s : _root_.Go.ChangeSpec) : _root_.Go.OpenSpec := { _root_.Go.OpenSpec.ofChange s with cond := some uptoSmall }

/-- 'laws.FnExactMatchesRe', WHERE WHAT IT READS IS OF BULK AT MOST 1048576: true; the input reads as it did. -/
def fnExactMatchesReUptoRow : OpenClaim := { program := "ythhmijobfbjkiaa", sum := "a123562dd7ab70f353bb77ef55dfedb8e9eee92784d1a1f94a7dd688dd50bc37", func := "loop.example/g00692/laws.FnExactMatchesRe", spec := "fnExactMatchesRe", recurses := true, apart := false, narrowed := true }
def FnExactMatchesReUptoSaid : Prop := fnExactMatchesReUptoRow.holds Try.pinned (OpenSpec.upto fnExactMatchesReSpec)

/-- 'laws.FnExactGoodNfa', WHERE WHAT IT READS IS OF BULK AT MOST 1048576: true; the input reads as it did. -/
def fnExactGoodNfaUptoRow : OpenClaim := { program := "ythhmijobfbjkiaa", sum := "a123562dd7ab70f353bb77ef55dfedb8e9eee92784d1a1f94a7dd688dd50bc37", func := "loop.example/g00692/laws.FnExactGoodNfa", spec := "fnExactGoodNfa", apart := false, narrowed := true }
def FnExactGoodNfaUptoSaid : Prop := fnExactGoodNfaUptoRow.holds Try.pinned (OpenSpec.upto fnExactGoodNfaSpec)

/-- 'laws.FnExactRunNfa', WHERE WHAT IT READS IS OF BULK AT MOST 1048576: true; the input reads as it did. -/
def fnExactRunNfaUptoRow : OpenClaim := { program := "ythhmijobfbjkiaa", sum := "a123562dd7ab70f353bb77ef55dfedb8e9eee92784d1a1f94a7dd688dd50bc37", func := "loop.example/g00692/laws.FnExactRunNfa", spec := "fnExactRunNfa", apart := false, narrowed := true }
def FnExactRunNfaUptoSaid : Prop := fnExactRunNfaUptoRow.holds Try.pinned (OpenSpec.upto fnExactRunNfaSpec)

/-- 'laws.FnExactCutsOf', WHERE WHAT IT READS IS OF BULK AT MOST 1048576: true; the input reads as it did. -/
def fnExactCutsOfUptoRow : OpenClaim := { program := "ythhmijobfbjkiaa", sum := "a123562dd7ab70f353bb77ef55dfedb8e9eee92784d1a1f94a7dd688dd50bc37", func := "loop.example/g00692/laws.FnExactCutsOf", spec := "fnExactCutsOf", recurses := true, apart := false, narrowed := true }
def FnExactCutsOfUptoSaid : Prop := fnExactCutsOfUptoRow.holds Try.pinned (OpenSpec.upto fnExactCutsOfSpec)

end Rows
end Go.Proofs.Ythhmijobfbjkiaa
