/-
  No cell of these rows narrows 'for every input' (looked for: loops, veiled, ifaces, maps, wideKeys, modest, calm, conditions, laid).
  DERIVED. THE GIVEN ROWS OF THIS SEAT. 5 by the template 'for every input the law returns true; each argument reads behind the call as it read before'; 0 by the template 'total and deterministic' (their statements: YtnlccplpcbdmnaaTotals.lean).
  GIVEN WITH THE SEED: the statements are not yours to turn. If you find one false, say at which input.
  Laid BY PROGRAM, IN A SANDBOX (cutbox-rows.mjs): the forced cells as the released guide's own fill.sh prints them over the translation 0eff611d89fa884a… (all of the seat's roots in one cut). By AI agents, Wed Nov 11 2026. No macro, syntax, notation, axiom, sorry.
-/
import Derived.Test.YtnlccplpcbdmnaaChecked
import GoSem.Claim
import GoSem.ClaimJoined
import GoSem.ClaimMapViews
import Derived.JoinedTies
import Derived.KernelRfl
namespace Go.Proofs.Ytnlccplpcbdmnaa
/- THE CELL 'sum', in the pinned program and in every row, IS THE sha256 OF THE DUMP (.gsa) THAT YtnlccplpcbdmnaaProg.lean LOADS. Nothing in Lean hashes anything: it is a label: what it is worth is what the hold of that sum in a sandbox is worth. -/
noncomputable def Try.pinned : Pinned := { name := "ytnlccplpcbdmnaa", sum := "0eff611d89fa884abaa3b5d283310eed45e78f98606edccfd29d8e98d6fc14e9", checked := Try.checked }
namespace Rows
def none {H : Type} : Left H := { results := [], args := [] }

/-- 'laws.FnExactGoodDfa': WHATEVER THE INPUT: true; the input reads as it did. -/
def fnExactGoodDfaSpec : ChangeSpec := { name := "fnExactGoodDfa", fn := fun _ => fun
  | [d] => { results := [.lit (.bool true)], args := [d] }
  | _ => none }
def fnExactGoodDfaRow : OpenClaim := { program := "ytnlccplpcbdmnaa", sum := "0eff611d89fa884abaa3b5d283310eed45e78f98606edccfd29d8e98d6fc14e9", func := "loop.example/g00692/laws.FnExactGoodDfa", spec := "fnExactGoodDfa", apart := false }
def FnExactGoodDfaSaid : Prop := fnExactGoodDfaRow.holds Try.pinned (OpenSpec.ofChange fnExactGoodDfaSpec)

/-- ITS FALSE NEIGHBOUR: 'it returns false'. Refute it at one input. -/
def fnExactGoodDfaWrong : ChangeSpec := { name := "fnExactGoodDfa", fn := fun _ => fun
  | [d] => { results := [.lit (.bool false)], args := [d] }
  | _ => none }
def FnExactGoodDfaWrongFalsely : Prop := fnExactGoodDfaRow.holds Try.pinned (OpenSpec.ofChange fnExactGoodDfaWrong)

/-- 'laws.FnExactRunDfa': WHATEVER THE INPUT: true; the input reads as it did. -/
def fnExactRunDfaSpec : ChangeSpec := { name := "fnExactRunDfa", fn := fun _ => fun
  | [d1, d2] => { results := [.lit (.bool true)], args := [d1, d2] }
  | _ => none }
def fnExactRunDfaRow : OpenClaim := { program := "ytnlccplpcbdmnaa", sum := "0eff611d89fa884abaa3b5d283310eed45e78f98606edccfd29d8e98d6fc14e9", func := "loop.example/g00692/laws.FnExactRunDfa", spec := "fnExactRunDfa", apart := false }
def FnExactRunDfaSaid : Prop := fnExactRunDfaRow.holds Try.pinned (OpenSpec.ofChange fnExactRunDfaSpec)

/-- ITS FALSE NEIGHBOUR: 'it returns false'. Refute it at one input. -/
def fnExactRunDfaWrong : ChangeSpec := { name := "fnExactRunDfa", fn := fun _ => fun
  | [d1, d2] => { results := [.lit (.bool false)], args := [d1, d2] }
  | _ => none }
def FnExactRunDfaWrongFalsely : Prop := fnExactRunDfaRow.holds Try.pinned (OpenSpec.ofChange fnExactRunDfaWrong)

/-- 'laws.FnExactNotDfa': WHATEVER THE INPUT: true; the input reads as it did. -/
def fnExactNotDfaSpec : ChangeSpec := { name := "fnExactNotDfa", fn := fun _ => fun
  | [d] => { results := [.lit (.bool true)], args := [d] }
  | _ => none }
def fnExactNotDfaRow : OpenClaim := { program := "ytnlccplpcbdmnaa", sum := "0eff611d89fa884abaa3b5d283310eed45e78f98606edccfd29d8e98d6fc14e9", func := "loop.example/g00692/laws.FnExactNotDfa", spec := "fnExactNotDfa", apart := false }
def FnExactNotDfaSaid : Prop := fnExactNotDfaRow.holds Try.pinned (OpenSpec.ofChange fnExactNotDfaSpec)

/-- ITS FALSE NEIGHBOUR: 'it returns false'. Refute it at one input. -/
def fnExactNotDfaWrong : ChangeSpec := { name := "fnExactNotDfa", fn := fun _ => fun
  | [d] => { results := [.lit (.bool false)], args := [d] }
  | _ => none }
def FnExactNotDfaWrongFalsely : Prop := fnExactNotDfaRow.holds Try.pinned (OpenSpec.ofChange fnExactNotDfaWrong)

/-- 'laws.FnExactIsNoneDfa': WHATEVER THE INPUT: true; the input reads as it did. -/
def fnExactIsNoneDfaSpec : ChangeSpec := { name := "fnExactIsNoneDfa", fn := fun _ => fun
  | [d] => { results := [.lit (.bool true)], args := [d] }
  | _ => none }
def fnExactIsNoneDfaRow : OpenClaim := { program := "ytnlccplpcbdmnaa", sum := "0eff611d89fa884abaa3b5d283310eed45e78f98606edccfd29d8e98d6fc14e9", func := "loop.example/g00692/laws.FnExactIsNoneDfa", spec := "fnExactIsNoneDfa", apart := false }
def FnExactIsNoneDfaSaid : Prop := fnExactIsNoneDfaRow.holds Try.pinned (OpenSpec.ofChange fnExactIsNoneDfaSpec)

/-- ITS FALSE NEIGHBOUR: 'it returns false'. Refute it at one input. -/
def fnExactIsNoneDfaWrong : ChangeSpec := { name := "fnExactIsNoneDfa", fn := fun _ => fun
  | [d] => { results := [.lit (.bool false)], args := [d] }
  | _ => none }
def FnExactIsNoneDfaWrongFalsely : Prop := fnExactIsNoneDfaRow.holds Try.pinned (OpenSpec.ofChange fnExactIsNoneDfaWrong)

/-- 'laws.FnExactShortIn': WHATEVER THE INPUT: true; the input reads as it did. -/
def fnExactShortInSpec : ChangeSpec := { name := "fnExactShortIn", fn := fun _ => fun
  | [d] => { results := [.lit (.bool true)], args := [d] }
  | _ => none }
def fnExactShortInRow : OpenClaim := { program := "ytnlccplpcbdmnaa", sum := "0eff611d89fa884abaa3b5d283310eed45e78f98606edccfd29d8e98d6fc14e9", func := "loop.example/g00692/laws.FnExactShortIn", spec := "fnExactShortIn", apart := false }
def FnExactShortInSaid : Prop := fnExactShortInRow.holds Try.pinned (OpenSpec.ofChange fnExactShortInSpec)

/-- ITS FALSE NEIGHBOUR: 'it returns false'. Refute it at one input. -/
def fnExactShortInWrong : ChangeSpec := { name := "fnExactShortIn", fn := fun _ => fun
  | [d] => { results := [.lit (.bool false)], args := [d] }
  | _ => none }
def FnExactShortInWrongFalsely : Prop := fnExactShortInRow.holds Try.pinned (OpenSpec.ofChange fnExactShortInWrong)

/- THE SECOND FORM. 'bulk': how many values and letters a reading holds, each counted each time it is reached (what is shared counts as often as it is met; a slice's spare places count too). A statement '..UptoSaid' is the law's where the arguments, and the package variables that the reading takes, are together of bulk at most 1048576: NARROWER than '..Said'. Prove '..Said' where nothing that the law and all that it calls make is longer than what came in: it says more and counts as full. Else prove '..UptoSaid'. A law counts once. -/
mutual
def uptoBulk {H : Type} : DataW H → Nat
  | .lit (.string bytes) => bytes.length + 1
  | .lit _ => 1
  | .nil => 1
  | .ptr d => uptoBulk d + 1
  | .slice elems spare => uptoBulkAll elems + uptoBulkAll spare + 1
  | .agg parts => uptoBulkAll parts + 1
  | .iface _ d => uptoBulk d + 1
  | .map entries => uptoBulkEntries entries + 1
  | .held _ => 1
def uptoBulkAll {H : Type} : List (DataW H) → Nat
  | [] => 0
  | d :: r => uptoBulk d + uptoBulkAll r
def uptoBulkEntries {H : Type} : List (Lit × DataW H) → Nat
  | [] => 0
  | x :: r => uptoBulkEntry x + uptoBulkEntries r
def uptoBulkEntry {H : Type} : Lit × DataW H → Nat
  | (.string bytes, d) => bytes.length + uptoBulk d + 1
  | (_, d) => uptoBulk d + 1
 end
def uptoSmall : (H : Type) → List (DataW H) → Bool := fun _ ds => decide (uptoBulkAll ds ≤ 1048576)
def OpenSpec.upto (s : _root_.Go.ChangeSpec) : _root_.Go.OpenSpec := { _root_.Go.OpenSpec.ofChange s with cond := some uptoSmall }

/-- 'laws.FnExactGoodDfa', WHERE WHAT IT READS IS OF BULK AT MOST 1048576: true; the input reads as it did. -/
def fnExactGoodDfaUptoRow : OpenClaim := { program := "ytnlccplpcbdmnaa", sum := "0eff611d89fa884abaa3b5d283310eed45e78f98606edccfd29d8e98d6fc14e9", func := "loop.example/g00692/laws.FnExactGoodDfa", spec := "fnExactGoodDfa", apart := false, narrowed := true }
def FnExactGoodDfaUptoSaid : Prop := fnExactGoodDfaUptoRow.holds Try.pinned (OpenSpec.upto fnExactGoodDfaSpec)

/-- 'laws.FnExactRunDfa', WHERE WHAT IT READS IS OF BULK AT MOST 1048576: true; the input reads as it did. -/
def fnExactRunDfaUptoRow : OpenClaim := { program := "ytnlccplpcbdmnaa", sum := "0eff611d89fa884abaa3b5d283310eed45e78f98606edccfd29d8e98d6fc14e9", func := "loop.example/g00692/laws.FnExactRunDfa", spec := "fnExactRunDfa", apart := false, narrowed := true }
def FnExactRunDfaUptoSaid : Prop := fnExactRunDfaUptoRow.holds Try.pinned (OpenSpec.upto fnExactRunDfaSpec)

/-- 'laws.FnExactNotDfa', WHERE WHAT IT READS IS OF BULK AT MOST 1048576: true; the input reads as it did. -/
def fnExactNotDfaUptoRow : OpenClaim := { program := "ytnlccplpcbdmnaa", sum := "0eff611d89fa884abaa3b5d283310eed45e78f98606edccfd29d8e98d6fc14e9", func := "loop.example/g00692/laws.FnExactNotDfa", spec := "fnExactNotDfa", apart := false, narrowed := true }
def FnExactNotDfaUptoSaid : Prop := fnExactNotDfaUptoRow.holds Try.pinned (OpenSpec.upto fnExactNotDfaSpec)

/-- 'laws.FnExactIsNoneDfa', WHERE WHAT IT READS IS OF BULK AT MOST 1048576: true; the input reads as it did. -/
def fnExactIsNoneDfaUptoRow : OpenClaim := { program := "ytnlccplpcbdmnaa", sum := "0eff611d89fa884abaa3b5d283310eed45e78f98606edccfd29d8e98d6fc14e9", func := "loop.example/g00692/laws.FnExactIsNoneDfa", spec := "fnExactIsNoneDfa", apart := false, narrowed := true }
def FnExactIsNoneDfaUptoSaid : Prop := fnExactIsNoneDfaUptoRow.holds Try.pinned (OpenSpec.upto fnExactIsNoneDfaSpec)

/-- 'laws.FnExactShortIn', WHERE WHAT IT READS IS OF BULK AT MOST 1048576: true; the input reads as it did. -/
def fnExactShortInUptoRow : OpenClaim := { program := "ytnlccplpcbdmnaa", sum := "0eff611d89fa884abaa3b5d283310eed45e78f98606edccfd29d8e98d6fc14e9", func := "loop.example/g00692/laws.FnExactShortIn", spec := "fnExactShortIn", apart := false, narrowed := true }
def FnExactShortInUptoSaid : Prop := fnExactShortInUptoRow.holds Try.pinned (OpenSpec.upto fnExactShortInSpec)

end Rows
end Go.Proofs.Ytnlccplpcbdmnaa
