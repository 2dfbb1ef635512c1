/-
  No cell of these rows narrows 'for every input' (looked for: loops, veiled, ifaces, maps, wideKeys, modest, calm, conditions, laid).
  DERIVED. THE GIVEN ROWS OF THIS SEAT. 6 by the template 'for every input the law returns true; each argument reads behind the call as it read before'; 0 by the template 'total and deterministic' (their statements: YtendikiflikobaaTotals.lean).
  GIVEN WITH THE SEED: the statements are not yours to turn. If you find one false, say at which input.
  Laid BY PROGRAM, IN A SANDBOX (cutbox-rows.mjs): the forced cells as the released guide's own fill.sh prints them over the translation d8984acc9d7e2ffd… (all of the seat's roots in one cut). By AI agents, Wed Nov 11 2026. No macro, syntax, notation, axiom, sorry.
-/
import Derived.Test.YtendikiflikobaaChecked
import GoSem.Claim
import GoSem.ClaimJoined
import GoSem.ClaimMapViews
import Derived.JoinedTies
import Derived.KernelRfl
namespace Go.Proofs.Ytendikiflikobaa
/- THE CELL 'sum', in the pinned program and in every row, IS THE sha256 OF THE DUMP (.gsa) THAT YtendikiflikobaaProg.lean LOADS. Nothing in Lean hashes anything: it is a label: what it is worth is what the hold of that sum in a sandbox is worth. -/
noncomputable def Try.pinned : Pinned := { name := "ytendikiflikobaa", sum := "d8984acc9d7e2ffd9484ecdd26a510d38a55938b1bfdf7eb4be3687aaefc73e2", checked := Try.checked }
namespace Rows
def none {H : Type} : Left H := { results := [], args := [] }

/-- 'laws.FnDeriv': WHATEVER THE INPUT: true; the input reads as it did. -/
def fnDerivSpec : ChangeSpec := { name := "fnDeriv", fn := fun _ => fun
  | [d1, d2] => { results := [.lit (.bool true)], args := [d1, d2] }
  | _ => none }
def fnDerivRow : OpenClaim := { program := "ytendikiflikobaa", sum := "d8984acc9d7e2ffd9484ecdd26a510d38a55938b1bfdf7eb4be3687aaefc73e2", func := "loop.example/g00692/laws.FnDeriv", spec := "fnDeriv", recurses := true, apart := false }
def FnDerivSaid : Prop := fnDerivRow.holds Try.pinned (OpenSpec.ofChange fnDerivSpec)

/-- ITS FALSE NEIGHBOUR: 'it returns false'. Refute it at one input. -/
def fnDerivWrong : ChangeSpec := { name := "fnDeriv", fn := fun _ => fun
  | [d1, d2] => { results := [.lit (.bool false)], args := [d1, d2] }
  | _ => none }
def FnDerivWrongFalsely : Prop := fnDerivRow.holds Try.pinned (OpenSpec.ofChange fnDerivWrong)

/-- 'laws.FnExactMatchesRe': WHATEVER THE INPUT: true; the input reads as it did. -/
def fnExactMatchesReSpec : ChangeSpec := { name := "fnExactMatchesRe", fn := fun _ => fun
  | [d1, d2] => { results := [.lit (.bool true)], args := [d1, d2] }
  | _ => none }
def fnExactMatchesReRow : OpenClaim := { program := "ytendikiflikobaa", sum := "d8984acc9d7e2ffd9484ecdd26a510d38a55938b1bfdf7eb4be3687aaefc73e2", func := "loop.example/g00692/laws.FnExactMatchesRe", spec := "fnExactMatchesRe", recurses := true, apart := false }
def FnExactMatchesReSaid : Prop := fnExactMatchesReRow.holds Try.pinned (OpenSpec.ofChange fnExactMatchesReSpec)

/-- ITS FALSE NEIGHBOUR: 'it returns false'. Refute it at one input. -/
def fnExactMatchesReWrong : ChangeSpec := { name := "fnExactMatchesRe", fn := fun _ => fun
  | [d1, d2] => { results := [.lit (.bool false)], args := [d1, d2] }
  | _ => none }
def FnExactMatchesReWrongFalsely : Prop := fnExactMatchesReRow.holds Try.pinned (OpenSpec.ofChange fnExactMatchesReWrong)

/-- 'laws.FnExactDerivRe': WHATEVER THE INPUT: true; the input reads as it did. -/
def fnExactDerivReSpec : ChangeSpec := { name := "fnExactDerivRe", fn := fun _ => fun
  | [d1, d2] => { results := [.lit (.bool true)], args := [d1, d2] }
  | _ => none }
def fnExactDerivReRow : OpenClaim := { program := "ytendikiflikobaa", sum := "d8984acc9d7e2ffd9484ecdd26a510d38a55938b1bfdf7eb4be3687aaefc73e2", func := "loop.example/g00692/laws.FnExactDerivRe", spec := "fnExactDerivRe", recurses := true, apart := false }
def FnExactDerivReSaid : Prop := fnExactDerivReRow.holds Try.pinned (OpenSpec.ofChange fnExactDerivReSpec)

/-- ITS FALSE NEIGHBOUR: 'it returns false'. Refute it at one input. -/
def fnExactDerivReWrong : ChangeSpec := { name := "fnExactDerivRe", fn := fun _ => fun
  | [d1, d2] => { results := [.lit (.bool false)], args := [d1, d2] }
  | _ => none }
def FnExactDerivReWrongFalsely : Prop := fnExactDerivReRow.holds Try.pinned (OpenSpec.ofChange fnExactDerivReWrong)

/-- 'laws.FnExactTidyRe': WHATEVER THE INPUT: true; the input reads as it did. -/
def fnExactTidyReSpec : ChangeSpec := { name := "fnExactTidyRe", fn := fun _ => fun
  | [d] => { results := [.lit (.bool true)], args := [d] }
  | _ => none }
def fnExactTidyReRow : OpenClaim := { program := "ytendikiflikobaa", sum := "d8984acc9d7e2ffd9484ecdd26a510d38a55938b1bfdf7eb4be3687aaefc73e2", func := "loop.example/g00692/laws.FnExactTidyRe", spec := "fnExactTidyRe", recurses := true, apart := false }
def FnExactTidyReSaid : Prop := fnExactTidyReRow.holds Try.pinned (OpenSpec.ofChange fnExactTidyReSpec)

/-- ITS FALSE NEIGHBOUR: 'it returns false'. Refute it at one input. -/
def fnExactTidyReWrong : ChangeSpec := { name := "fnExactTidyRe", fn := fun _ => fun
  | [d] => { results := [.lit (.bool false)], args := [d] }
  | _ => none }
def FnExactTidyReWrongFalsely : Prop := fnExactTidyReRow.holds Try.pinned (OpenSpec.ofChange fnExactTidyReWrong)

/-- 'laws.FnExactIsNoneDfa': WHATEVER THE INPUT: true; the input reads as it did. -/
def fnExactIsNoneDfaSpec : ChangeSpec := { name := "fnExactIsNoneDfa", fn := fun _ => fun
  | [d] => { results := [.lit (.bool true)], args := [d] }
  | _ => none }
def fnExactIsNoneDfaRow : OpenClaim := { program := "ytendikiflikobaa", sum := "d8984acc9d7e2ffd9484ecdd26a510d38a55938b1bfdf7eb4be3687aaefc73e2", func := "loop.example/g00692/laws.FnExactIsNoneDfa", spec := "fnExactIsNoneDfa", apart := false }
def FnExactIsNoneDfaSaid : Prop := fnExactIsNoneDfaRow.holds Try.pinned (OpenSpec.ofChange fnExactIsNoneDfaSpec)

/-- ITS FALSE NEIGHBOUR: 'it returns false'. Refute it at one input. -/
def fnExactIsNoneDfaWrong : ChangeSpec := { name := "fnExactIsNoneDfa", fn := fun _ => fun
  | [d] => { results := [.lit (.bool false)], args := [d] }
  | _ => none }
def FnExactIsNoneDfaWrongFalsely : Prop := fnExactIsNoneDfaRow.holds Try.pinned (OpenSpec.ofChange fnExactIsNoneDfaWrong)

/-- 'laws.FnExactShortIn': WHATEVER THE INPUT: true; the input reads as it did. -/
def fnExactShortInSpec : ChangeSpec := { name := "fnExactShortIn", fn := fun _ => fun
  | [d] => { results := [.lit (.bool true)], args := [d] }
  | _ => none }
def fnExactShortInRow : OpenClaim := { program := "ytendikiflikobaa", sum := "d8984acc9d7e2ffd9484ecdd26a510d38a55938b1bfdf7eb4be3687aaefc73e2", func := "loop.example/g00692/laws.FnExactShortIn", spec := "fnExactShortIn", apart := false }
def FnExactShortInSaid : Prop := fnExactShortInRow.holds Try.pinned (OpenSpec.ofChange fnExactShortInSpec)

/-- ITS FALSE NEIGHBOUR: 'it returns false'. Refute it at one input. -/
def fnExactShortInWrong : ChangeSpec := { name := "fnExactShortIn", fn := fun _ => fun
  | [d] => { results := [.lit (.bool false)], args := [d] }
  | _ => none }
def FnExactShortInWrongFalsely : Prop := fnExactShortInRow.holds Try.pinned (OpenSpec.ofChange fnExactShortInWrong)

/- THE SECOND FORM. 'bulk': how many values and letters a reading holds, each counted each time it is reached (what is shared counts as often as it is met; a slice's spare places count too). A statement '..UptoSaid' is the law's where the arguments, and the package variables that the reading takes, are together of bulk at most 1048576: NARROWER than '..Said'. Prove '..Said' where nothing that the law and all that it calls make is longer than what came in: it says more and counts as full. Else prove '..UptoSaid'. A law counts once. -/
mutual
def uptoBulk {H : Type} : DataW H → Nat
  | .lit (.string bytes) => bytes.length + 1
  | .lit _ => 1
  | .nil => 1
  | .ptr d => uptoBulk d + 1
  | .slice elems spare => uptoBulkAll elems + uptoBulkAll spare + 1
  | .agg parts => uptoBulkAll parts + 1
  | .iface _ d => uptoBulk d + 1
  | .map entries => uptoBulkEntries entries + 1
  | .held _ => 1
def uptoBulkAll {H : Type} : List (DataW H) → Nat
  | [] => 0
  | d :: r => uptoBulk d + uptoBulkAll r
def uptoBulkEntries {H : Type} : List (Lit × DataW H) → Nat
  | [] => 0
  | x :: r => uptoBulkEntry x + uptoBulkEntries r
def uptoBulkEntry {H : Type} : Lit × DataW H → Nat
  | (.string bytes, d) => bytes.length + uptoBulk d + 1
  | (_, d) => uptoBulk d + 1
 end
def uptoSmall : (H : Type) → List (DataW H) → Bool := fun _ ds => decide (uptoBulkAll ds ≤ 1048576)
def OpenSpec.upto (s : _root_.Go.ChangeSpec) : _root_.Go.OpenSpec := { _root_.Go.OpenSpec.ofChange s with cond := some uptoSmall }

/-- 'laws.FnDeriv', WHERE WHAT IT READS IS OF BULK AT MOST 1048576: true; the input reads as it did. -/
def fnDerivUptoRow : OpenClaim := { program := "ytendikiflikobaa", sum := "d8984acc9d7e2ffd9484ecdd26a510d38a55938b1bfdf7eb4be3687aaefc73e2", func := "loop.example/g00692/laws.FnDeriv", spec := "fnDeriv", recurses := true, apart := false, narrowed := true }
def FnDerivUptoSaid : Prop := fnDerivUptoRow.holds Try.pinned (OpenSpec.upto fnDerivSpec)

/-- 'laws.FnExactMatchesRe', WHERE WHAT IT READS IS OF BULK AT MOST 1048576: true; the input reads as it did. -/
def fnExactMatchesReUptoRow : OpenClaim := { program := "ytendikiflikobaa", sum := "d8984acc9d7e2ffd9484ecdd26a510d38a55938b1bfdf7eb4be3687aaefc73e2", func := "loop.example/g00692/laws.FnExactMatchesRe", spec := "fnExactMatchesRe", recurses := true, apart := false, narrowed := true }
def FnExactMatchesReUptoSaid : Prop := fnExactMatchesReUptoRow.holds Try.pinned (OpenSpec.upto fnExactMatchesReSpec)

/-- 'laws.FnExactDerivRe', WHERE WHAT IT READS IS OF BULK AT MOST 1048576: true; the input reads as it did. -/
def fnExactDerivReUptoRow : OpenClaim := { program := "ytendikiflikobaa", sum := "d8984acc9d7e2ffd9484ecdd26a510d38a55938b1bfdf7eb4be3687aaefc73e2", func := "loop.example/g00692/laws.FnExactDerivRe", spec := "fnExactDerivRe", recurses := true, apart := false, narrowed := true }
def FnExactDerivReUptoSaid : Prop := fnExactDerivReUptoRow.holds Try.pinned (OpenSpec.upto fnExactDerivReSpec)

/-- 'laws.FnExactTidyRe', WHERE WHAT IT READS IS OF BULK AT MOST 1048576: true; the input reads as it did. -/
def fnExactTidyReUptoRow : OpenClaim := { program := "ytendikiflikobaa", sum := "d8984acc9d7e2ffd9484ecdd26a510d38a55938b1bfdf7eb4be3687aaefc73e2", func := "loop.example/g00692/laws.FnExactTidyRe", spec := "fnExactTidyRe", recurses := true, apart := false, narrowed := true }
def FnExactTidyReUptoSaid : Prop := fnExactTidyReUptoRow.holds Try.pinned (OpenSpec.upto fnExactTidyReSpec)

/-- 'laws.FnExactIsNoneDfa', WHERE WHAT IT READS IS OF BULK AT MOST 1048576: true; the input reads as it did. -/
def fnExactIsNoneDfaUptoRow : OpenClaim := { program := "ytendikiflikobaa", sum := "d8984acc9d7e2ffd9484ecdd26a510d38a55938b1bfdf7eb4be3687aaefc73e2", func := "loop.example/g00692/laws.FnExactIsNoneDfa", spec := "fnExactIsNoneDfa", apart := false, narrowed := true }
def FnExactIsNoneDfaUptoSaid : Prop := fnExactIsNoneDfaUptoRow.holds Try.pinned (OpenSpec.upto fnExactIsNoneDfaSpec)

/-- 'laws.FnExactShortIn', WHERE WHAT IT READS IS OF BULK AT MOST 1048576: true; the input reads as it did. -/
def fnExactShortInUptoRow : OpenClaim := { program := "ytendikiflikobaa", sum := "d8984acc9d7e2ffd9484ecdd26a510d38a55938b1bfdf7eb4be3687aaefc73e2", func := "loop.example/g00692/laws.FnExactShortIn", spec := "fnExactShortIn", apart := false, narrowed := true }
def FnExactShortInUptoSaid : Prop := fnExactShortInUptoRow.holds Try.pinned (OpenSpec.upto fnExactShortInSpec)

end Rows
end Go.Proofs.Ytendikiflikobaa
