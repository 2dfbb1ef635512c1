/-
  No cell of these rows narrows 'for every input' (looked for: loops, veiled, ifaces, maps, wideKeys, modest, calm, conditions, laid).
  DERIVED. THE GIVEN ROWS OF THIS SEAT. 3 by the template 'for every input the law returns true; each argument reads behind the call as it read before'; 0 by the template 'total and deterministic' (their statements: YtdhppigjlldfmaaTotals.lean).
  GIVEN WITH THE SEED: the statements are not yours to turn. If you find one false, say at which input.
  Laid BY PROGRAM, IN A SANDBOX (cutbox-rows.mjs): the forced cells as the released guide's own fill.sh prints them over the translation 364d7e4cbdf3ac4d… (all of the seat's roots in one cut). By AI agents, Wed Nov 11 2026. No macro, syntax, notation, axiom, sorry.
-/
import Derived.Test.YtdhppigjlldfmaaChecked
import GoSem.Claim
import GoSem.ClaimJoined
import GoSem.ClaimMapViews
import Derived.JoinedTies
import Derived.KernelRfl
namespace Go.Proofs.Ytdhppigjlldfmaa
/- THE CELL 'sum', in the pinned program and in every row, IS THE sha256 OF THE DUMP (.gsa) THAT YtdhppigjlldfmaaProg.lean LOADS. Nothing in Lean hashes anything: it is a label: what it is worth is what the hold of that sum in a sandbox is worth. -/
noncomputable def Try.pinned : Pinned := { name := "ytdhppigjlldfmaa", sum := "364d7e4cbdf3ac4d6db23dd4eaba58a8ecb3c870eb8670ce11e8b0dff2682c51", checked := Try.checked }
namespace Rows
def none {H : Type} : Left H := { results := [], args := [] }

/-- 'laws.FnAho': WHATEVER THE INPUT: true; the input reads as it did. -/
def fnAhoSpec : ChangeSpec := { name := "fnAho", fn := fun _ => fun
  | [d1, d2] => { results := [.lit (.bool true)], args := [d1, d2] }
  | _ => none }
def fnAhoRow : OpenClaim := { program := "ytdhppigjlldfmaa", sum := "364d7e4cbdf3ac4d6db23dd4eaba58a8ecb3c870eb8670ce11e8b0dff2682c51", func := "loop.example/g00692/laws.FnAho", spec := "fnAho", recurses := true, plainKeys := false, apart := false }
def FnAhoSaid : Prop := fnAhoRow.holds Try.pinned (OpenSpec.ofChange fnAhoSpec)

/-- ITS FALSE NEIGHBOUR: 'it returns false'. Refute it at one input. -/
def fnAhoWrong : ChangeSpec := { name := "fnAho", fn := fun _ => fun
  | [d1, d2] => { results := [.lit (.bool false)], args := [d1, d2] }
  | _ => none }
def FnAhoWrongFalsely : Prop := fnAhoRow.holds Try.pinned (OpenSpec.ofChange fnAhoWrong)

/-- 'laws.FnExactAhoOf': WHATEVER THE INPUT: true; the input reads as it did. -/
def fnExactAhoOfSpec : ChangeSpec := { name := "fnExactAhoOf", fn := fun _ => fun
  | [d] => { results := [.lit (.bool true)], args := [d] }
  | _ => none }
def fnExactAhoOfRow : OpenClaim := { program := "ytdhppigjlldfmaa", sum := "364d7e4cbdf3ac4d6db23dd4eaba58a8ecb3c870eb8670ce11e8b0dff2682c51", func := "loop.example/g00692/laws.FnExactAhoOf", spec := "fnExactAhoOf", plainKeys := false, apart := false }
def FnExactAhoOfSaid : Prop := fnExactAhoOfRow.holds Try.pinned (OpenSpec.ofChange fnExactAhoOfSpec)

/-- ITS FALSE NEIGHBOUR: 'it returns false'. Refute it at one input. -/
def fnExactAhoOfWrong : ChangeSpec := { name := "fnExactAhoOf", fn := fun _ => fun
  | [d] => { results := [.lit (.bool false)], args := [d] }
  | _ => none }
def FnExactAhoOfWrongFalsely : Prop := fnExactAhoOfRow.holds Try.pinned (OpenSpec.ofChange fnExactAhoOfWrong)

/-- 'laws.FnExactRunAho': WHATEVER THE INPUT: true; the input reads as it did. -/
def fnExactRunAhoSpec : ChangeSpec := { name := "fnExactRunAho", fn := fun _ => fun
  | [d1, d2] => { results := [.lit (.bool true)], args := [d1, d2] }
  | _ => none }
def fnExactRunAhoRow : OpenClaim := { program := "ytdhppigjlldfmaa", sum := "364d7e4cbdf3ac4d6db23dd4eaba58a8ecb3c870eb8670ce11e8b0dff2682c51", func := "loop.example/g00692/laws.FnExactRunAho", spec := "fnExactRunAho", recurses := true, plainKeys := false, apart := false }
def FnExactRunAhoSaid : Prop := fnExactRunAhoRow.holds Try.pinned (OpenSpec.ofChange fnExactRunAhoSpec)

/-- ITS FALSE NEIGHBOUR: 'it returns false'. Refute it at one input. -/
def fnExactRunAhoWrong : ChangeSpec := { name := "fnExactRunAho", fn := fun _ => fun
  | [d1, d2] => { results := [.lit (.bool false)], args := [d1, d2] }
  | _ => none }
def FnExactRunAhoWrongFalsely : Prop := fnExactRunAhoRow.holds Try.pinned (OpenSpec.ofChange fnExactRunAhoWrong)

/- THE SECOND FORM. 'bulk': how many values and letters a reading holds, each counted each time it is reached (what is shared counts as often as it is met; a slice's spare places count too). A statement '..UptoSaid' is the law's where the arguments, and the package variables that the reading takes, are together of bulk at most 1048576: NARROWER than '..Said'. Prove '..Said' where nothing that the law and all that it calls make is longer than what came in: it says more and counts as full. Else prove '..UptoSaid'. A law counts once. -/
mutual
def uptoBulk {H : Type} : DataW H → Nat
  | .lit (.string bytes) => bytes.length + 1
  | .lit _ => 1
  | .nil => 1
  | .ptr d => uptoBulk d + 1
  | .slice elems spare => uptoBulkAll elems + uptoBulkAll spare + 1
  | .agg parts => uptoBulkAll parts + 1
  | .iface _ d => uptoBulk d + 1
  | .map entries => uptoBulkEntries entries + 1
  | .held _ => 1
def uptoBulkAll {H : Type} : List (DataW H) → Nat
  | [] => 0
  | d :: r => uptoBulk d + uptoBulkAll r
def uptoBulkEntries {H : Type} : List (Lit × DataW H) → Nat
  | [] => 0
  | x :: r => uptoBulkEntry x + uptoBulkEntries r
def uptoBulkEntry {H : Type} : Lit × DataW H → Nat
  | (.string bytes, d) => bytes.length + uptoBulk d + 1
  | (_, d) => uptoBulk d + 1
 end
def uptoSmall : (H : Type) → List (DataW H) → Bool := fun _ ds => decide (uptoBulkAll ds ≤ 1048576)
def OpenSpec.upto (s : _root_.Go.ChangeSpec) : _root_.Go.OpenSpec := { _root_.Go.OpenSpec.ofChange s with cond := some uptoSmall }

/-- 'laws.FnAho', WHERE WHAT IT READS IS OF BULK AT MOST 1048576: true; the input reads as it did. -/
def fnAhoUptoRow : OpenClaim := { program := "ytdhppigjlldfmaa", sum := "364d7e4cbdf3ac4d6db23dd4eaba58a8ecb3c870eb8670ce11e8b0dff2682c51", func := "loop.example/g00692/laws.FnAho", spec := "fnAho", recurses := true, plainKeys := false, apart := false, narrowed := true }
def FnAhoUptoSaid : Prop := fnAhoUptoRow.holds Try.pinned (OpenSpec.upto fnAhoSpec)

/-- 'laws.FnExactAhoOf', WHERE WHAT IT READS IS OF BULK AT MOST 1048576: true; the input reads as it did. -/
def fnExactAhoOfUptoRow : OpenClaim := { program := "ytdhppigjlldfmaa", sum := "364d7e4cbdf3ac4d6db23dd4eaba58a8ecb3c870eb8670ce11e8b0dff2682c51", func := "loop.example/g00692/laws.FnExactAhoOf", spec := "fnExactAhoOf", plainKeys := false, apart := false, narrowed := true }
def FnExactAhoOfUptoSaid : Prop := fnExactAhoOfUptoRow.holds Try.pinned (OpenSpec.upto fnExactAhoOfSpec)

/-- 'laws.FnExactRunAho', WHERE WHAT IT READS IS OF BULK AT MOST 1048576: true; the input reads as it did. -/
def fnExactRunAhoUptoRow : OpenClaim := { program := "ytdhppigjlldfmaa", sum := "364d7e4cbdf3ac4d6db23dd4eaba58a8ecb3c870eb8670ce11e8b0dff2682c51", func := "loop.example/g00692/laws.FnExactRunAho", spec := "fnExactRunAho", recurses := true, plainKeys := false, apart := false, narrowed := true }
def FnExactRunAhoUptoSaid : Prop := fnExactRunAhoUptoRow.holds Try.pinned (OpenSpec.upto fnExactRunAhoSpec)

end Rows
end Go.Proofs.Ytdhppigjlldfmaa
