/-
  No cell of these rows narrows 'for every input' (looked for: loops, veiled, ifaces, maps, wideKeys, modest, calm, conditions, laid).
  DERIVED. THE GIVEN ROWS OF THIS SEAT. 9 by the template 'for every input the law returns true; each argument reads behind the call as it read before'; 0 by the template 'total and deterministic' (their statements: YtabjjlcjephhkaaTotals.lean).
  GIVEN WITH THE SEED: the statements are not yours to turn. If you find one false, say at which input.
  Laid BY PROGRAM, IN A SANDBOX (cutbox-rows.mjs): the forced cells as the released guide's own fill.sh prints them over the translation b298564767035a7d… (all of the seat's roots in one cut). By AI agents, Wed Nov 11 2026. No macro, syntax, notation, axiom, sorry.
-/
import Derived.Test.YtabjjlcjephhkaaChecked
import GoSem.Claim
import GoSem.ClaimJoined
import GoSem.ClaimMapViews
import Derived.JoinedTies
import Derived.KernelRfl
namespace Go.Proofs.Ytabjjlcjephhkaa
/- THE CELL 'sum', in the pinned program and in every row, IS THE sha256 OF THE DUMP (.gsa) THAT YtabjjlcjephhkaaProg.lean LOADS. Nothing in Lean hashes anything: it is a label: what it is worth is what the hold of that sum in a sandbox is worth. -/
noncomputable def Try.pinned : Pinned := { name := "ytabjjlcjephhkaa", sum := "b298564767035a7dfba41a93c3cddb7cffae31426f0883fb5888cc2aa716d7f7", checked := Try.checked }
namespace Rows
def none {H : Type} : Left H := { results := [], args := [] }

/-- 'laws.FnBorders': WHATEVER THE INPUT: true; the input reads as it did. -/
def fnBordersSpec : ChangeSpec := { name := "fnBorders", fn := fun _ => fun
  | [d1, d2] => { results := [.lit (.bool true)], args := [d1, d2] }
  | _ => none }
def fnBordersRow : OpenClaim := { program := "ytabjjlcjephhkaa", sum := "b298564767035a7dfba41a93c3cddb7cffae31426f0883fb5888cc2aa716d7f7", func := "loop.example/g00692/laws.FnBorders", spec := "fnBorders", plainKeys := false, apart := false }
def FnBordersSaid : Prop := fnBordersRow.holds Try.pinned (OpenSpec.ofChange fnBordersSpec)

/-- ITS FALSE NEIGHBOUR: 'it returns false'. Refute it at one input. -/
def fnBordersWrong : ChangeSpec := { name := "fnBorders", fn := fun _ => fun
  | [d1, d2] => { results := [.lit (.bool false)], args := [d1, d2] }
  | _ => none }
def FnBordersWrongFalsely : Prop := fnBordersRow.holds Try.pinned (OpenSpec.ofChange fnBordersWrong)

/-- 'laws.FnAho': WHATEVER THE INPUT: true; the input reads as it did. -/
def fnAhoSpec : ChangeSpec := { name := "fnAho", fn := fun _ => fun
  | [d1, d2] => { results := [.lit (.bool true)], args := [d1, d2] }
  | _ => none }
def fnAhoRow : OpenClaim := { program := "ytabjjlcjephhkaa", sum := "b298564767035a7dfba41a93c3cddb7cffae31426f0883fb5888cc2aa716d7f7", func := "loop.example/g00692/laws.FnAho", spec := "fnAho", recurses := true, plainKeys := false, apart := false }
def FnAhoSaid : Prop := fnAhoRow.holds Try.pinned (OpenSpec.ofChange fnAhoSpec)

/-- ITS FALSE NEIGHBOUR: 'it returns false'. Refute it at one input. -/
def fnAhoWrong : ChangeSpec := { name := "fnAho", fn := fun _ => fun
  | [d1, d2] => { results := [.lit (.bool false)], args := [d1, d2] }
  | _ => none }
def FnAhoWrongFalsely : Prop := fnAhoRow.holds Try.pinned (OpenSpec.ofChange fnAhoWrong)

/-- 'laws.FnExactBordersOf': WHATEVER THE INPUT: true; the input reads as it did. -/
def fnExactBordersOfSpec : ChangeSpec := { name := "fnExactBordersOf", fn := fun _ => fun
  | [d] => { results := [.lit (.bool true)], args := [d] }
  | _ => none }
def fnExactBordersOfRow : OpenClaim := { program := "ytabjjlcjephhkaa", sum := "b298564767035a7dfba41a93c3cddb7cffae31426f0883fb5888cc2aa716d7f7", func := "loop.example/g00692/laws.FnExactBordersOf", spec := "fnExactBordersOf", plainKeys := false, apart := false }
def FnExactBordersOfSaid : Prop := fnExactBordersOfRow.holds Try.pinned (OpenSpec.ofChange fnExactBordersOfSpec)

/-- ITS FALSE NEIGHBOUR: 'it returns false'. Refute it at one input. -/
def fnExactBordersOfWrong : ChangeSpec := { name := "fnExactBordersOf", fn := fun _ => fun
  | [d] => { results := [.lit (.bool false)], args := [d] }
  | _ => none }
def FnExactBordersOfWrongFalsely : Prop := fnExactBordersOfRow.holds Try.pinned (OpenSpec.ofChange fnExactBordersOfWrong)

/-- 'laws.FnExactPlacesOf': WHATEVER THE INPUT: true; the input reads as it did. -/
def fnExactPlacesOfSpec : ChangeSpec := { name := "fnExactPlacesOf", fn := fun _ => fun
  | [d1, d2] => { results := [.lit (.bool true)], args := [d1, d2] }
  | _ => none }
def fnExactPlacesOfRow : OpenClaim := { program := "ytabjjlcjephhkaa", sum := "b298564767035a7dfba41a93c3cddb7cffae31426f0883fb5888cc2aa716d7f7", func := "loop.example/g00692/laws.FnExactPlacesOf", spec := "fnExactPlacesOf", plainKeys := false, apart := false }
def FnExactPlacesOfSaid : Prop := fnExactPlacesOfRow.holds Try.pinned (OpenSpec.ofChange fnExactPlacesOfSpec)

/-- ITS FALSE NEIGHBOUR: 'it returns false'. Refute it at one input. -/
def fnExactPlacesOfWrong : ChangeSpec := { name := "fnExactPlacesOf", fn := fun _ => fun
  | [d1, d2] => { results := [.lit (.bool false)], args := [d1, d2] }
  | _ => none }
def FnExactPlacesOfWrongFalsely : Prop := fnExactPlacesOfRow.holds Try.pinned (OpenSpec.ofChange fnExactPlacesOfWrong)

/-- 'laws.FnExactAhoOf': WHATEVER THE INPUT: true; the input reads as it did. -/
def fnExactAhoOfSpec : ChangeSpec := { name := "fnExactAhoOf", fn := fun _ => fun
  | [d] => { results := [.lit (.bool true)], args := [d] }
  | _ => none }
def fnExactAhoOfRow : OpenClaim := { program := "ytabjjlcjephhkaa", sum := "b298564767035a7dfba41a93c3cddb7cffae31426f0883fb5888cc2aa716d7f7", func := "loop.example/g00692/laws.FnExactAhoOf", spec := "fnExactAhoOf", plainKeys := false, apart := false }
def FnExactAhoOfSaid : Prop := fnExactAhoOfRow.holds Try.pinned (OpenSpec.ofChange fnExactAhoOfSpec)

/-- ITS FALSE NEIGHBOUR: 'it returns false'. Refute it at one input. -/
def fnExactAhoOfWrong : ChangeSpec := { name := "fnExactAhoOf", fn := fun _ => fun
  | [d] => { results := [.lit (.bool false)], args := [d] }
  | _ => none }
def FnExactAhoOfWrongFalsely : Prop := fnExactAhoOfRow.holds Try.pinned (OpenSpec.ofChange fnExactAhoOfWrong)

/-- 'laws.FnExactGoodAho': WHATEVER THE INPUT: true; the input reads as it did. -/
def fnExactGoodAhoSpec : ChangeSpec := { name := "fnExactGoodAho", fn := fun _ => fun
  | [d] => { results := [.lit (.bool true)], args := [d] }
  | _ => none }
def fnExactGoodAhoRow : OpenClaim := { program := "ytabjjlcjephhkaa", sum := "b298564767035a7dfba41a93c3cddb7cffae31426f0883fb5888cc2aa716d7f7", func := "loop.example/g00692/laws.FnExactGoodAho", spec := "fnExactGoodAho", plainKeys := false, apart := false }
def FnExactGoodAhoSaid : Prop := fnExactGoodAhoRow.holds Try.pinned (OpenSpec.ofChange fnExactGoodAhoSpec)

/-- ITS FALSE NEIGHBOUR: 'it returns false'. Refute it at one input. -/
def fnExactGoodAhoWrong : ChangeSpec := { name := "fnExactGoodAho", fn := fun _ => fun
  | [d] => { results := [.lit (.bool false)], args := [d] }
  | _ => none }
def FnExactGoodAhoWrongFalsely : Prop := fnExactGoodAhoRow.holds Try.pinned (OpenSpec.ofChange fnExactGoodAhoWrong)

/-- 'laws.FnExactStepAho': WHATEVER THE INPUT: true; the input reads as it did. -/
def fnExactStepAhoSpec : ChangeSpec := { name := "fnExactStepAho", fn := fun _ => fun
  | [d1, d2, d3] => { results := [.lit (.bool true)], args := [d1, d2, d3] }
  | _ => none }
def fnExactStepAhoRow : OpenClaim := { program := "ytabjjlcjephhkaa", sum := "b298564767035a7dfba41a93c3cddb7cffae31426f0883fb5888cc2aa716d7f7", func := "loop.example/g00692/laws.FnExactStepAho", spec := "fnExactStepAho", recurses := true, plainKeys := false, apart := false }
def FnExactStepAhoSaid : Prop := fnExactStepAhoRow.holds Try.pinned (OpenSpec.ofChange fnExactStepAhoSpec)

/-- ITS FALSE NEIGHBOUR: 'it returns false'. Refute it at one input. -/
def fnExactStepAhoWrong : ChangeSpec := { name := "fnExactStepAho", fn := fun _ => fun
  | [d1, d2, d3] => { results := [.lit (.bool false)], args := [d1, d2, d3] }
  | _ => none }
def FnExactStepAhoWrongFalsely : Prop := fnExactStepAhoRow.holds Try.pinned (OpenSpec.ofChange fnExactStepAhoWrong)

/-- 'laws.FnExactRunAho': WHATEVER THE INPUT: true; the input reads as it did. -/
def fnExactRunAhoSpec : ChangeSpec := { name := "fnExactRunAho", fn := fun _ => fun
  | [d1, d2] => { results := [.lit (.bool true)], args := [d1, d2] }
  | _ => none }
def fnExactRunAhoRow : OpenClaim := { program := "ytabjjlcjephhkaa", sum := "b298564767035a7dfba41a93c3cddb7cffae31426f0883fb5888cc2aa716d7f7", func := "loop.example/g00692/laws.FnExactRunAho", spec := "fnExactRunAho", recurses := true, plainKeys := false, apart := false }
def FnExactRunAhoSaid : Prop := fnExactRunAhoRow.holds Try.pinned (OpenSpec.ofChange fnExactRunAhoSpec)

/-- ITS FALSE NEIGHBOUR: 'it returns false'. Refute it at one input. -/
def fnExactRunAhoWrong : ChangeSpec := { name := "fnExactRunAho", fn := fun _ => fun
  | [d1, d2] => { results := [.lit (.bool false)], args := [d1, d2] }
  | _ => none }
def FnExactRunAhoWrongFalsely : Prop := fnExactRunAhoRow.holds Try.pinned (OpenSpec.ofChange fnExactRunAhoWrong)

/-- 'laws.FnExactLeastPeriod': WHATEVER THE INPUT: true; the input reads as it did. -/
def fnExactLeastPeriodSpec : ChangeSpec := { name := "fnExactLeastPeriod", fn := fun _ => fun
  | [d] => { results := [.lit (.bool true)], args := [d] }
  | _ => none }
def fnExactLeastPeriodRow : OpenClaim := { program := "ytabjjlcjephhkaa", sum := "b298564767035a7dfba41a93c3cddb7cffae31426f0883fb5888cc2aa716d7f7", func := "loop.example/g00692/laws.FnExactLeastPeriod", spec := "fnExactLeastPeriod", plainKeys := false, apart := false }
def FnExactLeastPeriodSaid : Prop := fnExactLeastPeriodRow.holds Try.pinned (OpenSpec.ofChange fnExactLeastPeriodSpec)

/-- ITS FALSE NEIGHBOUR: 'it returns false'. Refute it at one input. -/
def fnExactLeastPeriodWrong : ChangeSpec := { name := "fnExactLeastPeriod", fn := fun _ => fun
  | [d] => { results := [.lit (.bool false)], args := [d] }
  | _ => none }
def FnExactLeastPeriodWrongFalsely : Prop := fnExactLeastPeriodRow.holds Try.pinned (OpenSpec.ofChange fnExactLeastPeriodWrong)

/- THE SECOND FORM. 'bulk': how many values and letters a reading holds, each counted each time it is reached (what is shared counts as often as it is met; a slice's spare places count too). A statement '..UptoSaid' is the law's where the arguments, and the package variables that the reading takes, are together of bulk at most 1048576: NARROWER than '..Said'. Prove '..Said' where nothing that the law and all that it calls make is longer than what came in: it says more and counts as full. Else prove '..UptoSaid'. A law counts once. -/
mutual
def uptoBulk {H : Type} : DataW H → Nat
  | .lit (.string bytes) => bytes.length + 1
  | .lit _ => 1
  | .nil => 1
  | .ptr d => uptoBulk d + 1
  | .slice elems spare => uptoBulkAll elems + uptoBulkAll spare + 1
  | .agg parts => uptoBulkAll parts + 1
  | .iface _ d => uptoBulk d + 1
  | .map entries => uptoBulkEntries entries + 1
  | .held _ => 1
def uptoBulkAll {H : Type} : List (DataW H) → Nat
  | [] => 0
  | d :: r => uptoBulk d + uptoBulkAll r
def uptoBulkEntries {H : Type} : List (Lit × DataW H) → Nat
  | [] => 0
  | x :: r => uptoBulkEntry x + uptoBulkEntries r
def uptoBulkEntry {H : Type} : Lit × DataW H → Nat
  | (.string bytes, d) => bytes.length + uptoBulk d + 1
  | (_, d) => uptoBulk d + 1
 end
def uptoSmall : (H : Type) → List (DataW H) → Bool := fun _ ds => decide (uptoBulkAll ds ≤ 1048576)
def OpenSpec.upto (s : _root_.Go.ChangeSpec) : _root_.Go.OpenSpec := { _root_.Go.OpenSpec.ofChange s with cond := some uptoSmall }

/-- 'laws.FnBorders', WHERE WHAT IT READS IS OF BULK AT MOST 1048576: true; the input reads as it did. -/
def fnBordersUptoRow : OpenClaim := { program := "ytabjjlcjephhkaa", sum := "b298564767035a7dfba41a93c3cddb7cffae31426f0883fb5888cc2aa716d7f7", func := "loop.example/g00692/laws.FnBorders", spec := "fnBorders", plainKeys := false, apart := false, narrowed := true }
def FnBordersUptoSaid : Prop := fnBordersUptoRow.holds Try.pinned (OpenSpec.upto fnBordersSpec)

/-- 'laws.FnAho', WHERE WHAT IT READS IS OF BULK AT MOST 1048576: true; the input reads as it did. -/
def fnAhoUptoRow : OpenClaim := { program := "ytabjjlcjephhkaa", sum := "b298564767035a7dfba41a93c3cddb7cffae31426f0883fb5888cc2aa716d7f7", func := "loop.example/g00692/laws.FnAho", spec := "fnAho", recurses := true, plainKeys := false, apart := false, narrowed := true }
def FnAhoUptoSaid : Prop := fnAhoUptoRow.holds Try.pinned (OpenSpec.upto fnAhoSpec)

/-- 'laws.FnExactBordersOf', WHERE WHAT IT READS IS OF BULK AT MOST 1048576: true; the input reads as it did. -/
def fnExactBordersOfUptoRow : OpenClaim := { program := "ytabjjlcjephhkaa", sum := "b298564767035a7dfba41a93c3cddb7cffae31426f0883fb5888cc2aa716d7f7", func := "loop.example/g00692/laws.FnExactBordersOf", spec := "fnExactBordersOf", plainKeys := false, apart := false, narrowed := true }
def FnExactBordersOfUptoSaid : Prop := fnExactBordersOfUptoRow.holds Try.pinned (OpenSpec.upto fnExactBordersOfSpec)

/-- 'laws.FnExactPlacesOf', WHERE WHAT IT READS IS OF BULK AT MOST 1048576: true; the input reads as it did. -/
def fnExactPlacesOfUptoRow : OpenClaim := { program := "ytabjjlcjephhkaa", sum := "b298564767035a7dfba41a93c3cddb7cffae31426f0883fb5888cc2aa716d7f7", func := "loop.example/g00692/laws.FnExactPlacesOf", spec := "fnExactPlacesOf", plainKeys := false, apart := false, narrowed := true }
def FnExactPlacesOfUptoSaid : Prop := fnExactPlacesOfUptoRow.holds Try.pinned (OpenSpec.upto fnExactPlacesOfSpec)

/-- 'laws.FnExactAhoOf', WHERE WHAT IT READS IS OF BULK AT MOST 1048576: true; the input reads as it did. -/
def fnExactAhoOfUptoRow : OpenClaim := { program := "ytabjjlcjephhkaa", sum := "b298564767035a7dfba41a93c3cddb7cffae31426f0883fb5888cc2aa716d7f7", func := "loop.example/g00692/laws.FnExactAhoOf", spec := "fnExactAhoOf", plainKeys := false, apart := false, narrowed := true }
def FnExactAhoOfUptoSaid : Prop := fnExactAhoOfUptoRow.holds Try.pinned (OpenSpec.upto fnExactAhoOfSpec)

/-- 'laws.FnExactGoodAho', WHERE WHAT IT READS IS OF BULK AT MOST 1048576: true; the input reads as it did. -/
def fnExactGoodAhoUptoRow : OpenClaim := { program := "ytabjjlcjephhkaa", sum := "b298564767035a7dfba41a93c3cddb7cffae31426f0883fb5888cc2aa716d7f7", func := "loop.example/g00692/laws.FnExactGoodAho", spec := "fnExactGoodAho", plainKeys := false, apart := false, narrowed := true }
def FnExactGoodAhoUptoSaid : Prop := fnExactGoodAhoUptoRow.holds Try.pinned (OpenSpec.upto fnExactGoodAhoSpec)

/-- 'laws.FnExactStepAho', WHERE WHAT IT READS IS OF BULK AT MOST 1048576: true; the input reads as it did. -/
def fnExactStepAhoUptoRow : OpenClaim := { program := "ytabjjlcjephhkaa", sum := "b298564767035a7dfba41a93c3cddb7cffae31426f0883fb5888cc2aa716d7f7", func := "loop.example/g00692/laws.FnExactStepAho", spec := "fnExactStepAho", recurses := true, plainKeys := false, apart := false, narrowed := true }
def FnExactStepAhoUptoSaid : Prop := fnExactStepAhoUptoRow.holds Try.pinned (OpenSpec.upto fnExactStepAhoSpec)

/-- 'laws.FnExactRunAho', WHERE WHAT IT READS IS OF BULK AT MOST 1048576: true; the input reads as it did. -/
def fnExactRunAhoUptoRow : OpenClaim := { program := "ytabjjlcjephhkaa", sum := "b298564767035a7dfba41a93c3cddb7cffae31426f0883fb5888cc2aa716d7f7", func := "loop.example/g00692/laws.FnExactRunAho", spec := "fnExactRunAho", recurses := true, plainKeys := false, apart := false, narrowed := true }
def FnExactRunAhoUptoSaid : Prop := fnExactRunAhoUptoRow.holds Try.pinned (OpenSpec.upto fnExactRunAhoSpec)

/-- 'laws.FnExactLeastPeriod', WHERE WHAT IT READS IS OF BULK AT MOST 1048576: true; the input reads as it did. -/
def fnExactLeastPeriodUptoRow : OpenClaim := { program := "ytabjjlcjephhkaa", sum := "b298564767035a7dfba41a93c3cddb7cffae31426f0883fb5888cc2aa716d7f7", func := "loop.example/g00692/laws.FnExactLeastPeriod", spec := "fnExactLeastPeriod", plainKeys := false, apart := false, narrowed := true }
def FnExactLeastPeriodUptoSaid : Prop := fnExactLeastPeriodUptoRow.holds Try.pinned (OpenSpec.upto fnExactLeastPeriodSpec)

end Rows
end Go.Proofs.Ytabjjlcjephhkaa
