/-
  No cell of these rows narrows 'for every input' (looked for: loops, veiled, ifaces, maps, wideKeys, modest, calm, conditions, laid).
  DERIVED. THE GIVEN ROWS OF THIS SEAT. 5 by the template 'for every input the law returns true; each argument reads behind the call as it read before'; 0 by the template 'total and deterministic' (their statements: YtlkcdcdgpklpoaaTotals.lean).
  GIVEN WITH THE SEED: the statements are not yours to turn. If you find one false, say at which input.
  Laid BY PROGRAM, IN A SANDBOX (cutbox-rows.mjs): the forced cells as the released guide's own fill.sh prints them over the translation 98ddf25f7645db4d… (all of the seat's roots in one cut). By AI agents, Wed Nov 11 2026. No macro, syntax, notation, axiom, sorry.
-/
import Derived.Test.YtlkcdcdgpklpoaaChecked
import GoSem.Claim
import GoSem.ClaimJoined
import GoSem.ClaimMapViews
import Derived.JoinedTies
import Derived.KernelRfl
namespace Go.Proofs.Ytlkcdcdgpklpoaa
/- THE CELL 'sum', in the pinned program and in every row, IS THE sha256 OF THE DUMP (.gsa) THAT YtlkcdcdgpklpoaaProg.lean LOADS. Nothing in Lean hashes anything: it is a label: what it is worth is what the hold of that sum in a sandbox is worth. -/
noncomputable def Try.pinned : Pinned := { name := "ytlkcdcdgpklpoaa", sum := "98ddf25f7645db4d9ca95cc615d5f2998232632d32006d6a1431a2d67a1412e3", checked := Try.checked }
namespace Rows
def none {H : Type} : Left H := { results := [], args := [] }

/-- 'laws.FnAho': WHATEVER THE INPUT: true; the input reads as it did. -/
def fnAhoSpec : ChangeSpec := { name := "fnAho", fn := fun _ => fun
  | [d1, d2] => { results := [.lit (.bool true)], args := [d1, d2] }
  | _ => none }
def fnAhoRow : OpenClaim := { program := "ytlkcdcdgpklpoaa", sum := "98ddf25f7645db4d9ca95cc615d5f2998232632d32006d6a1431a2d67a1412e3", func := "loop.example/g00692/laws.FnAho", spec := "fnAho", recurses := true, plainKeys := false, apart := false }
def FnAhoSaid : Prop := fnAhoRow.holds Try.pinned (OpenSpec.ofChange fnAhoSpec)

/-- ITS FALSE NEIGHBOUR: 'it returns false'. Refute it at one input. -/
def fnAhoWrong : ChangeSpec := { name := "fnAho", fn := fun _ => fun
  | [d1, d2] => { results := [.lit (.bool false)], args := [d1, d2] }
  | _ => none }
def FnAhoWrongFalsely : Prop := fnAhoRow.holds Try.pinned (OpenSpec.ofChange fnAhoWrong)

/-- 'laws.FnExactMatchesRe': WHATEVER THE INPUT: true; the input reads as it did. -/
def fnExactMatchesReSpec : ChangeSpec := { name := "fnExactMatchesRe", fn := fun _ => fun
  | [d1, d2] => { results := [.lit (.bool true)], args := [d1, d2] }
  | _ => none }
def fnExactMatchesReRow : OpenClaim := { program := "ytlkcdcdgpklpoaa", sum := "98ddf25f7645db4d9ca95cc615d5f2998232632d32006d6a1431a2d67a1412e3", func := "loop.example/g00692/laws.FnExactMatchesRe", spec := "fnExactMatchesRe", recurses := true, plainKeys := false, apart := false }
def FnExactMatchesReSaid : Prop := fnExactMatchesReRow.holds Try.pinned (OpenSpec.ofChange fnExactMatchesReSpec)

/-- ITS FALSE NEIGHBOUR: 'it returns false'. Refute it at one input. -/
def fnExactMatchesReWrong : ChangeSpec := { name := "fnExactMatchesRe", fn := fun _ => fun
  | [d1, d2] => { results := [.lit (.bool false)], args := [d1, d2] }
  | _ => none }
def FnExactMatchesReWrongFalsely : Prop := fnExactMatchesReRow.holds Try.pinned (OpenSpec.ofChange fnExactMatchesReWrong)

/-- 'laws.FnExactNfaOf': WHATEVER THE INPUT: true; the input reads as it did. -/
def fnExactNfaOfSpec : ChangeSpec := { name := "fnExactNfaOf", fn := fun _ => fun
  | [d] => { results := [.lit (.bool true)], args := [d] }
  | _ => none }
def fnExactNfaOfRow : OpenClaim := { program := "ytlkcdcdgpklpoaa", sum := "98ddf25f7645db4d9ca95cc615d5f2998232632d32006d6a1431a2d67a1412e3", func := "loop.example/g00692/laws.FnExactNfaOf", spec := "fnExactNfaOf", recurses := true, plainKeys := false, apart := false }
def FnExactNfaOfSaid : Prop := fnExactNfaOfRow.holds Try.pinned (OpenSpec.ofChange fnExactNfaOfSpec)

/-- ITS FALSE NEIGHBOUR: 'it returns false'. Refute it at one input. -/
def fnExactNfaOfWrong : ChangeSpec := { name := "fnExactNfaOf", fn := fun _ => fun
  | [d] => { results := [.lit (.bool false)], args := [d] }
  | _ => none }
def FnExactNfaOfWrongFalsely : Prop := fnExactNfaOfRow.holds Try.pinned (OpenSpec.ofChange fnExactNfaOfWrong)

/-- 'laws.FnExactCutsOf': WHATEVER THE INPUT: true; the input reads as it did. -/
def fnExactCutsOfSpec : ChangeSpec := { name := "fnExactCutsOf", fn := fun _ => fun
  | [d] => { results := [.lit (.bool true)], args := [d] }
  | _ => none }
def fnExactCutsOfRow : OpenClaim := { program := "ytlkcdcdgpklpoaa", sum := "98ddf25f7645db4d9ca95cc615d5f2998232632d32006d6a1431a2d67a1412e3", func := "loop.example/g00692/laws.FnExactCutsOf", spec := "fnExactCutsOf", recurses := true, plainKeys := false, apart := false }
def FnExactCutsOfSaid : Prop := fnExactCutsOfRow.holds Try.pinned (OpenSpec.ofChange fnExactCutsOfSpec)

/-- ITS FALSE NEIGHBOUR: 'it returns false'. Refute it at one input. -/
def fnExactCutsOfWrong : ChangeSpec := { name := "fnExactCutsOf", fn := fun _ => fun
  | [d] => { results := [.lit (.bool false)], args := [d] }
  | _ => none }
def FnExactCutsOfWrongFalsely : Prop := fnExactCutsOfRow.holds Try.pinned (OpenSpec.ofChange fnExactCutsOfWrong)

/-- 'laws.FnExactDfaOf': WHATEVER THE INPUT: true; the input reads as it did. -/
def fnExactDfaOfSpec : ChangeSpec := { name := "fnExactDfaOf", fn := fun _ => fun
  | [d] => { results := [.lit (.bool true)], args := [d] }
  | _ => none }
def fnExactDfaOfRow : OpenClaim := { program := "ytlkcdcdgpklpoaa", sum := "98ddf25f7645db4d9ca95cc615d5f2998232632d32006d6a1431a2d67a1412e3", func := "loop.example/g00692/laws.FnExactDfaOf", spec := "fnExactDfaOf", unfollowed := true, recurses := true, plainKeys := false, apart := false }
def FnExactDfaOfSaid : Prop := fnExactDfaOfRow.holds Try.pinned (OpenSpec.ofChange fnExactDfaOfSpec)

/-- ITS FALSE NEIGHBOUR: 'it returns false'. Refute it at one input. -/
def fnExactDfaOfWrong : ChangeSpec := { name := "fnExactDfaOf", fn := fun _ => fun
  | [d] => { results := [.lit (.bool false)], args := [d] }
  | _ => none }
def FnExactDfaOfWrongFalsely : Prop := fnExactDfaOfRow.holds Try.pinned (OpenSpec.ofChange fnExactDfaOfWrong)

/- THE SECOND FORM. 'bulk': how many values and letters a reading holds, each counted each time it is reached (what is shared counts as often as it is met; a slice's spare places count too). A statement '..UptoSaid' is the law's where the arguments, and the package variables that the reading takes, are together of bulk at most 1048576: NARROWER than '..Said'. Prove '..Said' where nothing that the law and all that it calls make is longer than what came in: it says more and counts as full. Else prove '..UptoSaid'. A law counts once. -/
mutual
def uptoBulk {H : Type} : DataW H → Nat
  | .lit (.string bytes) => bytes.length + 1
  | .lit _ => 1
  | .nil => 1
  | .ptr d => uptoBulk d + 1
  | .slice elems spare => uptoBulkAll elems + uptoBulkAll spare + 1
  | .agg parts => uptoBulkAll parts + 1
  | .iface _ d => uptoBulk d + 1
  | .map entries => uptoBulkEntries entries + 1
  | .held _ => 1
def uptoBulkAll {H : Type} : List (DataW H) → Nat
  | [] => 0
  | d :: r => uptoBulk d + uptoBulkAll r
def uptoBulkEntries {H : Type} : List (Lit × DataW H) → Nat
  | [] => 0
  | x :: r => uptoBulkEntry x + uptoBulkEntries r
def uptoBulkEntry {H : Type} : Lit × DataW H → Nat
  | (.string bytes, d) => bytes.length + uptoBulk d + 1
  | (_, d) => uptoBulk d + 1
 end
def uptoSmall : (H : Type) → List (DataW H) → Bool := fun _ ds => decide (uptoBulkAll ds ≤ 1048576)
def OpenSpec.upto (s : _root_.Go.ChangeSpec) : _root_.Go.OpenSpec := { _root_.Go.OpenSpec.ofChange s with cond := some uptoSmall }

/-- 'laws.FnAho', WHERE WHAT IT READS IS OF BULK AT MOST 1048576: true; the input reads as it did. -/
def fnAhoUptoRow : OpenClaim := { program := "ytlkcdcdgpklpoaa", sum := "98ddf25f7645db4d9ca95cc615d5f2998232632d32006d6a1431a2d67a1412e3", func := "loop.example/g00692/laws.FnAho", spec := "fnAho", recurses := true, plainKeys := false, apart := false, narrowed := true }
def FnAhoUptoSaid : Prop := fnAhoUptoRow.holds Try.pinned (OpenSpec.upto fnAhoSpec)

/-- 'laws.FnExactMatchesRe', WHERE WHAT IT READS IS OF BULK AT MOST 1048576: true; the input reads as it did. -/
def fnExactMatchesReUptoRow : OpenClaim := { program := "ytlkcdcdgpklpoaa", sum := "98ddf25f7645db4d9ca95cc615d5f2998232632d32006d6a1431a2d67a1412e3", func := "loop.example/g00692/laws.FnExactMatchesRe", spec := "fnExactMatchesRe", recurses := true, plainKeys := false, apart := false, narrowed := true }
def FnExactMatchesReUptoSaid : Prop := fnExactMatchesReUptoRow.holds Try.pinned (OpenSpec.upto fnExactMatchesReSpec)

/-- 'laws.FnExactNfaOf', WHERE WHAT IT READS IS OF BULK AT MOST 1048576: true; the input reads as it did. -/
def fnExactNfaOfUptoRow : OpenClaim := { program := "ytlkcdcdgpklpoaa", sum := "98ddf25f7645db4d9ca95cc615d5f2998232632d32006d6a1431a2d67a1412e3", func := "loop.example/g00692/laws.FnExactNfaOf", spec := "fnExactNfaOf", recurses := true, plainKeys := false, apart := false, narrowed := true }
def FnExactNfaOfUptoSaid : Prop := fnExactNfaOfUptoRow.holds Try.pinned (OpenSpec.upto fnExactNfaOfSpec)

/-- 'laws.FnExactCutsOf', WHERE WHAT IT READS IS OF BULK AT MOST 1048576: true; the input reads as it did. -/
def fnExactCutsOfUptoRow : OpenClaim := { program := "ytlkcdcdgpklpoaa", sum := "98ddf25f7645db4d9ca95cc615d5f2998232632d32006d6a1431a2d67a1412e3", func := "loop.example/g00692/laws.FnExactCutsOf", spec := "fnExactCutsOf", recurses := true, plainKeys := false, apart := false, narrowed := true }
def FnExactCutsOfUptoSaid : Prop := fnExactCutsOfUptoRow.holds Try.pinned (OpenSpec.upto fnExactCutsOfSpec)

/-- 'laws.FnExactDfaOf', WHERE WHAT IT READS IS OF BULK AT MOST 1048576: true; the input reads as it did. -/
def fnExactDfaOfUptoRow : OpenClaim := { program := "ytlkcdcdgpklpoaa", sum := "98ddf25f7645db4d9ca95cc615d5f2998232632d32006d6a1431a2d67a1412e3", func := "loop.example/g00692/laws.FnExactDfaOf", spec := "fnExactDfaOf", unfollowed := true, recurses := true, plainKeys := false, apart := false, narrowed := true }
def FnExactDfaOfUptoSaid : Prop := fnExactDfaOfUptoRow.holds Try.pinned (OpenSpec.upto fnExactDfaOfSpec)

end Rows
end Go.Proofs.Ytlkcdcdgpklpoaa
