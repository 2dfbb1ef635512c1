/-
  NARROWER THAN 'FOR EVERY INPUT', by the rows' own cells (each row's printed sentence says how): FnUtf8: laid · FnExactUtf8Of: laid · FnExactRuneAt: laid · FnExactTextOf: laid · FnExactIsBegun: laid · FnExactIsWhole: laid.
  DERIVED. THE GIVEN ROWS OF THIS SEAT. 6 by the template 'for every input the law returns true; each argument reads behind the call as it read before'; 0 by the template 'total and deterministic' (their statements: YtflgdfkcgkibgaaDoorTotals.lean).
  GIVEN WITH THE SEED: the statements are not yours to turn. If you find one false, say at which input.
  Laid BY PROGRAM, IN A SANDBOX (cutbox-rows.mjs): the forced cells as the released guide's own fill.sh prints them over the translation 12f085c2d06e481a… (all of the seat's roots in one cut). By AI agents, Wed Nov 11 2026. No macro, syntax, notation, axiom, sorry.
-/
import Derived.Test.YtflgdfkcgkibgaaDoorChecked
import GoSem.Claim
import GoSem.ClaimJoined
import GoSem.ClaimMapViews
import Derived.JoinedTies
import Derived.KernelRfl
namespace Go.Proofs.YtflgdfkcgkibgaaDoor
/- THE CELL 'sum', in the pinned program and in every row, IS THE sha256 OF THE DUMP (.gsa) THAT YtflgdfkcgkibgaaDoorProg.lean LOADS. Nothing in Lean hashes anything: it is a label: what it is worth is what the hold of that sum in a sandbox is worth. -/
noncomputable def Tryd.pinned : Pinned := { name := "ytflgdfkcgkibgaadoor", sum := "12f085c2d06e481a6605062e872c02111ef7b8109d89d69c89336fa3f3c14cb8", checked := Tryd.checked }
namespace Rows
def none {H : Type} : Left H := { results := [], args := [] }

/- WHAT THE LISTED PACKAGE-LEVEL VARIABLES READ AS WHEN THE CALL BEGINS. Each datum BY PROGRAM (the guide's laid-datum.mjs) off the statement by which the dump's own 'gosem.cut.vars' lays the variable. In a bare row this is a premise. The card (YtflgdfkcgkibgaaDoorCards.lean) ties it to the program's text. -/
def laid_loop_example_g00692_impl_formLeast {H : Type} : DataW H := .agg [.lit (.int .i64 0), .lit (.int .i64 128), .lit (.int .i64 2048), .lit (.int .i64 65536)]
def laid_loop_example_g00692_impl_formLead {H : Type} : DataW H := .agg [.lit (.int .i64 0), .lit (.int .i64 192), .lit (.int .i64 224), .lit (.int .i64 240)]

/-- 'laws.FnUtf8': WHATEVER THE INPUT: true; the input reads as it did. -/
def fnUtf8Spec : ChangeSpec := { name := "fnUtf8", vars := ["loop.example/g00692/impl.formLead", "loop.example/g00692/impl.formLeast"], fn := fun _ => fun
  | [d1, d2, g1, g2] => { results := [.lit (.bool true)], args := [d1, d2], vars := [g1, g2] }
  | _ => none }
def fnUtf8Row : OpenClaim := { program := "ytflgdfkcgkibgaadoor", sum := "12f085c2d06e481a6605062e872c02111ef7b8109d89d69c89336fa3f3c14cb8", func := "loop.example/g00692/laws.FnUtf8", spec := "fnUtf8", named := ["loop.example/g00692/impl.formLead", "loop.example/g00692/impl.formLeast"], apart := false, laid := [("loop.example/g00692/impl.formLeast", laid_loop_example_g00692_impl_formLeast), ("loop.example/g00692/impl.formLead", laid_loop_example_g00692_impl_formLead)] }
def FnUtf8Said : Prop := fnUtf8Row.holds Tryd.pinned (OpenSpec.ofChange fnUtf8Spec)

/-- ITS FALSE NEIGHBOUR: 'it returns false'. Refute it at one input. -/
def fnUtf8Wrong : ChangeSpec := { name := "fnUtf8", vars := ["loop.example/g00692/impl.formLead", "loop.example/g00692/impl.formLeast"], fn := fun _ => fun
  | [d1, d2, g1, g2] => { results := [.lit (.bool false)], args := [d1, d2], vars := [g1, g2] }
  | _ => none }
def FnUtf8WrongFalsely : Prop := fnUtf8Row.holds Tryd.pinned (OpenSpec.ofChange fnUtf8Wrong)

/-- 'laws.FnExactUtf8Of': WHATEVER THE INPUT: true; the input reads as it did. -/
def fnExactUtf8OfSpec : ChangeSpec := { name := "fnExactUtf8Of", vars := ["loop.example/g00692/impl.formLead", "loop.example/g00692/impl.formLeast"], fn := fun _ => fun
  | [d, g1, g2] => { results := [.lit (.bool true)], args := [d], vars := [g1, g2] }
  | _ => none }
def fnExactUtf8OfRow : OpenClaim := { program := "ytflgdfkcgkibgaadoor", sum := "12f085c2d06e481a6605062e872c02111ef7b8109d89d69c89336fa3f3c14cb8", func := "loop.example/g00692/laws.FnExactUtf8Of", spec := "fnExactUtf8Of", named := ["loop.example/g00692/impl.formLead", "loop.example/g00692/impl.formLeast"], apart := false, laid := [("loop.example/g00692/impl.formLeast", laid_loop_example_g00692_impl_formLeast), ("loop.example/g00692/impl.formLead", laid_loop_example_g00692_impl_formLead)] }
def FnExactUtf8OfSaid : Prop := fnExactUtf8OfRow.holds Tryd.pinned (OpenSpec.ofChange fnExactUtf8OfSpec)

/-- ITS FALSE NEIGHBOUR: 'it returns false'. Refute it at one input. -/
def fnExactUtf8OfWrong : ChangeSpec := { name := "fnExactUtf8Of", vars := ["loop.example/g00692/impl.formLead", "loop.example/g00692/impl.formLeast"], fn := fun _ => fun
  | [d, g1, g2] => { results := [.lit (.bool false)], args := [d], vars := [g1, g2] }
  | _ => none }
def FnExactUtf8OfWrongFalsely : Prop := fnExactUtf8OfRow.holds Tryd.pinned (OpenSpec.ofChange fnExactUtf8OfWrong)

/-- 'laws.FnExactRuneAt': WHATEVER THE INPUT: true; the input reads as it did. -/
def fnExactRuneAtSpec : ChangeSpec := { name := "fnExactRuneAt", vars := ["loop.example/g00692/impl.formLead", "loop.example/g00692/impl.formLeast"], fn := fun _ => fun
  | [d1, d2, g1, g2] => { results := [.lit (.bool true)], args := [d1, d2], vars := [g1, g2] }
  | _ => none }
def fnExactRuneAtRow : OpenClaim := { program := "ytflgdfkcgkibgaadoor", sum := "12f085c2d06e481a6605062e872c02111ef7b8109d89d69c89336fa3f3c14cb8", func := "loop.example/g00692/laws.FnExactRuneAt", spec := "fnExactRuneAt", named := ["loop.example/g00692/impl.formLead", "loop.example/g00692/impl.formLeast"], apart := false, laid := [("loop.example/g00692/impl.formLeast", laid_loop_example_g00692_impl_formLeast), ("loop.example/g00692/impl.formLead", laid_loop_example_g00692_impl_formLead)] }
def FnExactRuneAtSaid : Prop := fnExactRuneAtRow.holds Tryd.pinned (OpenSpec.ofChange fnExactRuneAtSpec)

/-- ITS FALSE NEIGHBOUR: 'it returns false'. Refute it at one input. -/
def fnExactRuneAtWrong : ChangeSpec := { name := "fnExactRuneAt", vars := ["loop.example/g00692/impl.formLead", "loop.example/g00692/impl.formLeast"], fn := fun _ => fun
  | [d1, d2, g1, g2] => { results := [.lit (.bool false)], args := [d1, d2], vars := [g1, g2] }
  | _ => none }
def FnExactRuneAtWrongFalsely : Prop := fnExactRuneAtRow.holds Tryd.pinned (OpenSpec.ofChange fnExactRuneAtWrong)

/-- 'laws.FnExactTextOf': WHATEVER THE INPUT: true; the input reads as it did. -/
def fnExactTextOfSpec : ChangeSpec := { name := "fnExactTextOf", vars := ["loop.example/g00692/impl.formLead", "loop.example/g00692/impl.formLeast"], fn := fun _ => fun
  | [d, g1, g2] => { results := [.lit (.bool true)], args := [d], vars := [g1, g2] }
  | _ => none }
def fnExactTextOfRow : OpenClaim := { program := "ytflgdfkcgkibgaadoor", sum := "12f085c2d06e481a6605062e872c02111ef7b8109d89d69c89336fa3f3c14cb8", func := "loop.example/g00692/laws.FnExactTextOf", spec := "fnExactTextOf", named := ["loop.example/g00692/impl.formLead", "loop.example/g00692/impl.formLeast"], apart := false, laid := [("loop.example/g00692/impl.formLeast", laid_loop_example_g00692_impl_formLeast), ("loop.example/g00692/impl.formLead", laid_loop_example_g00692_impl_formLead)] }
def FnExactTextOfSaid : Prop := fnExactTextOfRow.holds Tryd.pinned (OpenSpec.ofChange fnExactTextOfSpec)

/-- ITS FALSE NEIGHBOUR: 'it returns false'. Refute it at one input. -/
def fnExactTextOfWrong : ChangeSpec := { name := "fnExactTextOf", vars := ["loop.example/g00692/impl.formLead", "loop.example/g00692/impl.formLeast"], fn := fun _ => fun
  | [d, g1, g2] => { results := [.lit (.bool false)], args := [d], vars := [g1, g2] }
  | _ => none }
def FnExactTextOfWrongFalsely : Prop := fnExactTextOfRow.holds Tryd.pinned (OpenSpec.ofChange fnExactTextOfWrong)

/-- 'laws.FnExactIsBegun': WHATEVER THE INPUT: true; the input reads as it did. -/
def fnExactIsBegunSpec : ChangeSpec := { name := "fnExactIsBegun", vars := ["loop.example/g00692/impl.formLead", "loop.example/g00692/impl.formLeast"], fn := fun _ => fun
  | [d, g1, g2] => { results := [.lit (.bool true)], args := [d], vars := [g1, g2] }
  | _ => none }
def fnExactIsBegunRow : OpenClaim := { program := "ytflgdfkcgkibgaadoor", sum := "12f085c2d06e481a6605062e872c02111ef7b8109d89d69c89336fa3f3c14cb8", func := "loop.example/g00692/laws.FnExactIsBegun", spec := "fnExactIsBegun", named := ["loop.example/g00692/impl.formLead", "loop.example/g00692/impl.formLeast"], apart := false, laid := [("loop.example/g00692/impl.formLeast", laid_loop_example_g00692_impl_formLeast), ("loop.example/g00692/impl.formLead", laid_loop_example_g00692_impl_formLead)] }
def FnExactIsBegunSaid : Prop := fnExactIsBegunRow.holds Tryd.pinned (OpenSpec.ofChange fnExactIsBegunSpec)

/-- ITS FALSE NEIGHBOUR: 'it returns false'. Refute it at one input. -/
def fnExactIsBegunWrong : ChangeSpec := { name := "fnExactIsBegun", vars := ["loop.example/g00692/impl.formLead", "loop.example/g00692/impl.formLeast"], fn := fun _ => fun
  | [d, g1, g2] => { results := [.lit (.bool false)], args := [d], vars := [g1, g2] }
  | _ => none }
def FnExactIsBegunWrongFalsely : Prop := fnExactIsBegunRow.holds Tryd.pinned (OpenSpec.ofChange fnExactIsBegunWrong)

/-- 'laws.FnExactIsWhole': WHATEVER THE INPUT: true; the input reads as it did. -/
def fnExactIsWholeSpec : ChangeSpec := { name := "fnExactIsWhole", vars := ["loop.example/g00692/impl.formLead", "loop.example/g00692/impl.formLeast"], fn := fun _ => fun
  | [d, g1, g2] => { results := [.lit (.bool true)], args := [d], vars := [g1, g2] }
  | _ => none }
def fnExactIsWholeRow : OpenClaim := { program := "ytflgdfkcgkibgaadoor", sum := "12f085c2d06e481a6605062e872c02111ef7b8109d89d69c89336fa3f3c14cb8", func := "loop.example/g00692/laws.FnExactIsWhole", spec := "fnExactIsWhole", named := ["loop.example/g00692/impl.formLead", "loop.example/g00692/impl.formLeast"], apart := false, laid := [("loop.example/g00692/impl.formLeast", laid_loop_example_g00692_impl_formLeast), ("loop.example/g00692/impl.formLead", laid_loop_example_g00692_impl_formLead)] }
def FnExactIsWholeSaid : Prop := fnExactIsWholeRow.holds Tryd.pinned (OpenSpec.ofChange fnExactIsWholeSpec)

/-- ITS FALSE NEIGHBOUR: 'it returns false'. Refute it at one input. -/
def fnExactIsWholeWrong : ChangeSpec := { name := "fnExactIsWhole", vars := ["loop.example/g00692/impl.formLead", "loop.example/g00692/impl.formLeast"], fn := fun _ => fun
  | [d, g1, g2] => { results := [.lit (.bool false)], args := [d], vars := [g1, g2] }
  | _ => none }
def FnExactIsWholeWrongFalsely : Prop := fnExactIsWholeRow.holds Tryd.pinned (OpenSpec.ofChange fnExactIsWholeWrong)

/- THE SECOND FORM. 'bulk': how many values and letters a reading holds, each counted each time it is reached (what is shared counts as often as it is met; a slice's spare places count too). A statement '..UptoSaid' is the law's where the arguments, and the package variables that the reading takes, are together of bulk at most 1048576: NARROWER than '..Said'. Prove '..Said' where nothing that the law and all that it calls make is longer than what came in: it says more and counts as full. Else prove '..UptoSaid'. A law counts once. -/
mutual
def uptoBulk {H : Type} : DataW H → Nat
  | .lit (.string bytes) => bytes.length + 1
  | .lit _ => 1
  | .nil => 1
  | .ptr d => uptoBulk d + 1
  | .slice elems spare => uptoBulkAll elems + uptoBulkAll spare + 1
  | .agg parts => uptoBulkAll parts + 1
  | .iface _ d => uptoBulk d + 1
  | .map entries => uptoBulkEntries entries + 1
  | .held _ => 1
def uptoBulkAll {H : Type} : List (DataW H) → Nat
  | [] => 0
  | d :: r => uptoBulk d + uptoBulkAll r
def uptoBulkEntries {H : Type} : List (Lit × DataW H) → Nat
  | [] => 0
  | x :: r => uptoBulkEntry x + uptoBulkEntries r
def uptoBulkEntry {H : Type} : Lit × DataW H → Nat
  | (.string bytes, d) => bytes.length + uptoBulk d + 1
  | (_, d) => uptoBulk d + 1
 end
def uptoSmall : (H : Type) → List (DataW H) → Bool := fun _ ds => decide (uptoBulkAll ds ≤ 1048576)
def OpenSpec.upto (s : _root_.Go.ChangeSpec) : _root_.Go.OpenSpec := { _root_.Go.OpenSpec.ofChange s with cond := some uptoSmall }

/-- 'laws.FnUtf8', WHERE WHAT IT READS IS OF BULK AT MOST 1048576: true; the input reads as it did. -/
def fnUtf8UptoRow : OpenClaim := { program := "ytflgdfkcgkibgaadoor", sum := "12f085c2d06e481a6605062e872c02111ef7b8109d89d69c89336fa3f3c14cb8", func := "loop.example/g00692/laws.FnUtf8", spec := "fnUtf8", named := ["loop.example/g00692/impl.formLead", "loop.example/g00692/impl.formLeast"], apart := false, laid := [("loop.example/g00692/impl.formLeast", laid_loop_example_g00692_impl_formLeast), ("loop.example/g00692/impl.formLead", laid_loop_example_g00692_impl_formLead)], narrowed := true }
def FnUtf8UptoSaid : Prop := fnUtf8UptoRow.holds Tryd.pinned (OpenSpec.upto fnUtf8Spec)

/-- 'laws.FnExactUtf8Of', WHERE WHAT IT READS IS OF BULK AT MOST 1048576: true; the input reads as it did. -/
def fnExactUtf8OfUptoRow : OpenClaim := { program := "ytflgdfkcgkibgaadoor", sum := "12f085c2d06e481a6605062e872c02111ef7b8109d89d69c89336fa3f3c14cb8", func := "loop.example/g00692/laws.FnExactUtf8Of", spec := "fnExactUtf8Of", named := ["loop.example/g00692/impl.formLead", "loop.example/g00692/impl.formLeast"], apart := false, laid := [("loop.example/g00692/impl.formLeast", laid_loop_example_g00692_impl_formLeast), ("loop.example/g00692/impl.formLead", laid_loop_example_g00692_impl_formLead)], narrowed := true }
def FnExactUtf8OfUptoSaid : Prop := fnExactUtf8OfUptoRow.holds Tryd.pinned (OpenSpec.upto fnExactUtf8OfSpec)

/-- 'laws.FnExactRuneAt', WHERE WHAT IT READS IS OF BULK AT MOST 1048576: true; the input reads as it did. -/
def fnExactRuneAtUptoRow : OpenClaim := { program := "ytflgdfkcgkibgaadoor", sum := "12f085c2d06e481a6605062e872c02111ef7b8109d89d69c89336fa3f3c14cb8", func := "loop.example/g00692/laws.FnExactRuneAt", spec := "fnExactRuneAt", named := ["loop.example/g00692/impl.formLead", "loop.example/g00692/impl.formLeast"], apart := false, laid := [("loop.example/g00692/impl.formLeast", laid_loop_example_g00692_impl_formLeast), ("loop.example/g00692/impl.formLead", laid_loop_example_g00692_impl_formLead)], narrowed := true }
def FnExactRuneAtUptoSaid : Prop := fnExactRuneAtUptoRow.holds Tryd.pinned (OpenSpec.upto fnExactRuneAtSpec)

/-- 'laws.FnExactTextOf', WHERE WHAT IT READS IS OF BULK AT MOST 1048576: true; the input reads as it did. -/
def fnExactTextOfUptoRow : OpenClaim := { program := "ytflgdfkcgkibgaadoor", sum := "12f085c2d06e481a6605062e872c02111ef7b8109d89d69c89336fa3f3c14cb8", func := "loop.example/g00692/laws.FnExactTextOf", spec := "fnExactTextOf", named := ["loop.example/g00692/impl.formLead", "loop.example/g00692/impl.formLeast"], apart := false, laid := [("loop.example/g00692/impl.formLeast", laid_loop_example_g00692_impl_formLeast), ("loop.example/g00692/impl.formLead", laid_loop_example_g00692_impl_formLead)], narrowed := true }
def FnExactTextOfUptoSaid : Prop := fnExactTextOfUptoRow.holds Tryd.pinned (OpenSpec.upto fnExactTextOfSpec)

/-- 'laws.FnExactIsBegun', WHERE WHAT IT READS IS OF BULK AT MOST 1048576: true; the input reads as it did. -/
def fnExactIsBegunUptoRow : OpenClaim := { program := "ytflgdfkcgkibgaadoor", sum := "12f085c2d06e481a6605062e872c02111ef7b8109d89d69c89336fa3f3c14cb8", func := "loop.example/g00692/laws.FnExactIsBegun", spec := "fnExactIsBegun", named := ["loop.example/g00692/impl.formLead", "loop.example/g00692/impl.formLeast"], apart := false, laid := [("loop.example/g00692/impl.formLeast", laid_loop_example_g00692_impl_formLeast), ("loop.example/g00692/impl.formLead", laid_loop_example_g00692_impl_formLead)], narrowed := true }
def FnExactIsBegunUptoSaid : Prop := fnExactIsBegunUptoRow.holds Tryd.pinned (OpenSpec.upto fnExactIsBegunSpec)

/-- 'laws.FnExactIsWhole', WHERE WHAT IT READS IS OF BULK AT MOST 1048576: true; the input reads as it did. -/
def fnExactIsWholeUptoRow : OpenClaim := { program := "ytflgdfkcgkibgaadoor", sum := "12f085c2d06e481a6605062e872c02111ef7b8109d89d69c89336fa3f3c14cb8", func := "loop.example/g00692/laws.FnExactIsWhole", spec := "fnExactIsWhole", named := ["loop.example/g00692/impl.formLead", "loop.example/g00692/impl.formLeast"], apart := false, laid := [("loop.example/g00692/impl.formLeast", laid_loop_example_g00692_impl_formLeast), ("loop.example/g00692/impl.formLead", laid_loop_example_g00692_impl_formLead)], narrowed := true }
def FnExactIsWholeUptoSaid : Prop := fnExactIsWholeUptoRow.holds Tryd.pinned (OpenSpec.upto fnExactIsWholeSpec)

end Rows
end Go.Proofs.YtflgdfkcgkibgaaDoor
