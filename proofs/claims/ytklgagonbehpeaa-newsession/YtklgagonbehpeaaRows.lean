/-
  No cell of these rows narrows 'for every input' (looked for: loops, veiled, ifaces, maps, wideKeys, modest, calm, conditions, laid).
  DERIVED. THE GIVEN ROWS OF THIS SEAT. 6 by the template 'for every input the law returns true; each argument reads behind the call as it read before'; 0 by the template 'total and deterministic' (their statements: YtklgagonbehpeaaTotals.lean).
  GIVEN WITH THE SEED: the statements are not yours to turn. If you find one false, say at which input.
  Laid BY PROGRAM, IN A SANDBOX (cutbox-rows.mjs): the forced cells as the released guide's own fill.sh prints them over the translation a51678d77f3cccdb… (all of the seat's roots in one cut). By AI agents, Wed Nov 11 2026. No macro, syntax, notation, axiom, sorry.
-/
import Derived.Test.YtklgagonbehpeaaChecked
import GoSem.Claim
import GoSem.ClaimJoined
import GoSem.ClaimMapViews
import Derived.JoinedTies
import Derived.KernelRfl
namespace Go.Proofs.Ytklgagonbehpeaa
/- THE CELL 'sum', in the pinned program and in every row, IS THE sha256 OF THE DUMP (.gsa) THAT YtklgagonbehpeaaProg.lean LOADS. Nothing in Lean hashes anything: it is a label: what it is worth is what the hold of that sum in a sandbox is worth. -/
noncomputable def Try.pinned : Pinned := { name := "ytklgagonbehpeaa", sum := "a51678d77f3cccdbe894f2a7ae57db60d554d2c9df3819d3c70afad709fbf7a4", checked := Try.checked }
namespace Rows
def none {H : Type} : Left H := { results := [], args := [] }

/-- 'laws.FnBuffer': WHATEVER THE INPUT: true; the input reads as it did. -/
def fnBufferSpec : ChangeSpec := { name := "fnBuffer", fn := fun _ => fun
  | [d1, d2] => { results := [.lit (.bool true)], args := [d1, d2] }
  | _ => none }
def fnBufferRow : OpenClaim := { program := "ytklgagonbehpeaa", sum := "a51678d77f3cccdbe894f2a7ae57db60d554d2c9df3819d3c70afad709fbf7a4", func := "loop.example/g00692/laws.FnBuffer", spec := "fnBuffer", apart := false }
def FnBufferSaid : Prop := fnBufferRow.holds Try.pinned (OpenSpec.ofChange fnBufferSpec)

/-- ITS FALSE NEIGHBOUR: 'it returns false'. Refute it at one input. -/
def fnBufferWrong : ChangeSpec := { name := "fnBuffer", fn := fun _ => fun
  | [d1, d2] => { results := [.lit (.bool false)], args := [d1, d2] }
  | _ => none }
def FnBufferWrongFalsely : Prop := fnBufferRow.holds Try.pinned (OpenSpec.ofChange fnBufferWrong)

/-- 'laws.FnExactGoodBuf': WHATEVER THE INPUT: true; the input reads as it did. -/
def fnExactGoodBufSpec : ChangeSpec := { name := "fnExactGoodBuf", fn := fun _ => fun
  | [d] => { results := [.lit (.bool true)], args := [d] }
  | _ => none }
def fnExactGoodBufRow : OpenClaim := { program := "ytklgagonbehpeaa", sum := "a51678d77f3cccdbe894f2a7ae57db60d554d2c9df3819d3c70afad709fbf7a4", func := "loop.example/g00692/laws.FnExactGoodBuf", spec := "fnExactGoodBuf", apart := false }
def FnExactGoodBufSaid : Prop := fnExactGoodBufRow.holds Try.pinned (OpenSpec.ofChange fnExactGoodBufSpec)

/-- ITS FALSE NEIGHBOUR: 'it returns false'. Refute it at one input. -/
def fnExactGoodBufWrong : ChangeSpec := { name := "fnExactGoodBuf", fn := fun _ => fun
  | [d] => { results := [.lit (.bool false)], args := [d] }
  | _ => none }
def FnExactGoodBufWrongFalsely : Prop := fnExactGoodBufRow.holds Try.pinned (OpenSpec.ofChange fnExactGoodBufWrong)

/-- 'laws.FnExactPutBuf': WHATEVER THE INPUT: true; the input reads as it did. -/
def fnExactPutBufSpec : ChangeSpec := { name := "fnExactPutBuf", fn := fun _ => fun
  | [d1, d2, d3] => { results := [.lit (.bool true)], args := [d1, d2, d3] }
  | _ => none }
def fnExactPutBufRow : OpenClaim := { program := "ytklgagonbehpeaa", sum := "a51678d77f3cccdbe894f2a7ae57db60d554d2c9df3819d3c70afad709fbf7a4", func := "loop.example/g00692/laws.FnExactPutBuf", spec := "fnExactPutBuf", apart := false }
def FnExactPutBufSaid : Prop := fnExactPutBufRow.holds Try.pinned (OpenSpec.ofChange fnExactPutBufSpec)

/-- ITS FALSE NEIGHBOUR: 'it returns false'. Refute it at one input. -/
def fnExactPutBufWrong : ChangeSpec := { name := "fnExactPutBuf", fn := fun _ => fun
  | [d1, d2, d3] => { results := [.lit (.bool false)], args := [d1, d2, d3] }
  | _ => none }
def FnExactPutBufWrongFalsely : Prop := fnExactPutBufRow.holds Try.pinned (OpenSpec.ofChange fnExactPutBufWrong)

/-- 'laws.FnExactTakeBuf': WHATEVER THE INPUT: true; the input reads as it did. -/
def fnExactTakeBufSpec : ChangeSpec := { name := "fnExactTakeBuf", fn := fun _ => fun
  | [d1, d2] => { results := [.lit (.bool true)], args := [d1, d2] }
  | _ => none }
def fnExactTakeBufRow : OpenClaim := { program := "ytklgagonbehpeaa", sum := "a51678d77f3cccdbe894f2a7ae57db60d554d2c9df3819d3c70afad709fbf7a4", func := "loop.example/g00692/laws.FnExactTakeBuf", spec := "fnExactTakeBuf", apart := false }
def FnExactTakeBufSaid : Prop := fnExactTakeBufRow.holds Try.pinned (OpenSpec.ofChange fnExactTakeBufSpec)

/-- ITS FALSE NEIGHBOUR: 'it returns false'. Refute it at one input. -/
def fnExactTakeBufWrong : ChangeSpec := { name := "fnExactTakeBuf", fn := fun _ => fun
  | [d1, d2] => { results := [.lit (.bool false)], args := [d1, d2] }
  | _ => none }
def FnExactTakeBufWrongFalsely : Prop := fnExactTakeBufRow.holds Try.pinned (OpenSpec.ofChange fnExactTakeBufWrong)

/-- 'laws.FnExactByteOf': WHATEVER THE INPUT: true; the input reads as it did. -/
def fnExactByteOfSpec : ChangeSpec := { name := "fnExactByteOf", fn := fun _ => fun
  | [d1, d2] => { results := [.lit (.bool true)], args := [d1, d2] }
  | _ => none }
def fnExactByteOfRow : OpenClaim := { program := "ytklgagonbehpeaa", sum := "a51678d77f3cccdbe894f2a7ae57db60d554d2c9df3819d3c70afad709fbf7a4", func := "loop.example/g00692/laws.FnExactByteOf", spec := "fnExactByteOf", apart := false }
def FnExactByteOfSaid : Prop := fnExactByteOfRow.holds Try.pinned (OpenSpec.ofChange fnExactByteOfSpec)

/-- ITS FALSE NEIGHBOUR: 'it returns false'. Refute it at one input. -/
def fnExactByteOfWrong : ChangeSpec := { name := "fnExactByteOf", fn := fun _ => fun
  | [d1, d2] => { results := [.lit (.bool false)], args := [d1, d2] }
  | _ => none }
def FnExactByteOfWrongFalsely : Prop := fnExactByteOfRow.holds Try.pinned (OpenSpec.ofChange fnExactByteOfWrong)

/-- 'laws.FnExactNewSession': WHATEVER THE INPUT: true; the input reads as it did. -/
def fnExactNewSessionSpec : ChangeSpec := { name := "fnExactNewSession", fn := fun _ => fun
  | [d1, d2] => { results := [.lit (.bool true)], args := [d1, d2] }
  | _ => none }
def fnExactNewSessionRow : OpenClaim := { program := "ytklgagonbehpeaa", sum := "a51678d77f3cccdbe894f2a7ae57db60d554d2c9df3819d3c70afad709fbf7a4", func := "loop.example/g00692/laws.FnExactNewSession", spec := "fnExactNewSession", apart := false }
def FnExactNewSessionSaid : Prop := fnExactNewSessionRow.holds Try.pinned (OpenSpec.ofChange fnExactNewSessionSpec)

/-- ITS FALSE NEIGHBOUR: 'it returns false'. Refute it at one input. -/
def fnExactNewSessionWrong : ChangeSpec := { name := "fnExactNewSession", fn := fun _ => fun
  | [d1, d2] => { results := [.lit (.bool false)], args := [d1, d2] }
  | _ => none }
def FnExactNewSessionWrongFalsely : Prop := fnExactNewSessionRow.holds Try.pinned (OpenSpec.ofChange fnExactNewSessionWrong)

/- THE SECOND FORM. 'bulk': how many values and letters a reading holds, each counted each time it is reached (what is shared counts as often as it is met; a slice's spare places count too). A statement '..UptoSaid' is the law's where the arguments, and the package variables that the reading takes, are together of bulk at most 1048576: NARROWER than '..Said'. Prove '..Said' where nothing that the law and all that it calls make is longer than what came in: it says more and counts as full. Else prove '..UptoSaid'. A law counts once. -/
mutual
def uptoBulk {H : Type} : DataW H → Nat
  | .lit (.string bytes) => bytes.length + 1
  | .lit _ => 1
  | .nil => 1
  | .ptr d => uptoBulk d + 1
  | .slice elems spare => uptoBulkAll elems + uptoBulkAll spare + 1
  | .agg parts => uptoBulkAll parts + 1
  | .iface _ d => uptoBulk d + 1
  | .map entries => uptoBulkEntries entries + 1
  | .held _ => 1
def uptoBulkAll {H : Type} : List (DataW H) → Nat
  | [] => 0
  | d :: r => uptoBulk d + uptoBulkAll r
def uptoBulkEntries {H : Type} : List (Lit × DataW H) → Nat
  | [] => 0
  | x :: r => uptoBulkEntry x + uptoBulkEntries r
def uptoBulkEntry {H : Type} : Lit × DataW H → Nat
  | (.string bytes, d) => bytes.length + uptoBulk d + 1
  | (_, d) => uptoBulk d + 1
 end
def uptoSmall : (H : Type) → List (DataW H) → Bool := fun _ ds => decide (uptoBulkAll ds ≤ 1048576)
def OpenSpec.upto (s : _root_.Go.ChangeSpec) : _root_.Go.OpenSpec := { _root_.Go.OpenSpec.ofChange s with cond := some uptoSmall }

/-- 'laws.FnBuffer', WHERE WHAT IT READS IS OF BULK AT MOST 1048576: true; the input reads as it did. -/
def fnBufferUptoRow : OpenClaim := { program := "ytklgagonbehpeaa", sum := "a51678d77f3cccdbe894f2a7ae57db60d554d2c9df3819d3c70afad709fbf7a4", func := "loop.example/g00692/laws.FnBuffer", spec := "fnBuffer", apart := false, narrowed := true }
def FnBufferUptoSaid : Prop := fnBufferUptoRow.holds Try.pinned (OpenSpec.upto fnBufferSpec)

/-- 'laws.FnExactGoodBuf', WHERE WHAT IT READS IS OF BULK AT MOST 1048576: true; the input reads as it did. -/
def fnExactGoodBufUptoRow : OpenClaim := { program := "ytklgagonbehpeaa", sum := "a51678d77f3cccdbe894f2a7ae57db60d554d2c9df3819d3c70afad709fbf7a4", func := "loop.example/g00692/laws.FnExactGoodBuf", spec := "fnExactGoodBuf", apart := false, narrowed := true }
def FnExactGoodBufUptoSaid : Prop := fnExactGoodBufUptoRow.holds Try.pinned (OpenSpec.upto fnExactGoodBufSpec)

/-- 'laws.FnExactPutBuf', WHERE WHAT IT READS IS OF BULK AT MOST 1048576: true; the input reads as it did. -/
def fnExactPutBufUptoRow : OpenClaim := { program := "ytklgagonbehpeaa", sum := "a51678d77f3cccdbe894f2a7ae57db60d554d2c9df3819d3c70afad709fbf7a4", func := "loop.example/g00692/laws.FnExactPutBuf", spec := "fnExactPutBuf", apart := false, narrowed := true }
def FnExactPutBufUptoSaid : Prop := fnExactPutBufUptoRow.holds Try.pinned (OpenSpec.upto fnExactPutBufSpec)

/-- 'laws.FnExactTakeBuf', WHERE WHAT IT READS IS OF BULK AT MOST 1048576: true; the input reads as it did. -/
def fnExactTakeBufUptoRow : OpenClaim := { program := "ytklgagonbehpeaa", sum := "a51678d77f3cccdbe894f2a7ae57db60d554d2c9df3819d3c70afad709fbf7a4", func := "loop.example/g00692/laws.FnExactTakeBuf", spec := "fnExactTakeBuf", apart := false, narrowed := true }
def FnExactTakeBufUptoSaid : Prop := fnExactTakeBufUptoRow.holds Try.pinned (OpenSpec.upto fnExactTakeBufSpec)

/-- 'laws.FnExactByteOf', WHERE WHAT IT READS IS OF BULK AT MOST 1048576: true; the input reads as it did. -/
def fnExactByteOfUptoRow : OpenClaim := { program := "ytklgagonbehpeaa", sum := "a51678d77f3cccdbe894f2a7ae57db60d554d2c9df3819d3c70afad709fbf7a4", func := "loop.example/g00692/laws.FnExactByteOf", spec := "fnExactByteOf", apart := false, narrowed := true }
def FnExactByteOfUptoSaid : Prop := fnExactByteOfUptoRow.holds Try.pinned (OpenSpec.upto fnExactByteOfSpec)

/-- 'laws.FnExactNewSession', WHERE WHAT IT READS IS OF BULK AT MOST 1048576: true; the input reads as it did. -/
def fnExactNewSessionUptoRow : OpenClaim := { program := "ytklgagonbehpeaa", sum := "a51678d77f3cccdbe894f2a7ae57db60d554d2c9df3819d3c70afad709fbf7a4", func := "loop.example/g00692/laws.FnExactNewSession", spec := "fnExactNewSession", apart := false, narrowed := true }
def FnExactNewSessionUptoSaid : Prop := fnExactNewSessionUptoRow.holds Try.pinned (OpenSpec.upto fnExactNewSessionSpec)

end Rows
end Go.Proofs.Ytklgagonbehpeaa
