/-
  A decoder among a law's arguments: opened, shut; the laws' toDecoder, eqDecoder, szDecoder.
-/
import Derived.Test.YtklgagonbehpeaaDoorFrame
import Derived.Test.YtklgagonbehpeaaDoorD2Good
import Derived.Lib.SmallJoins
namespace Go.Proofs.YtklgagonbehpeaaDoor
open Go.ChangeShapes Go.WideShapes Go.ChangeAt Go.WideMaps Go.WideElems Go.RowKit
open Go.ChangeMaps (open_string shut_string)
theorem Tryd.cellsDec : Tryd.prog.cellsOf 23 = 4 := by kernel_rfl
section
variable {H : Type} {enc : TypeId × Value → H} {w : World} {base : Nat} {spare : Nat → Bool} {hld : Bool}
set_option maxRecDepth 100000 in
theorem open_dec {r : Reach} {b0 : Nat} {v : Value} {d : DataW H} {p : List MemPlace} (hv : Value.okWide Tryd.prog w r b0 23 v) (h : DataW.Trod enc Tryd.prog w base spare hld 23 v d p) :
    ∃ (en sh lo : Int) (held : ByteArray), v = decV en sh lo held ∧ d = .agg [.lit (.int .i64 en), .lit (.int .i64 sh), .lit (.int .i64 lo), .lit (.string held.data.toList)] ∧ p = [] ∧
      (Lit.int .i64 en).wf = true ∧ (Lit.int .i64 sh).wf = true ∧ (Lit.int .i64 lo).wf = true ∧ held.size ≤ maxLen := by
  obtain ⟨c0, c1, c2, c3, y0, y1, y2, y3, m, rfl, rfl, rfl, hy0, hy1, hy2, hy3⟩ := Joins.open_agg4 Tryd.underlying23 (by kernel_rfl) Tryd.cellsDec hv h
  obtain ⟨a, e0, rfl, wa⟩ := DataW.trod_int Tryd.underlying3 hy0
  obtain ⟨b, e1, rfl, wb⟩ := DataW.trod_int Tryd.underlying3 hy1
  obtain ⟨c, e2, rfl, wc⟩ := DataW.trod_int Tryd.underlying3 hy2
  obtain ⟨s, e3, rfl, ws⟩ := DataW.trod_string Tryd.underlying9 hy3
  simp at e0 e1 e2 e3
  subst e0 e1 e2 e3
  exact ⟨a, b, c, s, rfl, rfl, rfl, wa, wb, wc, ws⟩
set_option maxRecDepth 100000 in
theorem shut_dec {en sh lo : Int} {held : ByteArray} (w0 : (Lit.int .i64 en).wf = true) (w1 : (Lit.int .i64 sh).wf = true) (w2 : (Lit.int .i64 lo).wf = true) (w3 : held.size ≤ maxLen) :
    DataW.Trod enc Tryd.prog w base spare hld 23 (decV en sh lo held) (.agg [.lit (.int .i64 en), .lit (.int .i64 sh), .lit (.int .i64 lo), .lit (.string held.data.toList)]) [] :=
  Joins.shut_agg4 (y0 := (.lit (.int .i64 en), [])) (y1 := (.lit (.int .i64 sh), [])) (y2 := (.lit (.int .i64 lo), [])) (y3 := (.lit (.string held.data.toList), [])) Tryd.underlying23 (by kernel_rfl) Tryd.cellsDec
    ⟨1, by simp [DataW.trod, Tryd.underlying3, w0]⟩ ⟨1, by simp [DataW.trod, Tryd.underlying3, w1]⟩ ⟨1, by simp [DataW.trod, Tryd.underlying3, w2]⟩ ⟨1, by simp [DataW.trod, Tryd.underlying9, w3]⟩
end
set_option maxRecDepth 100000 in
set_option maxHeartbeats 1000000 in
theorem toDec_any (en sh lo : Int) (held : ByteArray) (w : World) :
    Calls Tryd.prog 13 #[decV en sh lo held] w fun e w' => e = .returned (decV en sh lo held) ∧ Below w.heap.size w w' := by
  go_enter Tryd.func13, Tryd.ntmps13
  go_wp2
  exact bodyPost_ret (v := decV en sh lo held) (by simp [results, Tryd.results13, go_sem]) rfl ⟨rfl, by go_grown⟩
set_option maxRecDepth 100000 in
set_option maxHeartbeats 1000000 in
theorem eqDec_same (en sh lo : Int) (held : ByteArray) (w : World) :
    Calls Tryd.prog 17 #[decV en sh lo held, decV en sh lo held] w fun e w' => e = .returned (.bool true) ∧ Below w.heap.size w w' := by
  go_enter Tryd.func17, Tryd.ntmps17
  go_wp2
  go_ret
  exact ⟨rfl, by go_grown⟩
set_option maxRecDepth 100000 in
set_option maxHeartbeats 1000000 in
theorem szDec_big (en sh lo : Int) (held : ByteArray) (w : World) (h : 1048576 < held.size) (hz : held.size ≤ maxLen) :
    Calls Tryd.prog 9 #[decV en sh lo held, .int .i64 1048576] w fun e w' => e = .returned (.int .i64 (-1)) ∧ Below w.heap.size w w' := by
  have h1 : (1048576 : Int) - held.size < 0 := by omega
  have h2 : held.size ≤ 9223372036854775807 := by unfold maxLen at hz; omega
  go_enter Tryd.func9, Tryd.ntmps9
  go_wp2
  go_ret
  exact ⟨rfl, by go_grown⟩
set_option maxRecDepth 100000 in
set_option maxHeartbeats 1000000 in
theorem szDec_yes (en sh lo : Int) (held : ByteArray) (w : World) (h : held.size ≤ 1048576) :
    Calls Tryd.prog 9 #[decV en sh lo held, .int .i64 1048576] w fun e w' => e = .returned (.int .i64 (1048576 - held.size)) ∧ Below w.heap.size w w' := by
  have h1 : ¬ (1048576 : Int) - held.size < 0 := by omega
  go_enter Tryd.func9, Tryd.ntmps9
  go_wp2
  go_ret
  exact ⟨rfl, by go_grown⟩
end Go.Proofs.YtklgagonbehpeaaDoor
