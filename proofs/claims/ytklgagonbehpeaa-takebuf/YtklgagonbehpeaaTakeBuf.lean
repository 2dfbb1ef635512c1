/-
  For every buffer and number, laws.FnExactTakeBuf returns true: impl.TakeBuf answers as the specification's TakeBuf, the buffer, the runes that went and the flag, in memory of its own that a second call leaves alone, and leaves the buffer as it was. No conditions.
-/
import Derived.Test.YtklgagonbehpeaaX1I
import Derived.Test.YtklgagonbehpeaaX1K
import Derived.Lib.SmallJoins
import Derived.Deep.RegionHeld
namespace Go.Proofs.Ytklgagonbehpeaa
open Go.ChangeShapes Go.WideShapes Go.ChangeAt Go.WideMaps Go.WideElems Go.RowKit
namespace LawTakeBuf
theorem own : ownKnob Try.prog.godebug = none := by kernel_rfl
theorem laidOut : laidOutB Try.prog = true := by kernel_rfl
set_option maxRecDepth 100000 in
set_option maxHeartbeats 8000000 in
theorem core (M G K : Int) (R L : List Int) (N H : Int) (AR AL AW : List Int) (f : Bool) (s a : Option Addr) (cs ca : Nat) (w : World) (hS : R.length + L.length ≤ 1048576) (hAR : AR.length ≤ 1048576) (hAL : AL.length ≤ 1048576) (hAW : AW.length ≤ 1048576) (iR : IntsAt w s R) (iL : IntsAt w a L)
    (SP : ∀ (s a : Option Addr) (cs ca : Nat) (w : World), Sl w s cs R → Sl w a ca L → Calls Try.prog 21 #[.agg #[.int .i64 M, .slice s R.length cs, .slice a L.length ca, .int .i64 G], .int .i64 K] w fun r w' => ∃ v0 v1 v2, r = .returned (.tuple #[.agg #[.int .i64 N, v0, v1, .int .i64 H], v2, .bool f]) ∧ Own3 w' w.heap.size w'.heap.size v0 v1 v2 AR AL AW ∧ Below w.heap.size w w')
    (IM : ∀ (s a : Option Addr) (cs ca : Nat) (w : World), Sl w s cs R → Sl w a ca L → Calls Try.prog 20 #[.agg #[.int .i64 M, .slice s R.length cs, .slice a L.length ca, .int .i64 G], .int .i64 K] w fun r w' => ∃ v0 v1 v2, r = .returned (.tuple #[.agg #[.int .i64 N, v0, v1, .int .i64 H], v2, .bool f]) ∧ Own3 w' w.heap.size w'.heap.size v0 v1 v2 AR AL AW ∧ Below w.heap.size w w') :
    Calls Try.prog 6 #[.agg #[.int .i64 M, .slice s R.length cs, .slice a L.length ca, .int .i64 G], .int .i64 K] w fun r w' => r = .returned (.bool true) ∧ Below w.heap.size w w' := by
  have HR : Hid _ := iR
  have HL : Hid _ := iL
  have HSP : Hid _ := SP
  have HIM : Hid _ := IM
  have A1 : ∀ o, Below w.heap.size w (w.alloc o) := fun o => (Below.refl _ _).alloc (Nat.le_refl _) o
  have hlR : R.length ≤ 1048576 := by omega
  have hlL : L.length ≤ 1048576 := by omega
  have HSZ : Hid _ := fun o => szBuf_any M G R L s a cs ca (w.alloc o) (by unfold maxLen; omega) (by unfold maxLen; omega)
  clear iR iL SP IM
  go_enter Try.func6, Try.ntmps6
  go_wp2_with fail
  refine Calls.mono (HSZ.out _) ?_
  rintro r w1 ⟨hs, b1⟩
  obtain rfl : r = .returned (.int .i64 (1048576 - R.length - L.length)) := by
    rcases hs with ⟨-, h⟩ | ⟨h, -⟩
    · exact h
    · omega
  clear hs
  have hbl1 : w1.heap[w.heap.size]? = some (.cells #[.int .i64 M, .slice s R.length cs, .slice a L.length ca, .int .i64 G] 41) := (b1.block w.heap.size (by simp)).trans (heap_lastB _ _ _ rfl)
  have hs1 : w.heap.size < w1.heap.size := Nat.lt_of_lt_of_le (by simp) b1.size
  have B1 : Hid (Below w.heap.size w w1) := (A1 _).trans (b1.mono (by simp))
  clear b1 HSZ A1
  have hz : ¬ (1048576 : Int) - (R.length : Int) - (L.length : Int) < 0 := by omega
  have g10 : w1.cell? ⟨w.heap.size, 0, none⟩ = some (.int .i64 M) := cell_ofB hbl1 0
  have g11 : w1.cell? ⟨w.heap.size, 1, none⟩ = some (.slice s R.length cs) := cell_ofB hbl1 1
  have g12 : w1.cell? ⟨w.heap.size, 2, none⟩ = some (.slice a L.length ca) := cell_ofB hbl1 2
  have g13 : w1.cell? ⟨w.heap.size, 3, none⟩ = some (.int .i64 G) := cell_ofB hbl1 3
  go_wp2_with fail
  refine (toBuf_any M G R L s a cs ca _ hlR hlL (IntsAt.keepB HR.out B1.out) (IntsAt.keepB HL.out B1.out)).mono ?_
  rintro r w2 ⟨x2, y2, cx2, cy2, rfl, o2, e2⟩
  have JR2 : Hid (Sl w2 x2 cx2 R) := Sl.of_own o2.1.1
  have JL2 : Hid (Sl w2 y2 cy2 L) := Sl.of_own o2.1.2.1
  have hbl2 := (e2.block w.heap.size hs1).trans hbl1
  have hs2 : w.heap.size < w2.heap.size := Nat.lt_of_lt_of_le hs1 e2.size
  have B2 : Hid (Below w.heap.size w w2) := B1.out.trans (e2.mono B1.out.size)
  clear e2 o2 g10 g11 g12 g13 hbl1 B1
  go_wp2_with fail
  refine Calls.mono (HSP.out _ _ _ _ _ JR2.out JL2.out) ?_
  rintro r w3 ⟨v0, v1, v2, rfl, o3, e3⟩
  obtain ⟨a3, b3, c3, ca3, cb3, cc3, rfl, rfl, rfl⟩ := o3.form
  have P3 : Hid (Own3 w3 w2.heap.size w3.heap.size (.slice a3 AR.length ca3) (.slice b3 AL.length cb3) (.slice c3 AW.length cc3) AR AL AW) := o3
  have hbl3 := (e3.block w.heap.size hs2).trans hbl2
  have hs3 : w.heap.size < w3.heap.size := Nat.lt_of_lt_of_le hs2 e3.size
  have hs23 : w2.heap.size ≤ w3.heap.size := e3.size
  have B3 : Hid (Below w.heap.size w w3) := B2.out.trans (e3.mono B2.out.size)
  clear e3 o3 hbl2 JR2 JL2 B2
  have AL3 : ∀ o, Below w3.heap.size w3 (w3.alloc o) := fun o => (Below.refl _ _).alloc (Nat.le_refl _) o
  have hne3 : ¬ w.heap.size = w3.heap.size := by omega
  have hne3' : ¬ w3.heap.size = w.heap.size := by omega
  have g30 : ∀ o, (w3.alloc o).cell? ⟨w.heap.size, 0, none⟩ = some (.int .i64 M) := fun o => cell_ofB (((AL3 o).block _ hs3).trans hbl3) 0
  have g31 : ∀ o, (w3.alloc o).cell? ⟨w.heap.size, 1, none⟩ = some (.slice s R.length cs) := fun o => cell_ofB (((AL3 o).block _ hs3).trans hbl3) 1
  have g32 : ∀ o, (w3.alloc o).cell? ⟨w.heap.size, 2, none⟩ = some (.slice a L.length ca) := fun o => cell_ofB (((AL3 o).block _ hs3).trans hbl3) 2
  have g33 : ∀ o, (w3.alloc o).cell? ⟨w.heap.size, 3, none⟩ = some (.int .i64 G) := fun o => cell_ofB (((AL3 o).block _ hs3).trans hbl3) 3
  have B3a : Hid (∀ o, Below w.heap.size w (w3.alloc o)) := fun o => B3.out.trans ((AL3 o).mono B3.out.size)
  go_wp2_with fail
  refine (toBuf_any M G R L s a cs ca _ hlR hlL (IntsAt.keepB HR.out (B3a.out _)) (IntsAt.keepB HL.out (B3a.out _))).mono ?_
  rintro r w4 ⟨a4, b4, ca4, cb4, rfl, o4, e4⟩
  have P4 : Hid (Own3 w4 (w3.heap.size + 1) w4.heap.size (.slice a4 R.length ca4) (.slice b4 L.length cb4) (.slice none 0 0) R L []) := by have hq := o4; simp only [World.alloc, Array.size_push] at hq; exact hq
  have hs4 : w3.heap.size < w4.heap.size := Nat.lt_of_lt_of_le (by simp) e4.size
  have hbl4 := (e4.block w.heap.size (by simp; omega)).trans (((AL3 _).block w.heap.size hs3).trans hbl3)
  have hb44 : w4.heap[w3.heap.size]? = some (.cells #[.int .i64 N, .slice a3 AR.length ca3, .slice b3 AL.length cb3, .int .i64 H] 26) := (e4.block w3.heap.size (by simp)).trans (heap_lastB _ _ _ rfl)
  have P3b : Hid (Own3 w4 w2.heap.size w3.heap.size (.slice a3 AR.length ca3) (.slice b3 AL.length cb3) (.slice c3 AW.length cc3) AR AL AW) := (P3.out.keepB (AL3 _)).keepB e4
  have B4 : Hid (Below w.heap.size w w4) := (B3a.out _).trans (e4.mono (B3a.out _).size)
  have AL4 : ∀ o, Below w4.heap.size w4 (w4.alloc o) := fun o => (Below.refl _ _).alloc (Nat.le_refl _) o
  have JR4 : Hid (∀ o, Sl (w4.alloc o) a4 ca4 R) := fun o => (Sl.of_own o4.1.1).keepB (AL4 o)
  have JL4 : Hid (∀ o, Sl (w4.alloc o) b4 cb4 L) := fun o => (Sl.of_own o4.1.2.1).keepB (AL4 o)
  clear e4 o4 g30 g31 g32 g33 hbl3 B3 B3a P3 AL3 hne3 hne3'
  go_wp2_with fail
  refine Calls.mono (HIM.out _ _ _ _ _ (JR4.out _) (JL4.out _)) ?_
  rintro r w5 ⟨v0, v1, v2, rfl, o5, e5⟩
  obtain ⟨a5, b5, c5, ca5, cb5, cc5, rfl, rfl, rfl⟩ := o5.form
  have P5 : Hid (Own3 w5 (w4.heap.size + 1) w5.heap.size (.slice a5 AR.length ca5) (.slice b5 AL.length cb5) (.slice c5 AW.length cc5) AR AL AW) := by have hq := o5; simp only [World.alloc, Array.size_push] at hq; exact hq
  have hs5 : w4.heap.size < w5.heap.size := Nat.lt_of_lt_of_le (by simp) e5.size
  have hk1 := (e5.block w.heap.size (by simp; omega)).trans (((AL4 _).block w.heap.size (by omega)).trans hbl4)
  have hk4 := (e5.block w3.heap.size (by simp; omega)).trans (((AL4 _).block w3.heap.size hs4).trans hb44)
  have hk6 : w5.heap[w4.heap.size]? = some (.cells #[.int .i64 M, .slice a4 R.length ca4, .slice b4 L.length cb4, .int .i64 G] 26) := (e5.block w4.heap.size (by simp)).trans (heap_lastB _ _ _ rfl)
  have Q3 : Hid (Own3 w5 w2.heap.size w3.heap.size (.slice a3 AR.length ca3) (.slice b3 AL.length cb3) (.slice c3 AW.length cc3) AR AL AW) := (P3b.out.keepB (AL4 _)).keepB e5
  have Q4 : Hid (Own3 w5 (w3.heap.size + 1) w4.heap.size (.slice a4 R.length ca4) (.slice b4 L.length cb4) (.slice none 0 0) R L []) := (P4.out.keepB (AL4 _)).keepB e5
  have B5 : Hid (Below w.heap.size w w5) := (B4.out.trans ((AL4 _).mono B4.out.size)).trans (e5.mono (B4.out.trans ((AL4 _).mono B4.out.size)).size)
  have AL5 : ∀ o, Below w5.heap.size w5 (w5.alloc o) := fun o => (Below.refl _ _).alloc (Nat.le_refl _) o
  have X5 : Hid (BxB (w5.alloc (.cells #[.int .i64 N, .slice a5 AR.length ca5, .slice b5 AL.length cb5, .int .i64 H] 26)) w.heap.size w3.heap.size w4.heap.size w5.heap.size (.cells #[.int .i64 M, .slice s R.length cs, .slice a L.length ca, .int .i64 G] 41) (.cells #[.int .i64 N, .slice a3 AR.length ca3, .slice b3 AL.length cb3, .int .i64 H] 26) (.cells #[.int .i64 M, .slice a4 R.length ca4, .slice b4 L.length cb4, .int .i64 G] 26) (.cells #[.int .i64 N, .slice a5 AR.length ca5, .slice b5 AL.length cb5, .int .i64 H] 26)) := ⟨((AL5 _).block _ (by omega)).trans hk1, ((AL5 _).block _ (by omega)).trans hk4, ((AL5 _).block _ hs5).trans hk6, heap_lastB _ _ _ rfl⟩
  have T3 : Hid (Own3 (w5.alloc (.cells #[.int .i64 N, .slice a5 AR.length ca5, .slice b5 AL.length cb5, .int .i64 H] 26)) w2.heap.size w3.heap.size (.slice a3 AR.length ca3) (.slice b3 AL.length cb3) (.slice c3 AW.length cc3) AR AL AW) := Q3.out.keepB (AL5 _)
  have T4 : Hid (Own3 (w5.alloc (.cells #[.int .i64 N, .slice a5 AR.length ca5, .slice b5 AL.length cb5, .int .i64 H] 26)) (w3.heap.size + 1) w4.heap.size (.slice a4 R.length ca4) (.slice b4 L.length cb4) (.slice none 0 0) R L []) := Q4.out.keepB (AL5 _)
  have T5 : Hid (Own3 (w5.alloc (.cells #[.int .i64 N, .slice a5 AR.length ca5, .slice b5 AL.length cb5, .int .i64 H] 26)) (w4.heap.size + 1) w5.heap.size (.slice a5 AR.length ca5) (.slice b5 AL.length cb5) (.slice c5 AW.length cc5) AR AL AW) := P5.out.keepB (AL5 _)
  have BB5 : Hid (Below w.heap.size w (w5.alloc (.cells #[.int .i64 N, .slice a5 AR.length ca5, .slice b5 AL.length cb5, .int .i64 H] 26))) := B5.out.trans ((AL5 _).mono B5.out.size)
  have hne5 : ¬ w3.heap.size = w5.heap.size := by omega
  have hne5' : ¬ w5.heap.size = w3.heap.size := by omega
  clear e5 o5 hbl4 hb44 hk1 hk4 hk6 P3b P4 P5 Q3 Q4 B4 B5 JR4 JL4 AL4 AL5
  have g70 : (w5.alloc (.cells #[.int .i64 N, .slice a5 AR.length ca5, .slice b5 AL.length cb5, .int .i64 H] 26)).cell? ⟨w5.heap.size, 0, none⟩ = some (.int .i64 N) := cell_ofB X5.out.2.2.2 0
  have g71 : (w5.alloc (.cells #[.int .i64 N, .slice a5 AR.length ca5, .slice b5 AL.length cb5, .int .i64 H] 26)).cell? ⟨w5.heap.size, 1, none⟩ = some (.slice a5 AR.length ca5) := cell_ofB X5.out.2.2.2 1
  have g72 : (w5.alloc (.cells #[.int .i64 N, .slice a5 AR.length ca5, .slice b5 AL.length cb5, .int .i64 H] 26)).cell? ⟨w5.heap.size, 2, none⟩ = some (.slice b5 AL.length cb5) := cell_ofB X5.out.2.2.2 2
  have g73 : (w5.alloc (.cells #[.int .i64 N, .slice a5 AR.length ca5, .slice b5 AL.length cb5, .int .i64 H] 26)).cell? ⟨w5.heap.size, 3, none⟩ = some (.int .i64 H) := cell_ofB X5.out.2.2.2 3
  have g40 : (w5.alloc (.cells #[.int .i64 N, .slice a5 AR.length ca5, .slice b5 AL.length cb5, .int .i64 H] 26)).cell? ⟨w3.heap.size, 0, none⟩ = some (.int .i64 N) := cell_ofB X5.out.2.1 0
  have g41 : (w5.alloc (.cells #[.int .i64 N, .slice a5 AR.length ca5, .slice b5 AL.length cb5, .int .i64 H] 26)).cell? ⟨w3.heap.size, 1, none⟩ = some (.slice a3 AR.length ca3) := cell_ofB X5.out.2.1 1
  have g42 : (w5.alloc (.cells #[.int .i64 N, .slice a5 AR.length ca5, .slice b5 AL.length cb5, .int .i64 H] 26)).cell? ⟨w3.heap.size, 2, none⟩ = some (.slice b3 AL.length cb3) := cell_ofB X5.out.2.1 2
  have g43 : (w5.alloc (.cells #[.int .i64 N, .slice a5 AR.length ca5, .slice b5 AL.length cb5, .int .i64 H] 26)).cell? ⟨w3.heap.size, 3, none⟩ = some (.int .i64 H) := cell_ofB X5.out.2.1 3
  have bbf : (f == f) = true := by simp
  go_wp2_with fail
  refine (eqBuf_any N H AR AL _ _ _ _ _ _ _ _ _ hAR hAL T5.out.at.1 T5.out.at.2.1 T3.out.at.1 T3.out.at.2.1).mono ?_
  rintro r w6 ⟨rfl, e6⟩
  have X6 : Hid (BxB w6 w.heap.size w3.heap.size w4.heap.size w5.heap.size (.cells #[.int .i64 M, .slice s R.length cs, .slice a L.length ca, .int .i64 G] 41) (.cells #[.int .i64 N, .slice a3 AR.length ca3, .slice b3 AL.length cb3, .int .i64 H] 26) (.cells #[.int .i64 M, .slice a4 R.length ca4, .slice b4 L.length cb4, .int .i64 G] 26) (.cells #[.int .i64 N, .slice a5 AR.length ca5, .slice b5 AL.length cb5, .int .i64 H] 26)) := X5.out.keepB e6
  have U3 : Hid (Own3 w6 w2.heap.size w3.heap.size (.slice a3 AR.length ca3) (.slice b3 AL.length cb3) (.slice c3 AW.length cc3) AR AL AW) := T3.out.keepB e6
  have U4 : Hid (Own3 w6 (w3.heap.size + 1) w4.heap.size (.slice a4 R.length ca4) (.slice b4 L.length cb4) (.slice none 0 0) R L []) := T4.out.keepB e6
  have U5 : Hid (Own3 w6 (w4.heap.size + 1) w5.heap.size (.slice a5 AR.length ca5) (.slice b5 AL.length cb5) (.slice c5 AW.length cc5) AR AL AW) := T5.out.keepB e6
  have B6 : Hid (Below w.heap.size w w6) := BB5.out.trans (e6.mono BB5.out.size)
  have hs6 : w5.heap.size < w6.heap.size := Nat.lt_of_lt_of_le (by simp) e6.size
  clear g70 g71 g72 g73 g40 g41 g42 g43
  clear e6 T3 T4 T5 BB5 X5 hne5 hne5'
  go_wp2_with fail
  refine (eq_any AW _ _ _ _ _ hAW U5.out.at.2.2 U3.out.at.2.2).mono ?_
  rintro r w61 ⟨rfl, e61⟩
  have X61 : Hid (BxB w61 w.heap.size w3.heap.size w4.heap.size w5.heap.size (.cells #[.int .i64 M, .slice s R.length cs, .slice a L.length ca, .int .i64 G] 41) (.cells #[.int .i64 N, .slice a3 AR.length ca3, .slice b3 AL.length cb3, .int .i64 H] 26) (.cells #[.int .i64 M, .slice a4 R.length ca4, .slice b4 L.length cb4, .int .i64 G] 26) (.cells #[.int .i64 N, .slice a5 AR.length ca5, .slice b5 AL.length cb5, .int .i64 H] 26)) := X6.out.keepB e61
  have V3 : Hid (Own3 w61 w2.heap.size w3.heap.size (.slice a3 AR.length ca3) (.slice b3 AL.length cb3) (.slice c3 AW.length cc3) AR AL AW) := U3.out.keepB e61
  have V4 : Hid (Own3 w61 (w3.heap.size + 1) w4.heap.size (.slice a4 R.length ca4) (.slice b4 L.length cb4) (.slice none 0 0) R L []) := U4.out.keepB e61
  have V5 : Hid (Own3 w61 (w4.heap.size + 1) w5.heap.size (.slice a5 AR.length ca5) (.slice b5 AL.length cb5) (.slice c5 AW.length cc5) AR AL AW) := U5.out.keepB e61
  have B61 : Hid (Below w.heap.size w w61) := B6.out.trans (e61.mono B6.out.size)
  have hs61 : w5.heap.size < w61.heap.size := Nat.lt_of_lt_of_le hs6 e61.size
  clear e61 U3 U4 U5 B6 X6
  have sD : (w61.drew.cell? ⟨w.heap.size, 0, none⟩ = some (.int .i64 M) ∧ w61.drew.cell? ⟨w.heap.size, 1, none⟩ = some (.slice s R.length cs) ∧ w61.drew.cell? ⟨w.heap.size, 2, none⟩ = some (.slice a L.length ca) ∧ w61.drew.cell? ⟨w.heap.size, 3, none⟩ = some (.int .i64 G) ∧ w61.drew.cell? ⟨w4.heap.size, 0, none⟩ = some (.int .i64 M) ∧ w61.drew.cell? ⟨w4.heap.size, 1, none⟩ = some (.slice a4 R.length ca4) ∧ w61.drew.cell? ⟨w4.heap.size, 2, none⟩ = some (.slice b4 L.length cb4) ∧ w61.drew.cell? ⟨w4.heap.size, 3, none⟩ = some (.int .i64 G)) := ⟨cell_ofB X61.out.1 0, cell_ofB X61.out.1 1, cell_ofB X61.out.1 2, cell_ofB X61.out.1 3, cell_ofB X61.out.2.2.1 0, cell_ofB X61.out.2.2.1 1, cell_ofB X61.out.2.2.1 2, cell_ofB X61.out.2.2.1 3⟩
  have DR6 : Hid (Below w61.heap.size w61 w61.drew) := (Below.refl _ _).drew
  have B6d : Hid (Below w.heap.size w w61.drew) := B61.out.drew
  have HX6 : Hid (BxB w61.drew w.heap.size w3.heap.size w4.heap.size w5.heap.size (.cells #[.int .i64 M, .slice s R.length cs, .slice a L.length ca, .int .i64 G] 41) (.cells #[.int .i64 N, .slice a3 AR.length ca3, .slice b3 AL.length cb3, .int .i64 H] 26) (.cells #[.int .i64 M, .slice a4 R.length ca4, .slice b4 L.length cb4, .int .i64 G] 26) (.cells #[.int .i64 N, .slice a5 AR.length ca5, .slice b5 AL.length cb5, .int .i64 H] 26)) := X61.out.keepB DR6.out
  go_wp2
  go_region_held (fun w' => (w'.cell? ⟨w.heap.size, 0, none⟩ = some (.int .i64 M) ∧ w'.cell? ⟨w.heap.size, 1, none⟩ = some (.slice s R.length cs) ∧ w'.cell? ⟨w.heap.size, 2, none⟩ = some (.slice a L.length ca) ∧ w'.cell? ⟨w.heap.size, 3, none⟩ = some (.int .i64 G) ∧ w'.cell? ⟨w4.heap.size, 0, none⟩ = some (.int .i64 M) ∧ w'.cell? ⟨w4.heap.size, 1, none⟩ = some (.slice a4 R.length ca4) ∧ w'.cell? ⟨w4.heap.size, 2, none⟩ = some (.slice b4 L.length cb4) ∧ w'.cell? ⟨w4.heap.size, 3, none⟩ = some (.int .i64 G))) (first | assumption) (first
      | (go_at_call 25; refine (toBuf_any M G R L s a cs ca _ hlR hlL (IntsAt.keepB HR.out B6d.out) (IntsAt.keepB HL.out B6d.out)).mono ?_
         rintro r w7 ⟨a7, b7, ca7, cb7, rfl, o7, e7⟩
         have X7 : Hid (BxB w7 w.heap.size w3.heap.size w4.heap.size w5.heap.size (.cells #[.int .i64 M, .slice s R.length cs, .slice a L.length ca, .int .i64 G] 41) (.cells #[.int .i64 N, .slice a3 AR.length ca3, .slice b3 AL.length cb3, .int .i64 H] 26) (.cells #[.int .i64 M, .slice a4 R.length ca4, .slice b4 L.length cb4, .int .i64 G] 26) (.cells #[.int .i64 N, .slice a5 AR.length ca5, .slice b5 AL.length cb5, .int .i64 H] 26)) := HX6.out.keepB e7
         have s7 : (w7.cell? ⟨w.heap.size, 0, none⟩ = some (.int .i64 M) ∧ w7.cell? ⟨w.heap.size, 1, none⟩ = some (.slice s R.length cs) ∧ w7.cell? ⟨w.heap.size, 2, none⟩ = some (.slice a L.length ca) ∧ w7.cell? ⟨w.heap.size, 3, none⟩ = some (.int .i64 G) ∧ w7.cell? ⟨w4.heap.size, 0, none⟩ = some (.int .i64 M) ∧ w7.cell? ⟨w4.heap.size, 1, none⟩ = some (.slice a4 R.length ca4) ∧ w7.cell? ⟨w4.heap.size, 2, none⟩ = some (.slice b4 L.length cb4) ∧ w7.cell? ⟨w4.heap.size, 3, none⟩ = some (.int .i64 G)) := ⟨cell_ofB X7.out.1 0, cell_ofB X7.out.1 1, cell_ofB X7.out.1 2, cell_ofB X7.out.1 3, cell_ofB X7.out.2.2.1 0, cell_ofB X7.out.2.2.1 1, cell_ofB X7.out.2.2.1 2, cell_ofB X7.out.2.2.1 3⟩
         have JR7 : Hid (IntsAt w7 a7 R) := o7.at.1
         have JL7 : Hid (IntsAt w7 b7 L) := o7.at.2.1
         have Y3 : Hid (Own3 w7 w2.heap.size w3.heap.size (.slice a3 AR.length ca3) (.slice b3 AL.length cb3) (.slice c3 AW.length cc3) AR AL AW) := (V3.out.keepB DR6.out).keepB e7
         have Y4 : Hid (Own3 w7 (w3.heap.size + 1) w4.heap.size (.slice a4 R.length ca4) (.slice b4 L.length cb4) (.slice none 0 0) R L []) := (V4.out.keepB DR6.out).keepB e7
         have Y5 : Hid (Own3 w7 (w4.heap.size + 1) w5.heap.size (.slice a5 AR.length ca5) (.slice b5 AL.length cb5) (.slice c5 AW.length cc5) AR AL AW) := (V5.out.keepB DR6.out).keepB e7
         have B7 : Hid (Below w.heap.size w w7) := B6d.out.trans (e7.mono B6d.out.size)
         have hs7 : w5.heap.size < w7.heap.size := Nat.lt_of_lt_of_le hs61 e7.size
         clear e7 o7)
      | (go_at_call 26; refine (eqBuf_any M G R L _ _ _ _ _ _ _ _ _ hlR hlL Y4.out.at.1 Y4.out.at.2.1 JR7.out JL7.out).mono ?_
         rintro r w8 ⟨rfl, e8⟩
         have X8 : Hid (BxB w8 w.heap.size w3.heap.size w4.heap.size w5.heap.size (.cells #[.int .i64 M, .slice s R.length cs, .slice a L.length ca, .int .i64 G] 41) (.cells #[.int .i64 N, .slice a3 AR.length ca3, .slice b3 AL.length cb3, .int .i64 H] 26) (.cells #[.int .i64 M, .slice a4 R.length ca4, .slice b4 L.length cb4, .int .i64 G] 26) (.cells #[.int .i64 N, .slice a5 AR.length ca5, .slice b5 AL.length cb5, .int .i64 H] 26)) := X7.out.keepB e8
         have s8 : (w8.cell? ⟨w.heap.size, 0, none⟩ = some (.int .i64 M) ∧ w8.cell? ⟨w.heap.size, 1, none⟩ = some (.slice s R.length cs) ∧ w8.cell? ⟨w.heap.size, 2, none⟩ = some (.slice a L.length ca) ∧ w8.cell? ⟨w.heap.size, 3, none⟩ = some (.int .i64 G) ∧ w8.cell? ⟨w4.heap.size, 0, none⟩ = some (.int .i64 M) ∧ w8.cell? ⟨w4.heap.size, 1, none⟩ = some (.slice a4 R.length ca4) ∧ w8.cell? ⟨w4.heap.size, 2, none⟩ = some (.slice b4 L.length cb4) ∧ w8.cell? ⟨w4.heap.size, 3, none⟩ = some (.int .i64 G)) := ⟨cell_ofB X8.out.1 0, cell_ofB X8.out.1 1, cell_ofB X8.out.1 2, cell_ofB X8.out.1 3, cell_ofB X8.out.2.2.1 0, cell_ofB X8.out.2.2.1 1, cell_ofB X8.out.2.2.1 2, cell_ofB X8.out.2.2.1 3⟩
         have W3 : Hid (Own3 w8 w2.heap.size w3.heap.size (.slice a3 AR.length ca3) (.slice b3 AL.length cb3) (.slice c3 AW.length cc3) AR AL AW) := Y3.out.keepB e8
         have W4 : Hid (Own3 w8 (w3.heap.size + 1) w4.heap.size (.slice a4 R.length ca4) (.slice b4 L.length cb4) (.slice none 0 0) R L []) := Y4.out.keepB e8
         have W5 : Hid (Own3 w8 (w4.heap.size + 1) w5.heap.size (.slice a5 AR.length ca5) (.slice b5 AL.length cb5) (.slice c5 AW.length cc5) AR AL AW) := Y5.out.keepB e8
         have B8 : Hid (Below w.heap.size w w8) := B7.out.trans (e8.mono B7.out.size)
         have hs8 : w5.heap.size < w8.heap.size := Nat.lt_of_lt_of_le hs7 e8.size
         clear e8))
  all_goals
    clear X61 X7 HX6 sD s7 V3 V4 V5 Y3 Y4 Y5 JR7 JL7 B61 B6d B7 DR6
    obtain ⟨d10, d11, d12, d13, d60, d61, d62, d63⟩ := s8
    go_wp2_with fail
    refine (markBuf_any M G 1 (by omega) (by omega) R L [] _ _ _ (w3.heap.size + 1) w4.heap.size _ hlR hlL (by omega) (by omega) W4.out).mono ?_
    rintro r w9 ⟨rfl, -, m9⟩
    have X9 : Hid (BxB w9 w.heap.size w3.heap.size w4.heap.size w5.heap.size (.cells #[.int .i64 M, .slice s R.length cs, .slice a L.length ca, .int .i64 G] 41) (.cells #[.int .i64 N, .slice a3 AR.length ca3, .slice b3 AL.length cb3, .int .i64 H] 26) (.cells #[.int .i64 M, .slice a4 R.length ca4, .slice b4 L.length cb4, .int .i64 G] 26) (.cells #[.int .i64 N, .slice a5 AR.length ca5, .slice b5 AL.length cb5, .int .i64 H] 26)) := X8.out.mid m9 (by omega) (by omega) (by omega) (by omega)
    have Y3 : Hid (Own3 w9 w2.heap.size w3.heap.size (.slice a3 AR.length ca3) (.slice b3 AL.length cb3) (.slice c3 AW.length cc3) AR AL AW) := W3.out.low m9.1 (by omega)
    have Y5 : Hid (Own3 w9 (w4.heap.size + 1) w5.heap.size (.slice a5 AR.length ca5) (.slice b5 AL.length cb5) (.slice c5 AW.length cc5) AR AL AW) := W5.out.mid m9 (by omega)
    have B9 : Hid (Below w.heap.size w w9) := B8.out.trans (m9.1.mono (by omega))
    have hs9 : w5.heap.size < w9.heap.size := Nat.lt_of_lt_of_le hs8 m9.1.size
    clear m9 X8 W3 W4 W5 B8 d10 d11 d12 d13 d60 d61 d62 d63
    have hzk : ¬ (1 + (R.length : Int) + (L.length : Int)) < 0 := by omega
    have g70 : w9.cell? ⟨w5.heap.size, 0, none⟩ = some (.int .i64 N) := cell_ofB X9.out.2.2.2 0
    have g71 : w9.cell? ⟨w5.heap.size, 1, none⟩ = some (.slice a5 AR.length ca5) := cell_ofB X9.out.2.2.2 1
    have g72 : w9.cell? ⟨w5.heap.size, 2, none⟩ = some (.slice b5 AL.length cb5) := cell_ofB X9.out.2.2.2 2
    have g73 : w9.cell? ⟨w5.heap.size, 3, none⟩ = some (.int .i64 H) := cell_ofB X9.out.2.2.2 3
    have g40 : w9.cell? ⟨w3.heap.size, 0, none⟩ = some (.int .i64 N) := cell_ofB X9.out.2.1 0
    have g41 : w9.cell? ⟨w3.heap.size, 1, none⟩ = some (.slice a3 AR.length ca3) := cell_ofB X9.out.2.1 1
    have g42 : w9.cell? ⟨w3.heap.size, 2, none⟩ = some (.slice b3 AL.length cb3) := cell_ofB X9.out.2.1 2
    have g43 : w9.cell? ⟨w3.heap.size, 3, none⟩ = some (.int .i64 H) := cell_ofB X9.out.2.1 3
    go_wp2_with fail
    refine (eqBuf_any N H AR AL _ _ _ _ _ _ _ _ _ hAR hAL Y5.out.at.1 Y5.out.at.2.1 Y3.out.at.1 Y3.out.at.2.1).mono ?_
    rintro r w10 ⟨rfl, e10⟩
    have X10 : Hid (BxB w10 w.heap.size w3.heap.size w4.heap.size w5.heap.size (.cells #[.int .i64 M, .slice s R.length cs, .slice a L.length ca, .int .i64 G] 41) (.cells #[.int .i64 N, .slice a3 AR.length ca3, .slice b3 AL.length cb3, .int .i64 H] 26) (.cells #[.int .i64 M, .slice a4 R.length ca4, .slice b4 L.length cb4, .int .i64 G] 26) (.cells #[.int .i64 N, .slice a5 AR.length ca5, .slice b5 AL.length cb5, .int .i64 H] 26)) := X9.out.keepB e10
    have Z3 : Hid (Own3 w10 w2.heap.size w3.heap.size (.slice a3 AR.length ca3) (.slice b3 AL.length cb3) (.slice c3 AW.length cc3) AR AL AW) := Y3.out.keepB e10
    have Z5 : Hid (Own3 w10 (w4.heap.size + 1) w5.heap.size (.slice a5 AR.length ca5) (.slice b5 AL.length cb5) (.slice c5 AW.length cc5) AR AL AW) := Y5.out.keepB e10
    have B10 : Hid (Below w.heap.size w w10) := B9.out.trans (e10.mono B9.out.size)
    have hs10 : w5.heap.size < w10.heap.size := Nat.lt_of_lt_of_le hs9 e10.size
    clear g70 g71 g72 g73 g40 g41 g42 g43
    clear e10 X9 Y3 Y5 B9
    go_wp2_with fail
    refine (eq_any AW _ _ _ _ _ hAW Z5.out.at.2.2 Z3.out.at.2.2).mono ?_
    rintro r w101 ⟨rfl, e101⟩
    have X101 : Hid (BxB w101 w.heap.size w3.heap.size w4.heap.size w5.heap.size (.cells #[.int .i64 M, .slice s R.length cs, .slice a L.length ca, .int .i64 G] 41) (.cells #[.int .i64 N, .slice a3 AR.length ca3, .slice b3 AL.length cb3, .int .i64 H] 26) (.cells #[.int .i64 M, .slice a4 R.length ca4, .slice b4 L.length cb4, .int .i64 G] 26) (.cells #[.int .i64 N, .slice a5 AR.length ca5, .slice b5 AL.length cb5, .int .i64 H] 26)) := X10.out.keepB e101
    have K3 : Hid (Own3 w101 w2.heap.size w3.heap.size (.slice a3 AR.length ca3) (.slice b3 AL.length cb3) (.slice c3 AW.length cc3) AR AL AW) := Z3.out.keepB e101
    have K5 : Hid (Own3 w101 (w4.heap.size + 1) w5.heap.size (.slice a5 AR.length ca5) (.slice b5 AL.length cb5) (.slice c5 AW.length cc5) AR AL AW) := Z5.out.keepB e101
    have B101 : Hid (Below w.heap.size w w101) := B10.out.trans (e101.mono B10.out.size)
    have hs101 : w5.heap.size < w101.heap.size := Nat.lt_of_lt_of_le hs10 e101.size
    clear e101 X10 Z3 Z5 B10
    have g70 : w101.cell? ⟨w5.heap.size, 0, none⟩ = some (.int .i64 N) := cell_ofB X101.out.2.2.2 0
    have g71 : w101.cell? ⟨w5.heap.size, 1, none⟩ = some (.slice a5 AR.length ca5) := cell_ofB X101.out.2.2.2 1
    have g72 : w101.cell? ⟨w5.heap.size, 2, none⟩ = some (.slice b5 AL.length cb5) := cell_ofB X101.out.2.2.2 2
    have g73 : w101.cell? ⟨w5.heap.size, 3, none⟩ = some (.int .i64 H) := cell_ofB X101.out.2.2.2 3
    go_wp2_with fail
    refine (markBuf_any N H 1 (by omega) (by omega) AR AL AW _ _ _ (w4.heap.size + 1) w5.heap.size _ hAR hAL (by omega) (by omega) K5.out).mono ?_
    rintro r w11 ⟨rfl, o11, m11⟩
    have X11 : Hid (BxB w11 w.heap.size w3.heap.size w4.heap.size w5.heap.size (.cells #[.int .i64 M, .slice s R.length cs, .slice a L.length ca, .int .i64 G] 41) (.cells #[.int .i64 N, .slice a3 AR.length ca3, .slice b3 AL.length cb3, .int .i64 H] 26) (.cells #[.int .i64 M, .slice a4 R.length ca4, .slice b4 L.length cb4, .int .i64 G] 26) (.cells #[.int .i64 N, .slice a5 AR.length ca5, .slice b5 AL.length cb5, .int .i64 H] 26)) := X101.out.mid m11 (by omega) (by omega) (by omega) (by omega)
    have C3 : Hid (Own3 w11 w2.heap.size w3.heap.size (.slice a3 AR.length ca3) (.slice b3 AL.length cb3) (.slice c3 AW.length cc3) AR AL AW) := K3.out.low m11.1 (by omega)
    have C5 : Hid (Own3 w11 (w4.heap.size + 1) w5.heap.size (.slice a5 AR.length ca5) (.slice b5 AL.length cb5) (.slice c5 AW.length cc5) (mk2 AR 1 AR.length) (mk2 AL (1 + AR.length) AL.length) AW) := o11
    have B11 : Hid (Below w.heap.size w w11) := B101.out.trans (m11.1.mono (by omega))
    have hs11 : w5.heap.size < w11.heap.size := Nat.lt_of_lt_of_le hs101 m11.1.size
    clear g70 g71 g72 g73
    clear m11 o11 X101 K3 K5 B101
    go_wp2_with fail
    refine (mark_cB (1 + AR.length + AL.length) (by omega) (by omega) AW _ AW.length (w4.heap.size + 1) _ hAW C5.out.1.2.2).mono ?_
    rintro r w111 ⟨rfl, o111, g111⟩
    have m111 : MidB (w4.heap.size + 1) w5.heap.size w11 w111 := MidB.grown g111 (by omega) (fun g e => ⟨(World.ownsRow.lt C5.out.1.2.2 g e).1, C5.out.2.1.2.2 g e⟩)
    have X111 : Hid (BxB w111 w.heap.size w3.heap.size w4.heap.size w5.heap.size (.cells #[.int .i64 M, .slice s R.length cs, .slice a L.length ca, .int .i64 G] 41) (.cells #[.int .i64 N, .slice a3 AR.length ca3, .slice b3 AL.length cb3, .int .i64 H] 26) (.cells #[.int .i64 M, .slice a4 R.length ca4, .slice b4 L.length cb4, .int .i64 G] 26) (.cells #[.int .i64 N, .slice a5 AR.length ca5, .slice b5 AL.length cb5, .int .i64 H] 26)) := X11.out.mid m111 (by omega) (by omega) (by omega) (by omega)
    have D3 : Hid (Own3 w111 w2.heap.size w3.heap.size (.slice a3 AR.length ca3) (.slice b3 AL.length cb3) (.slice c3 AW.length cc3) AR AL AW) := C3.out.low m111.1 (by omega)
    have D5 : Hid (Own3 w111 (w4.heap.size + 1) w5.heap.size (.slice a5 AR.length ca5) (.slice b5 AL.length cb5) (.slice c5 AW.length cc5) (mk2 AR 1 AR.length) (mk2 AL (1 + AR.length) AL.length) (mk2 AW (1 + AR.length + AL.length) AW.length)) := C5.out.turn2 g111 (by rw [mk2_len]; exact o111)
    have B111 : Hid (Below w.heap.size w w111) := B11.out.trans (m111.1.mono (by omega))
    have hs111 : w5.heap.size < w111.heap.size := Nat.lt_of_lt_of_le hs11 m111.1.size
    clear m111 o111 g111 X11 C3 C5 B11
    have g70 : w111.cell? ⟨w5.heap.size, 0, none⟩ = some (.int .i64 N) := cell_ofB X111.out.2.2.2 0
    have g71 : w111.cell? ⟨w5.heap.size, 1, none⟩ = some (.slice a5 AR.length ca5) := cell_ofB X111.out.2.2.2 1
    have g72 : w111.cell? ⟨w5.heap.size, 2, none⟩ = some (.slice b5 AL.length cb5) := cell_ofB X111.out.2.2.2 2
    have g73 : w111.cell? ⟨w5.heap.size, 3, none⟩ = some (.int .i64 H) := cell_ofB X111.out.2.2.2 3
    go_wp2_with fail
    refine (heldBuf_any N H 1 (by omega) (by omega) AR AL _ _ _ _ _ hAR hAL D5.out.at.1 D5.out.at.2.1).mono ?_
    rintro r w12 ⟨rfl, ehP⟩
    have XaP : Hid (BxB w12 w.heap.size w3.heap.size w4.heap.size w5.heap.size (.cells #[.int .i64 M, .slice s R.length cs, .slice a L.length ca, .int .i64 G] 41) (.cells #[.int .i64 N, .slice a3 AR.length ca3, .slice b3 AL.length cb3, .int .i64 H] 26) (.cells #[.int .i64 M, .slice a4 R.length ca4, .slice b4 L.length cb4, .int .i64 G] 26) (.cells #[.int .i64 N, .slice a5 AR.length ca5, .slice b5 AL.length cb5, .int .i64 H] 26)) := X111.out.keepB ehP
    have FaP : Hid (Own3 w12 w2.heap.size w3.heap.size (.slice a3 AR.length ca3) (.slice b3 AL.length cb3) (.slice c3 AW.length cc3) AR AL AW) := D3.out.keepB ehP
    have GaP : Hid (Own3 w12 (w4.heap.size + 1) w5.heap.size (.slice a5 AR.length ca5) (.slice b5 AL.length cb5) (.slice c5 AW.length cc5) (mk2 AR 1 AR.length) (mk2 AL (1 + AR.length) AL.length) (mk2 AW (1 + AR.length + AL.length) AW.length)) := D5.out.keepB ehP
    have BaP : Hid (Below w.heap.size w w12) := B111.out.trans (ehP.mono B111.out.size)
    clear g70 g71 g72 g73
    clear ehP X111 D3 D5 B111
    have hzhP : ¬ (1 + (AR.length : Int) + (AL.length : Int)) < 0 := by omega
    go_wp2_with fail
    refine (held_cB (1 + AR.length + AL.length) (by omega) (by omega) AW _ _ _ hAW GaP.out.at.2.2).mono ?_
    rintro r w121 ⟨rfl, eiP⟩
    have XbP : Hid (BxB w121 w.heap.size w3.heap.size w4.heap.size w5.heap.size (.cells #[.int .i64 M, .slice s R.length cs, .slice a L.length ca, .int .i64 G] 41) (.cells #[.int .i64 N, .slice a3 AR.length ca3, .slice b3 AL.length cb3, .int .i64 H] 26) (.cells #[.int .i64 M, .slice a4 R.length ca4, .slice b4 L.length cb4, .int .i64 G] 26) (.cells #[.int .i64 N, .slice a5 AR.length ca5, .slice b5 AL.length cb5, .int .i64 H] 26)) := XaP.out.keepB eiP
    have FbP : Hid (Own3 w121 w2.heap.size w3.heap.size (.slice a3 AR.length ca3) (.slice b3 AL.length cb3) (.slice c3 AW.length cc3) AR AL AW) := FaP.out.keepB eiP
    have GbP : Hid (Own3 w121 (w4.heap.size + 1) w5.heap.size (.slice a5 AR.length ca5) (.slice b5 AL.length cb5) (.slice c5 AW.length cc5) (mk2 AR 1 AR.length) (mk2 AL (1 + AR.length) AL.length) (mk2 AW (1 + AR.length + AL.length) AW.length)) := GaP.out.keepB eiP
    have BbP : Hid (Below w.heap.size w w121) := BaP.out.trans (eiP.mono BaP.out.size)
    clear eiP XaP FaP GaP BaP
    have hziP : ¬ (1 + (AR.length : Int) + (AL.length : Int) + (AW.length : Int)) < 0 := by omega
    have hzjP : ((1 + (AR.length : Int) + (AL.length : Int) + (AW.length : Int)) == (1 + (AR.length : Int) + (AL.length : Int) + (AW.length : Int))) = true := by simp
    have g10 : w121.cell? ⟨w.heap.size, 0, none⟩ = some (.int .i64 M) := cell_ofB XbP.out.1 0
    have g11 : w121.cell? ⟨w.heap.size, 1, none⟩ = some (.slice s R.length cs) := cell_ofB XbP.out.1 1
    have g12 : w121.cell? ⟨w.heap.size, 2, none⟩ = some (.slice a L.length ca) := cell_ofB XbP.out.1 2
    have g13 : w121.cell? ⟨w.heap.size, 3, none⟩ = some (.int .i64 G) := cell_ofB XbP.out.1 3
    go_wp2_with fail
    refine (toBuf_any M G R L s a cs ca _ hlR hlL (IntsAt.keepB HR.out BbP.out) (IntsAt.keepB HL.out BbP.out)).mono ?_
    rintro r w13 ⟨a13, b13, ca13, cb13, rfl, o13, e13⟩
    have JR13 : Hid (Sl w13 a13 ca13 R) := Sl.of_own o13.1.1
    have JL13 : Hid (Sl w13 b13 cb13 L) := Sl.of_own o13.1.2.1
    have X13 : Hid (BxB w13 w.heap.size w3.heap.size w4.heap.size w5.heap.size (.cells #[.int .i64 M, .slice s R.length cs, .slice a L.length ca, .int .i64 G] 41) (.cells #[.int .i64 N, .slice a3 AR.length ca3, .slice b3 AL.length cb3, .int .i64 H] 26) (.cells #[.int .i64 M, .slice a4 R.length ca4, .slice b4 L.length cb4, .int .i64 G] 26) (.cells #[.int .i64 N, .slice a5 AR.length ca5, .slice b5 AL.length cb5, .int .i64 H] 26)) := XbP.out.keepB e13
    have M3 : Hid (Own3 w13 w2.heap.size w3.heap.size (.slice a3 AR.length ca3) (.slice b3 AL.length cb3) (.slice c3 AW.length cc3) AR AL AW) := FbP.out.keepB e13
    have M5 : Hid (Own3 w13 (w4.heap.size + 1) w5.heap.size (.slice a5 AR.length ca5) (.slice b5 AL.length cb5) (.slice c5 AW.length cc5) (mk2 AR 1 AR.length) (mk2 AL (1 + AR.length) AL.length) (mk2 AW (1 + AR.length + AL.length) AW.length)) := GbP.out.keepB e13
    have B13 : Hid (Below w.heap.size w w13) := BbP.out.trans (e13.mono BbP.out.size)
    clear g10 g11 g12 g13
    clear e13 o13 XbP FbP GbP BbP
    go_wp2_with fail
    refine Calls.mono (HIM.out _ _ _ _ _ JR13.out JL13.out) ?_
    rintro r w14 ⟨v0, v1, v2, rfl, o14, e14⟩
    obtain ⟨a14, b14, c14, ca14, cb14, cc14, rfl, rfl, rfl⟩ := o14.form
    have AL14 : ∀ o, Below w14.heap.size w14 (w14.alloc o) := fun o => (Below.refl _ _).alloc (Nat.le_refl _) o
    have JA14 : Hid (∀ o, IntsAt (w14.alloc o) a14 AR ∧ IntsAt (w14.alloc o) b14 AL ∧ IntsAt (w14.alloc o) c14 AW) := fun o => ⟨IntsAt.keepB o14.at.1 (AL14 o), IntsAt.keepB o14.at.2.1 (AL14 o), IntsAt.keepB o14.at.2.2 (AL14 o)⟩
    have X14 : Hid (∀ o, BxB (w14.alloc o) w.heap.size w3.heap.size w4.heap.size w5.heap.size (.cells #[.int .i64 M, .slice s R.length cs, .slice a L.length ca, .int .i64 G] 41) (.cells #[.int .i64 N, .slice a3 AR.length ca3, .slice b3 AL.length cb3, .int .i64 H] 26) (.cells #[.int .i64 M, .slice a4 R.length ca4, .slice b4 L.length cb4, .int .i64 G] 26) (.cells #[.int .i64 N, .slice a5 AR.length ca5, .slice b5 AL.length cb5, .int .i64 H] 26)) := fun o => (X13.out.keepB e14).keepB (AL14 o)
    have N3 : Hid (∀ o, Own3 (w14.alloc o) w2.heap.size w3.heap.size (.slice a3 AR.length ca3) (.slice b3 AL.length cb3) (.slice c3 AW.length cc3) AR AL AW) := fun o => (M3.out.keepB e14).keepB (AL14 o)
    have N5 : Hid (∀ o, Own3 (w14.alloc o) (w4.heap.size + 1) w5.heap.size (.slice a5 AR.length ca5) (.slice b5 AL.length cb5) (.slice c5 AW.length cc5) (mk2 AR 1 AR.length) (mk2 AL (1 + AR.length) AL.length) (mk2 AW (1 + AR.length + AL.length) AW.length)) := fun o => (M5.out.keepB e14).keepB (AL14 o)
    have B14 : Hid (∀ o, Below w.heap.size w (w14.alloc o)) := fun o => (B13.out.trans (e14.mono B13.out.size)).trans ((AL14 o).mono (B13.out.trans (e14.mono B13.out.size)).size)
    have hs14 : w3.heap.size < w14.heap.size := by have := (Array.getElem?_eq_some_iff.1 (X13.out.keepB e14).2.1).1; exact this
    have hne14 : ¬ w3.heap.size = w14.heap.size := by omega
    have hne14' : ¬ w14.heap.size = w3.heap.size := by omega
    have k40 : ∀ o, (w14.alloc o).cell? ⟨w3.heap.size, 0, none⟩ = some (.int .i64 N) := fun o => cell_ofB (X14.out o).2.1 0
    have k41 : ∀ o, (w14.alloc o).cell? ⟨w3.heap.size, 1, none⟩ = some (.slice a3 AR.length ca3) := fun o => cell_ofB (X14.out o).2.1 1
    have k42 : ∀ o, (w14.alloc o).cell? ⟨w3.heap.size, 2, none⟩ = some (.slice b3 AL.length cb3) := fun o => cell_ofB (X14.out o).2.1 2
    have k43 : ∀ o, (w14.alloc o).cell? ⟨w3.heap.size, 3, none⟩ = some (.int .i64 H) := fun o => cell_ofB (X14.out o).2.1 3
    clear e14 o14 X13 M3 M5 B13 JR13 JL13
    go_wp2_with fail
    refine (eqBuf_any N H AR AL _ _ _ _ _ _ _ _ _ hAR hAL (JA14.out _).1 (JA14.out _).2.1 (N3.out _).at.1 (N3.out _).at.2.1).mono ?_
    rintro r w15 ⟨rfl, e15⟩
    have X15 : Hid (BxB w15 w.heap.size w3.heap.size w4.heap.size w5.heap.size (.cells #[.int .i64 M, .slice s R.length cs, .slice a L.length ca, .int .i64 G] 41) (.cells #[.int .i64 N, .slice a3 AR.length ca3, .slice b3 AL.length cb3, .int .i64 H] 26) (.cells #[.int .i64 M, .slice a4 R.length ca4, .slice b4 L.length cb4, .int .i64 G] 26) (.cells #[.int .i64 N, .slice a5 AR.length ca5, .slice b5 AL.length cb5, .int .i64 H] 26)) := (X14.out _).keepB e15
    have R3 : Hid (Own3 w15 w2.heap.size w3.heap.size (.slice a3 AR.length ca3) (.slice b3 AL.length cb3) (.slice c3 AW.length cc3) AR AL AW) := (N3.out _).keepB e15
    have R5 : Hid (Own3 w15 (w4.heap.size + 1) w5.heap.size (.slice a5 AR.length ca5) (.slice b5 AL.length cb5) (.slice c5 AW.length cc5) (mk2 AR 1 AR.length) (mk2 AL (1 + AR.length) AL.length) (mk2 AW (1 + AR.length + AL.length) AW.length)) := (N5.out _).keepB e15
    have J15 : Hid (IntsAt w15 c14 AW) := IntsAt.keepB (JA14.out _).2.2 e15
    have B15 : Hid (Below w.heap.size w w15) := (B14.out _).trans (e15.mono (B14.out _).size)
    clear e15 k40 k41 k42 k43 X14 N3 N5 B14 JA14 AL14 hne14 hne14'
    go_wp2_with fail
    refine (eq_any AW _ _ _ _ _ hAW J15.out R3.out.at.2.2).mono ?_
    rintro r w151 ⟨rfl, e151⟩
    have X151 : Hid (BxB w151 w.heap.size w3.heap.size w4.heap.size w5.heap.size (.cells #[.int .i64 M, .slice s R.length cs, .slice a L.length ca, .int .i64 G] 41) (.cells #[.int .i64 N, .slice a3 AR.length ca3, .slice b3 AL.length cb3, .int .i64 H] 26) (.cells #[.int .i64 M, .slice a4 R.length ca4, .slice b4 L.length cb4, .int .i64 G] 26) (.cells #[.int .i64 N, .slice a5 AR.length ca5, .slice b5 AL.length cb5, .int .i64 H] 26)) := X15.out.keepB e151
    have S3 : Hid (Own3 w151 w2.heap.size w3.heap.size (.slice a3 AR.length ca3) (.slice b3 AL.length cb3) (.slice c3 AW.length cc3) AR AL AW) := R3.out.keepB e151
    have S5 : Hid (Own3 w151 (w4.heap.size + 1) w5.heap.size (.slice a5 AR.length ca5) (.slice b5 AL.length cb5) (.slice c5 AW.length cc5) (mk2 AR 1 AR.length) (mk2 AL (1 + AR.length) AL.length) (mk2 AW (1 + AR.length + AL.length) AW.length)) := R5.out.keepB e151
    have B151 : Hid (Below w.heap.size w w151) := B15.out.trans (e151.mono B15.out.size)
    clear e151 X15 R3 R5 B15 J15
    have g70 : w151.cell? ⟨w5.heap.size, 0, none⟩ = some (.int .i64 N) := cell_ofB X151.out.2.2.2 0
    have g71 : w151.cell? ⟨w5.heap.size, 1, none⟩ = some (.slice a5 AR.length ca5) := cell_ofB X151.out.2.2.2 1
    have g72 : w151.cell? ⟨w5.heap.size, 2, none⟩ = some (.slice b5 AL.length cb5) := cell_ofB X151.out.2.2.2 2
    have g73 : w151.cell? ⟨w5.heap.size, 3, none⟩ = some (.int .i64 H) := cell_ofB X151.out.2.2.2 3
    go_wp2_with fail
    refine (heldBuf_any N H 1 (by omega) (by omega) AR AL _ _ _ _ _ hAR hAL S5.out.at.1 S5.out.at.2.1).mono ?_
    rintro r w16 ⟨rfl, ehQ⟩
    have XaQ : Hid (BxB w16 w.heap.size w3.heap.size w4.heap.size w5.heap.size (.cells #[.int .i64 M, .slice s R.length cs, .slice a L.length ca, .int .i64 G] 41) (.cells #[.int .i64 N, .slice a3 AR.length ca3, .slice b3 AL.length cb3, .int .i64 H] 26) (.cells #[.int .i64 M, .slice a4 R.length ca4, .slice b4 L.length cb4, .int .i64 G] 26) (.cells #[.int .i64 N, .slice a5 AR.length ca5, .slice b5 AL.length cb5, .int .i64 H] 26)) := X151.out.keepB ehQ
    have FaQ : Hid (Own3 w16 w2.heap.size w3.heap.size (.slice a3 AR.length ca3) (.slice b3 AL.length cb3) (.slice c3 AW.length cc3) AR AL AW) := S3.out.keepB ehQ
    have GaQ : Hid (Own3 w16 (w4.heap.size + 1) w5.heap.size (.slice a5 AR.length ca5) (.slice b5 AL.length cb5) (.slice c5 AW.length cc5) (mk2 AR 1 AR.length) (mk2 AL (1 + AR.length) AL.length) (mk2 AW (1 + AR.length + AL.length) AW.length)) := S5.out.keepB ehQ
    have BaQ : Hid (Below w.heap.size w w16) := B151.out.trans (ehQ.mono B151.out.size)
    clear g70 g71 g72 g73
    clear ehQ X151 S3 S5 B151
    have hzhQ : ¬ (1 + (AR.length : Int) + (AL.length : Int)) < 0 := by omega
    go_wp2_with fail
    refine (held_cB (1 + AR.length + AL.length) (by omega) (by omega) AW _ _ _ hAW GaQ.out.at.2.2).mono ?_
    rintro r w161 ⟨rfl, eiQ⟩
    have XbQ : Hid (BxB w161 w.heap.size w3.heap.size w4.heap.size w5.heap.size (.cells #[.int .i64 M, .slice s R.length cs, .slice a L.length ca, .int .i64 G] 41) (.cells #[.int .i64 N, .slice a3 AR.length ca3, .slice b3 AL.length cb3, .int .i64 H] 26) (.cells #[.int .i64 M, .slice a4 R.length ca4, .slice b4 L.length cb4, .int .i64 G] 26) (.cells #[.int .i64 N, .slice a5 AR.length ca5, .slice b5 AL.length cb5, .int .i64 H] 26)) := XaQ.out.keepB eiQ
    have FbQ : Hid (Own3 w161 w2.heap.size w3.heap.size (.slice a3 AR.length ca3) (.slice b3 AL.length cb3) (.slice c3 AW.length cc3) AR AL AW) := FaQ.out.keepB eiQ
    have GbQ : Hid (Own3 w161 (w4.heap.size + 1) w5.heap.size (.slice a5 AR.length ca5) (.slice b5 AL.length cb5) (.slice c5 AW.length cc5) (mk2 AR 1 AR.length) (mk2 AL (1 + AR.length) AL.length) (mk2 AW (1 + AR.length + AL.length) AW.length)) := GaQ.out.keepB eiQ
    have BbQ : Hid (Below w.heap.size w w161) := BaQ.out.trans (eiQ.mono BaQ.out.size)
    clear eiQ XaQ FaQ GaQ BaQ
    have hziQ : ¬ (1 + (AR.length : Int) + (AL.length : Int) + (AW.length : Int)) < 0 := by omega
    have hzjQ : ((1 + (AR.length : Int) + (AL.length : Int) + (AW.length : Int)) == (1 + (AR.length : Int) + (AL.length : Int) + (AW.length : Int))) = true := by simp
    go_wp2
    go_ret
    exact ⟨rfl, BbQ.out⟩
set_option maxRecDepth 100000 in
set_option maxHeartbeats 1000000 in
theorem walk (M G : Int) (R L : List Int) (s a : Option Addr) (cs ca : Nat) (K : Int) (w : World) (iR : IntsAt w s R) (iL : IntsAt w a L) (hR : R.length ≤ maxLen) (hL : L.length ≤ maxLen) :
    Calls Try.prog 6 #[bufV M G s a R.length L.length cs ca, .int .i64 K] w fun r w' => r = .returned (.bool true) ∧ Below w.heap.size w w' := by
  by_cases hS : R.length + L.length ≤ 1048576
  · cases hg : goodBf M G R L
    · exact core M G K R L 0 0 [] [] [] false s a cs ca w hS (by simp) (by simp) (by simp) iR iL (fun s a cs ca w h1 h2 => sTake_bad M G R L s a cs ca K w (by omega) (by omega) h1.2.2 h2.2.2 hg) (fun s a cs ca w h1 h2 => iTake_bad M G R L s a cs ca K w (by omega) (by omega) h1.2.2 h2.2.2 hg)
    · by_cases hk : 0 ≤ K ∧ K ≤ R.length
      · obtain ⟨k, rfl⟩ : ∃ k : Nat, K = k := ⟨K.toNat, by omega⟩
        have hk' : k ≤ R.length := by omega
        by_cases hs : G + sumL (L.take k) ≤ 1000000
        · exact core M G k R L M (G + sumL (L.take k)) (R.drop k) (L.drop k) (R.take k) true s a cs ca w hS (by rw [List.length_drop]; omega) (by rw [List.length_drop]; omega) (Nat.le_trans (List.length_take_le' ..) (by omega)) iR iL (fun s a cs ca w h1 h2 => sTake_yes M G R L s a cs ca k w (by omega) (by omega) h1 h2 hg hk' hs) (fun s a cs ca w h1 h2 => iTake_yes M G R L s a cs ca k w (by omega) (by omega) h1.2.2 h2.2.2 hg hk' hs)
        · exact core M G k R L 0 0 [] [] [] false s a cs ca w hS (by simp) (by simp) (by simp) iR iL (fun s a cs ca w h1 h2 => sTake_full M G R L s a cs ca k w (by omega) (by omega) h1 h2 hg hk' hs) (fun s a cs ca w h1 h2 => iTake_full M G R L s a cs ca k w (by omega) (by omega) h1.2.2 h2.2.2 hg hk' hs)
      · exact core M G K R L 0 0 [] [] [] false s a cs ca w hS (by simp) (by simp) (by simp) iR iL (fun s a cs ca w h1 h2 => sTake_none M G R L s a cs ca K w (by omega) (by omega) h1.2.2 h2.2.2 hg hk) (fun s a cs ca w h1 h2 => iTake_none M G R L s a cs ca K w (by omega) (by omega) h1.2.2 h2.2.2 hg hk)
  · have A1 : ∀ o, Below w.heap.size w (w.alloc o) := fun o => (Below.refl _ _).alloc (Nat.le_refl _) o
    have HSZ : Hid _ := fun o => szBuf_any M G R L s a cs ca (w.alloc o) hR hL
    clear iR iL hR hL
    unfold bufV
    go_enter Try.func6, Try.ntmps6
    go_wp2_with fail
    refine Calls.mono (HSZ.out _) ?_
    rintro r w1 ⟨hs, b1⟩
    have B1 : Hid (Below w.heap.size w w1) := (A1 _).trans (b1.mono (by simp))
    obtain rfl : r = .returned (.int .i64 (-1)) := by
      rcases hs with ⟨h, -⟩ | ⟨-, h⟩
      · exact absurd h hS
      · exact h
    clear b1 hs HSZ
    go_wp2
    go_ret
    exact ⟨rfl, B1.out⟩
set_option maxRecDepth 100000 in
theorem lifted (os : Os) (started : os.Started) (H : Type) (enc : TypeId × Value → H) :
    ReturnsInHanded {} Try.checked os 6 .any (Rows.fnExactTakeBufSpec.pre6 enc Try.prog Try.f6 Rows.fnExactTakeBufRow.domain false) (Rows.fnExactTakeBufSpec.post enc Try.prog Try.f6 false true false false) := by
  refine returnsInHanded_of_change (C := Try.checked) own started (by kernel_rfl) Try.func6
    (ChangeSpec.witness6 (enc := enc) (C := Try.checked) false ⟨#[], #[.agg #[.int .i64 0, .slice none 0 0, .slice none 0 0, .int .i64 0], .int .i64 0], []⟩ 8 (by kernel_rfl) (by kernel_rfl) (by kernel_rfl) (by kernel_rfl)) ?_
  intro W base args ds gs before hval0 hW hcnd _
  have hval : ∀ (j : Nat) t v, Try.f6.params[j]? = some t → args[j]? = some v → Value.okWide Try.prog W .any base t v := hval0
  have hW' := hW
  obtain ⟨p, q, hA0, hV, rfl, hfz, hnd⟩ := hW
  have hA : DataW.TrodAll enc Try.prog W 0 (fun _ => true) true Try.f6.params.toList args.toList ds p := hA0
  rw [Try.params6] at hA hval
  obtain ⟨v0, vs0, d0, ds0, p0, q0, hargs0, rfl, rfl, h0, r0⟩ := trodAll_cons hA
  obtain ⟨v1, vs1, d1, ds1, p1, q1, hargs1, rfl, rfl, h1, r1⟩ := trodAll_cons r0
  obtain ⟨rfl, rfl, rfl⟩ := trodAll_nil r1
  obtain rfl : args = #[v0, v1] := by cases args; simp_all
  obtain ⟨rfl, rfl⟩ := trodVars_none hV
  have k0 := h0
  have lt0 : ∀ x ∈ p0, x.block < W.heap.size := by obtain ⟨m, hm⟩ := k0; exact DataW.trod_lt m _ _ _ hm
  obtain ⟨M, G, R, L, s, a, cs, ca, rfl, iR, iL, hR, hL⟩ := open_buf (hval 0 41 v0 rfl rfl) h0
  obtain ⟨a1, rfl, rfl, rfl, w1⟩ := open_int Try.underlying3 (hval 1 3 v1 rfl rfl) h1
  clear hA0 hval0
  refine (walk M G R L s a cs ca a1 W iR iL hR hL ).mono fun e W' ⟨he, bel⟩ => ?_
  subst he
  exact ⟨_, rfl, _, _, _, [], _, [], hW', trodAll_mk1 (shut_bool Try.underlying4 _), trodAll_cons_mk (Below.trod laidOut (by kernel_rfl) (of_decide_eq_true (by kernel_rfl)) k0 bel lt0) (trodAll_cons_mk (shut_int Try.underlying3 w1) trodAll_mk0), rfl, bel.frame _, fun h => by cases h⟩
theorem row : Rows.FnExactTakeBufSaid :=
  OpenClaim.holds_of_wide 6 Try.f6 rfl rfl rfl rfl rfl rfl rfl ⟨rfl, rfl, rfl, rfl, rfl⟩ rfl rfl rfl rfl rfl (by kernel_rfl) Try.func6 (by kernel_rfl)
    (of_decide_eq_true (by kernel_rfl)) (by unfold Func.isWrapper; first | (rw [if_pos (by decide +kernel)]; kernel_rfl) | (rw [if_neg (by decide +kernel)]; exact ⟨rfl, rfl⟩))
    (fun os started H enc _ => lifted os started H enc)
end LawTakeBuf
theorem takeBuf_holds : Rows.FnExactTakeBufSaid := LawTakeBuf.row
#print axioms takeBuf_holds
end Go.Proofs.Ytklgagonbehpeaa
