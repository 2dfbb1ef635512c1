/-
  For every machine of states, laws.FnExactNotDfa returns true: impl.NotDfa answers as the specification's NotDfa, machine and flag, in memory of its own that a second call leaves alone, and leaves the machine as it was. No conditions.
-/
import Derived.Test.YtnlccplpcbdmnaaM6J
import Derived.Test.YtnlccplpcbdmnaaM6L
import Derived.Deep.RegionHeld
namespace Go.Proofs.Ytnlccplpcbdmnaa
open Go.ChangeShapes Go.WideShapes Go.ChangeAt Go.WideMaps Go.WideElems Go.RowKit
namespace LawNotDfa
theorem own : ownKnob Try.prog.godebug = none := by kernel_rfl
theorem laidOut : laidOutB Try.prog = true := by kernel_rfl
set_option maxRecDepth 100000 in
set_option maxHeartbeats 8000000 in
theorem core (C : List Int) (R : Rw) (F : List Bool) (GC : List Int) (GR : Rw) (GF : List Bool) (f : Bool) (a b e : Option Addr) (ca cb ce : Nat) (w : World) (hS : szD C R F ≤ 1048576) (hGS : szD GC GR GF ≤ 1048576) (hA : IntsAt w a C) (hB : RowsAt w b R) (hE : FlagsAt w e F) (hC : C.length ≤ maxLen) (hR : R.length ≤ maxLen) (hx : ∀ y ∈ R, y.length ≤ maxLen) (hF : F.length ≤ maxLen)
    (SP : ∀ (a b e : Option Addr) (ca cb ce : Nat) (w : World), IntsAt w a C → RowsAt w b R → FlagsAt w e F → Calls Try.prog 17 #[.agg #[.slice a C.length ca, .slice b R.length cb, .slice e F.length ce]] w fun r w' => ∃ v0 v1 v2, r = .returned (.tuple #[.agg #[v0, v1, v2], .bool f]) ∧ OwnD w' w.heap.size v0 v1 v2 GC GR.length (rw_ GR) GF ∧ Below w.heap.size w w')
    (IM : ∀ (a b e : Option Addr) (ca cb ce : Nat) (w : World), IntsAt w a C → RowsAt w b R → FlagsAt w e F → Calls Try.prog 18 #[.agg #[.slice a C.length ca, .slice b R.length cb, .slice e F.length ce]] w fun r w' => ∃ v0 v1 v2, r = .returned (.tuple #[.agg #[v0, v1, v2], .bool f]) ∧ OwnD w' w.heap.size v0 v1 v2 GC GR.length (rw_ GR) GF ∧ Below w.heap.size w w') :
    Calls Try.prog 5 #[dfaV a b e C.length R.length F.length ca cb ce] w fun r w' => r = .returned (.bool true) ∧ Below w.heap.size w w' := by
  have HA : Hid _ := hA
  have HB : Hid _ := hB
  have HE : Hid _ := hE
  have HSP : Hid _ := SP
  have HIM : Hid _ := IM
  have HS : Hid (szD C R F ≤ 1048576) := hS
  have HGS : Hid (szD GC GR GF ≤ 1048576) := hGS
  have A1 : ∀ o, Below w.heap.size w (w.alloc o) := fun o => (Below.refl _ _).alloc (Nat.le_refl _) o
  have HSZ : Hid _ := fun o => szDfa_any C R F a b e ca cb ce (w.alloc o) hC hR hx hF (RowsAt.keepB hB (A1 o))
  have hcm : (cntM GC GR GF : Int) ≤ 1048576 := by have := cntM_le GC GR GF; omega
  have hcx : (cntM C R F : Int) ≤ 1048576 := by have := cntM_le C R F; omega
  clear hA hB hE hC hR hx hF SP IM hGS
  unfold dfaV
  go_enter Try.func5, Try.ntmps5
  go_wp2_with fail
  refine Calls.mono (HSZ.out _) ?_
  rintro r w1 ⟨hs, b1⟩
  have hbl1 : w1.heap[w.heap.size]? = some (.cells #[.slice a C.length ca, .slice b R.length cb, .slice e F.length ce] 26) := (b1.block w.heap.size (by simp)).trans (heap_last2 _ _ _ rfl)
  have hs1 : w.heap.size < w1.heap.size := Nat.lt_of_lt_of_le (by simp) b1.size
  have B1 : Hid (Below w.heap.size w w1) := (A1 _).trans (b1.mono (by simp))
  clear b1 HSZ
  obtain rfl : r = .returned (.int .i64 (1048576 - szD C R F)) := by
    rcases hs with ⟨-, h⟩ | ⟨h, -⟩
    · exact h
    · omega
  clear hs
  have hz : ¬ (1048576 : Int) - (szD C R F : Int) < 0 := by omega
  clear hS
  generalize szD C R F = z at hz
  have g10 : w1.cell? ⟨w.heap.size, 0, none⟩ = some (.slice a C.length ca) := cell_of hbl1 0
  have g11 : w1.cell? ⟨w.heap.size, 1, none⟩ = some (.slice b R.length cb) := cell_of hbl1 1
  have g12 : w1.cell? ⟨w.heap.size, 2, none⟩ = some (.slice e F.length ce) := cell_of hbl1 2
  go_wp2_with fail
  refine (toDfa_any C R F a b e ca cb ce _ HS.out (IntsAt.keepB HA.out B1.out) (RowsAt.keepB HB.out B1.out) (FlagsAt.keepB HE.out B1.out)).mono ?_
  rintro r w2 ⟨v0, v1, v2, rfl, D2, b2⟩
  obtain ⟨a2, p2, e2, ca2, cp2, ce2, rfl, rfl, rfl, IA2, IB2, IE2⟩ := D2.form
  have JA2 : Hid _ := IA2
  have JB2 : Hid _ := IB2
  have JE2 : Hid _ := IE2
  have hbl2 := (b2.block w.heap.size hs1).trans hbl1
  have hs2 : w.heap.size < w2.heap.size := Nat.lt_of_lt_of_le hs1 b2.size
  have B2 : Hid (Below w.heap.size w w2) := B1.out.trans (b2.mono B1.out.size)
  clear b2 D2 IA2 IB2 IE2 g10 g11 g12 hbl1 B1
  go_wp2_with fail
  refine Calls.mono (HSP.out _ _ _ _ _ _ _ JA2.out JB2.out JE2.out) ?_
  rintro r w3 ⟨v0, v1, v2, rfl, D3, b3⟩
  obtain ⟨a3, p3, e3, ca3, cp3, ce3, rfl, rfl, rfl, -, -, -⟩ := D3.form
  obtain ⟨Q3, q3⟩ := D3.q
  have O3 : Hid (OwnQ w3 w2.heap.size w3.heap.size (.slice a3 GC.length ca3) (.slice p3 GR.length cp3) (.slice e3 GF.length ce3) Q3 GC GR.length (rw_ GR) GF) := q3
  have hbl3 := (b3.block w.heap.size hs2).trans hbl2
  have hs3 : w.heap.size < w3.heap.size := Nat.lt_of_lt_of_le hs2 b3.size
  have B3 : Hid (Below w.heap.size w w3) := B2.out.trans (b3.mono B2.out.size)
  clear b3 D3 q3 hbl2 JA2 JB2 JE2 B2
  have AL3 : ∀ o, Below w3.heap.size w3 (w3.alloc o) := fun o => (Below.refl _ _).alloc (Nat.le_refl _) o
  have hne3 : ¬ w.heap.size = w3.heap.size := by omega
  have hne3' : ¬ w3.heap.size = w.heap.size := by omega
  have g30 : ∀ o, (w3.alloc o).cell? ⟨w.heap.size, 0, none⟩ = some (.slice a C.length ca) := fun o => cell_of (((AL3 o).block _ hs3).trans hbl3) 0
  have g31 : ∀ o, (w3.alloc o).cell? ⟨w.heap.size, 1, none⟩ = some (.slice b R.length cb) := fun o => cell_of (((AL3 o).block _ hs3).trans hbl3) 1
  have g32 : ∀ o, (w3.alloc o).cell? ⟨w.heap.size, 2, none⟩ = some (.slice e F.length ce) := fun o => cell_of (((AL3 o).block _ hs3).trans hbl3) 2
  have B3a : Hid (∀ o, Below w.heap.size w (w3.alloc o)) := fun o => B3.out.trans ((AL3 o).mono B3.out.size)
  go_wp2_with fail
  refine (toDfa_any C R F a b e ca cb ce _ HS.out (IntsAt.keepB HA.out (B3a.out _)) (RowsAt.keepB HB.out (B3a.out _)) (FlagsAt.keepB HE.out (B3a.out _))).mono ?_
  rintro r w4 ⟨v0, v1, v2, rfl, D4, b4⟩
  obtain ⟨a4, p4, e4, ca4, cp4, ce4, rfl, rfl, rfl, IA4, IB4, IE4⟩ := D4.form
  obtain ⟨Q4, q4⟩ := D4.q
  have O4 : Hid (OwnQ w4 (w3.heap.size + 1) w4.heap.size (.slice a4 C.length ca4) (.slice p4 R.length cp4) (.slice e4 F.length ce4) Q4 C R.length (rw_ R) F) := by have hq := q4; simp only [World.alloc, Array.size_push] at hq; exact hq
  have hs4 : w3.heap.size < w4.heap.size := Nat.lt_of_lt_of_le (by simp) b4.size
  have hbl4 := (b4.block w.heap.size (by simp; omega)).trans (((AL3 _).block w.heap.size hs3).trans hbl3)
  have hb44 : w4.heap[w3.heap.size]? = some (.cells #[.slice a3 GC.length ca3, .slice p3 GR.length cp3, .slice e3 GF.length ce3] 29) := (b4.block w3.heap.size (by simp)).trans (heap_last2 _ _ _ rfl)
  have O3b : Hid (OwnQ w4 w2.heap.size w3.heap.size (.slice a3 GC.length ca3) (.slice p3 GR.length cp3) (.slice e3 GF.length ce3) Q3 GC GR.length (rw_ GR) GF) := (O3.out.keepB (AL3 _)).keepB b4
  have B4 : Hid (Below w.heap.size w w4) := (B3a.out _).trans (b4.mono (B3a.out _).size)
  have AL4 : ∀ o, Below w4.heap.size w4 (w4.alloc o) := fun o => (Below.refl _ _).alloc (Nat.le_refl _) o
  have JA4 : Hid (∀ o, IntsAt (w4.alloc o) a4 C) := fun o => IntsAt.keepB IA4 (AL4 o)
  have JB4 : Hid (∀ o, RowsAt (w4.alloc o) p4 R) := fun o => RowsAt.keepB IB4 (AL4 o)
  have JE4 : Hid (∀ o, FlagsAt (w4.alloc o) e4 F) := fun o => FlagsAt.keepB IE4 (AL4 o)
  clear b4 D4 q4 IA4 IB4 IE4 g30 g31 g32 hbl3 B3 B3a O3 AL3 hne3 hne3'
  go_wp2_with fail
  refine Calls.mono (HIM.out _ _ _ _ _ _ _ (JA4.out _) (JB4.out _) (JE4.out _)) ?_
  rintro r w5 ⟨v0, v1, v2, rfl, D5, b5⟩
  obtain ⟨a5, p5, e5, ca5, cp5, ce5, rfl, rfl, rfl, -, -, -⟩ := D5.form
  obtain ⟨Q5, q5⟩ := D5.q
  have O5 : Hid (OwnQ w5 (w4.heap.size + 1) w5.heap.size (.slice a5 GC.length ca5) (.slice p5 GR.length cp5) (.slice e5 GF.length ce5) Q5 GC GR.length (rw_ GR) GF) := by have hq := q5; simp only [World.alloc, Array.size_push] at hq; exact hq
  have hs5 : w4.heap.size < w5.heap.size := Nat.lt_of_lt_of_le (by simp) b5.size
  have hk1 := (b5.block w.heap.size (by simp; omega)).trans (((AL4 _).block w.heap.size (by omega)).trans hbl4)
  have hk4 := (b5.block w3.heap.size (by simp; omega)).trans (((AL4 _).block w3.heap.size hs4).trans hb44)
  have hk6 : w5.heap[w4.heap.size]? = some (.cells #[.slice a4 C.length ca4, .slice p4 R.length cp4, .slice e4 F.length ce4] 29) := (b5.block w4.heap.size (by simp)).trans (heap_last2 _ _ _ rfl)
  have P3 : Hid (OwnQ w5 w2.heap.size w3.heap.size (.slice a3 GC.length ca3) (.slice p3 GR.length cp3) (.slice e3 GF.length ce3) Q3 GC GR.length (rw_ GR) GF) := (O3b.out.keepB (AL4 _)).keepB b5
  have P4 : Hid (OwnQ w5 (w3.heap.size + 1) w4.heap.size (.slice a4 C.length ca4) (.slice p4 R.length cp4) (.slice e4 F.length ce4) Q4 C R.length (rw_ R) F) := (O4.out.keepB (AL4 _)).keepB b5
  have B5 : Hid (Below w.heap.size w w5) := (B4.out.trans ((AL4 _).mono B4.out.size)).trans (b5.mono (B4.out.trans ((AL4 _).mono B4.out.size)).size)
  have AL5 : ∀ o, Below w5.heap.size w5 (w5.alloc o) := fun o => (Below.refl _ _).alloc (Nat.le_refl _) o
  have X5 : Hid (Bx (w5.alloc (.cells #[.slice a5 GC.length ca5, .slice p5 GR.length cp5, .slice e5 GF.length ce5] 29)) w.heap.size w3.heap.size w4.heap.size w5.heap.size (.cells #[.slice a C.length ca, .slice b R.length cb, .slice e F.length ce] 26) (.cells #[.slice a3 GC.length ca3, .slice p3 GR.length cp3, .slice e3 GF.length ce3] 29) (.cells #[.slice a4 C.length ca4, .slice p4 R.length cp4, .slice e4 F.length ce4] 29) (.cells #[.slice a5 GC.length ca5, .slice p5 GR.length cp5, .slice e5 GF.length ce5] 29)) := ⟨((AL5 _).block _ (by omega)).trans hk1, ((AL5 _).block _ (by omega)).trans hk4, ((AL5 _).block _ hs5).trans hk6, heap_last2 _ _ _ rfl⟩
  have T3 : Hid (OwnQ (w5.alloc (.cells #[.slice a5 GC.length ca5, .slice p5 GR.length cp5, .slice e5 GF.length ce5] 29)) w2.heap.size w3.heap.size (.slice a3 GC.length ca3) (.slice p3 GR.length cp3) (.slice e3 GF.length ce3) Q3 GC GR.length (rw_ GR) GF) := P3.out.keepB (AL5 _)
  have T4 : Hid (OwnQ (w5.alloc (.cells #[.slice a5 GC.length ca5, .slice p5 GR.length cp5, .slice e5 GF.length ce5] 29)) (w3.heap.size + 1) w4.heap.size (.slice a4 C.length ca4) (.slice p4 R.length cp4) (.slice e4 F.length ce4) Q4 C R.length (rw_ R) F) := P4.out.keepB (AL5 _)
  have T5 : Hid (OwnQ (w5.alloc (.cells #[.slice a5 GC.length ca5, .slice p5 GR.length cp5, .slice e5 GF.length ce5] 29)) (w4.heap.size + 1) w5.heap.size (.slice a5 GC.length ca5) (.slice p5 GR.length cp5) (.slice e5 GF.length ce5) Q5 GC GR.length (rw_ GR) GF) := O5.out.keepB (AL5 _)
  have BB5 : Hid (Below w.heap.size w (w5.alloc (.cells #[.slice a5 GC.length ca5, .slice p5 GR.length cp5, .slice e5 GF.length ce5] 29))) := B5.out.trans ((AL5 _).mono B5.out.size)
  have hne5 : ¬ w3.heap.size = w5.heap.size := by omega
  have hne5' : ¬ w5.heap.size = w3.heap.size := by omega
  clear b5 D5 q5 hbl4 hb44 hk1 hk4 hk6 O3b O4 O5 P3 P4 B4 B5 JA4 JB4 JE4 AL4 AL5
  have g70 : (w5.alloc (.cells #[.slice a5 GC.length ca5, .slice p5 GR.length cp5, .slice e5 GF.length ce5] 29)).cell? ⟨w5.heap.size, 0, none⟩ = some (.slice a5 GC.length ca5) := cell_of X5.out.2.2.2 0
  have g71 : (w5.alloc (.cells #[.slice a5 GC.length ca5, .slice p5 GR.length cp5, .slice e5 GF.length ce5] 29)).cell? ⟨w5.heap.size, 1, none⟩ = some (.slice p5 GR.length cp5) := cell_of X5.out.2.2.2 1
  have g72 : (w5.alloc (.cells #[.slice a5 GC.length ca5, .slice p5 GR.length cp5, .slice e5 GF.length ce5] 29)).cell? ⟨w5.heap.size, 2, none⟩ = some (.slice e5 GF.length ce5) := cell_of X5.out.2.2.2 2
  have g40 : (w5.alloc (.cells #[.slice a5 GC.length ca5, .slice p5 GR.length cp5, .slice e5 GF.length ce5] 29)).cell? ⟨w3.heap.size, 0, none⟩ = some (.slice a3 GC.length ca3) := cell_of X5.out.2.1 0
  have g41 : (w5.alloc (.cells #[.slice a5 GC.length ca5, .slice p5 GR.length cp5, .slice e5 GF.length ce5] 29)).cell? ⟨w3.heap.size, 1, none⟩ = some (.slice p3 GR.length cp3) := cell_of X5.out.2.1 1
  have g42 : (w5.alloc (.cells #[.slice a5 GC.length ca5, .slice p5 GR.length cp5, .slice e5 GF.length ce5] 29)).cell? ⟨w3.heap.size, 2, none⟩ = some (.slice e3 GF.length ce3) := cell_of X5.out.2.1 2
  go_wp2_with fail
  refine (eqDfa_any GC GR GF _ _ _ _ _ _ _ _ _ _ _ _ _ HGS.out T5.out.at.1 T5.out.at.2.1 T5.out.at.2.2 T3.out.at.1 T3.out.at.2.1 T3.out.at.2.2).mono ?_
  rintro r w6 ⟨rfl, b6⟩
  have X6 : Hid (Bx w6 w.heap.size w3.heap.size w4.heap.size w5.heap.size (.cells #[.slice a C.length ca, .slice b R.length cb, .slice e F.length ce] 26) (.cells #[.slice a3 GC.length ca3, .slice p3 GR.length cp3, .slice e3 GF.length ce3] 29) (.cells #[.slice a4 C.length ca4, .slice p4 R.length cp4, .slice e4 F.length ce4] 29) (.cells #[.slice a5 GC.length ca5, .slice p5 GR.length cp5, .slice e5 GF.length ce5] 29)) := X5.out.keepB b6
  have U3 : Hid (OwnQ w6 w2.heap.size w3.heap.size (.slice a3 GC.length ca3) (.slice p3 GR.length cp3) (.slice e3 GF.length ce3) Q3 GC GR.length (rw_ GR) GF) := T3.out.keepB b6
  have U4 : Hid (OwnQ w6 (w3.heap.size + 1) w4.heap.size (.slice a4 C.length ca4) (.slice p4 R.length cp4) (.slice e4 F.length ce4) Q4 C R.length (rw_ R) F) := T4.out.keepB b6
  have U5 : Hid (OwnQ w6 (w4.heap.size + 1) w5.heap.size (.slice a5 GC.length ca5) (.slice p5 GR.length cp5) (.slice e5 GF.length ce5) Q5 GC GR.length (rw_ GR) GF) := T5.out.keepB b6
  have B6 : Hid (Below w.heap.size w w6) := BB5.out.trans (b6.mono BB5.out.size)
  have hs6 : w5.heap.size < w6.heap.size := Nat.lt_of_lt_of_le (by simp) b6.size
  clear g70 g71 g72 g40 g41 g42
  clear b6 T3 T4 T5 BB5 X5 hne5 hne5'
  have bbf : (f == f) = true := by simp
  have sD : (w6.drew.cell? ⟨w.heap.size, 0, none⟩ = some (.slice a C.length ca) ∧ w6.drew.cell? ⟨w.heap.size, 1, none⟩ = some (.slice b R.length cb) ∧ w6.drew.cell? ⟨w.heap.size, 2, none⟩ = some (.slice e F.length ce) ∧ w6.drew.cell? ⟨w4.heap.size, 0, none⟩ = some (.slice a4 C.length ca4) ∧ w6.drew.cell? ⟨w4.heap.size, 1, none⟩ = some (.slice p4 R.length cp4) ∧ w6.drew.cell? ⟨w4.heap.size, 2, none⟩ = some (.slice e4 F.length ce4)) := ⟨cell_of X6.out.1 0, cell_of X6.out.1 1, cell_of X6.out.1 2, cell_of X6.out.2.2.1 0, cell_of X6.out.2.2.1 1, cell_of X6.out.2.2.1 2⟩
  have DR6 : Hid (Below w6.heap.size w6 w6.drew) := (Below.refl _ _).drew
  have B6d : Hid (Below w.heap.size w w6.drew) := B6.out.drew
  have HX6 : Hid (Bx w6.drew w.heap.size w3.heap.size w4.heap.size w5.heap.size (.cells #[.slice a C.length ca, .slice b R.length cb, .slice e F.length ce] 26) (.cells #[.slice a3 GC.length ca3, .slice p3 GR.length cp3, .slice e3 GF.length ce3] 29) (.cells #[.slice a4 C.length ca4, .slice p4 R.length cp4, .slice e4 F.length ce4] 29) (.cells #[.slice a5 GC.length ca5, .slice p5 GR.length cp5, .slice e5 GF.length ce5] 29)) := X6.out.keepB DR6.out
  go_wp2
  go_region_held (fun w' => (w'.cell? ⟨w.heap.size, 0, none⟩ = some (.slice a C.length ca) ∧ w'.cell? ⟨w.heap.size, 1, none⟩ = some (.slice b R.length cb) ∧ w'.cell? ⟨w.heap.size, 2, none⟩ = some (.slice e F.length ce) ∧ w'.cell? ⟨w4.heap.size, 0, none⟩ = some (.slice a4 C.length ca4) ∧ w'.cell? ⟨w4.heap.size, 1, none⟩ = some (.slice p4 R.length cp4) ∧ w'.cell? ⟨w4.heap.size, 2, none⟩ = some (.slice e4 F.length ce4))) (first | assumption) (first
      | (go_at_call 10; refine (toDfa_any C R F a b e ca cb ce _ HS.out (IntsAt.keepB HA.out B6d.out) (RowsAt.keepB HB.out B6d.out) (FlagsAt.keepB HE.out B6d.out)).mono ?_
         rintro r w7 ⟨v0, v1, v2, rfl, D7, b7⟩
         have X7 : Hid (Bx w7 w.heap.size w3.heap.size w4.heap.size w5.heap.size (.cells #[.slice a C.length ca, .slice b R.length cb, .slice e F.length ce] 26) (.cells #[.slice a3 GC.length ca3, .slice p3 GR.length cp3, .slice e3 GF.length ce3] 29) (.cells #[.slice a4 C.length ca4, .slice p4 R.length cp4, .slice e4 F.length ce4] 29) (.cells #[.slice a5 GC.length ca5, .slice p5 GR.length cp5, .slice e5 GF.length ce5] 29)) := HX6.out.keepB b7
         have s7 : (w7.cell? ⟨w.heap.size, 0, none⟩ = some (.slice a C.length ca) ∧ w7.cell? ⟨w.heap.size, 1, none⟩ = some (.slice b R.length cb) ∧ w7.cell? ⟨w.heap.size, 2, none⟩ = some (.slice e F.length ce) ∧ w7.cell? ⟨w4.heap.size, 0, none⟩ = some (.slice a4 C.length ca4) ∧ w7.cell? ⟨w4.heap.size, 1, none⟩ = some (.slice p4 R.length cp4) ∧ w7.cell? ⟨w4.heap.size, 2, none⟩ = some (.slice e4 F.length ce4)) := ⟨cell_of X7.out.1 0, cell_of X7.out.1 1, cell_of X7.out.1 2, cell_of X7.out.2.2.1 0, cell_of X7.out.2.2.1 1, cell_of X7.out.2.2.1 2⟩
         obtain ⟨a7, p7, e7, ca7, cp7, ce7, rfl, rfl, rfl, IA7, IB7, IE7⟩ := D7.form
         have JA7 : Hid _ := IA7
         have JB7 : Hid _ := IB7
         have JE7 : Hid _ := IE7
         have V3 : Hid (OwnQ w7 w2.heap.size w3.heap.size (.slice a3 GC.length ca3) (.slice p3 GR.length cp3) (.slice e3 GF.length ce3) Q3 GC GR.length (rw_ GR) GF) := (U3.out.keepB DR6.out).keepB b7
         have V4 : Hid (OwnQ w7 (w3.heap.size + 1) w4.heap.size (.slice a4 C.length ca4) (.slice p4 R.length cp4) (.slice e4 F.length ce4) Q4 C R.length (rw_ R) F) := (U4.out.keepB DR6.out).keepB b7
         have V5 : Hid (OwnQ w7 (w4.heap.size + 1) w5.heap.size (.slice a5 GC.length ca5) (.slice p5 GR.length cp5) (.slice e5 GF.length ce5) Q5 GC GR.length (rw_ GR) GF) := (U5.out.keepB DR6.out).keepB b7
         have B7 : Hid (Below w.heap.size w w7) := B6d.out.trans (b7.mono B6d.out.size)
         have hs7 : w5.heap.size < w7.heap.size := Nat.lt_of_lt_of_le hs6 b7.size
         clear b7 D7 IA7 IB7 IE7)
      | (go_at_call 12; refine (eqDfa_any C R F _ _ _ _ _ _ _ _ _ _ _ _ _ HS.out V4.out.at.1 V4.out.at.2.1 V4.out.at.2.2 JA7.out JB7.out JE7.out).mono ?_
         rintro r w8 ⟨rfl, b8⟩
         have X8 : Hid (Bx w8 w.heap.size w3.heap.size w4.heap.size w5.heap.size (.cells #[.slice a C.length ca, .slice b R.length cb, .slice e F.length ce] 26) (.cells #[.slice a3 GC.length ca3, .slice p3 GR.length cp3, .slice e3 GF.length ce3] 29) (.cells #[.slice a4 C.length ca4, .slice p4 R.length cp4, .slice e4 F.length ce4] 29) (.cells #[.slice a5 GC.length ca5, .slice p5 GR.length cp5, .slice e5 GF.length ce5] 29)) := X7.out.keepB b8
         have s8 : (w8.cell? ⟨w.heap.size, 0, none⟩ = some (.slice a C.length ca) ∧ w8.cell? ⟨w.heap.size, 1, none⟩ = some (.slice b R.length cb) ∧ w8.cell? ⟨w.heap.size, 2, none⟩ = some (.slice e F.length ce) ∧ w8.cell? ⟨w4.heap.size, 0, none⟩ = some (.slice a4 C.length ca4) ∧ w8.cell? ⟨w4.heap.size, 1, none⟩ = some (.slice p4 R.length cp4) ∧ w8.cell? ⟨w4.heap.size, 2, none⟩ = some (.slice e4 F.length ce4)) := ⟨cell_of X8.out.1 0, cell_of X8.out.1 1, cell_of X8.out.1 2, cell_of X8.out.2.2.1 0, cell_of X8.out.2.2.1 1, cell_of X8.out.2.2.1 2⟩
         have W3 : Hid (OwnQ w8 w2.heap.size w3.heap.size (.slice a3 GC.length ca3) (.slice p3 GR.length cp3) (.slice e3 GF.length ce3) Q3 GC GR.length (rw_ GR) GF) := V3.out.keepB b8
         have W4 : Hid (OwnQ w8 (w3.heap.size + 1) w4.heap.size (.slice a4 C.length ca4) (.slice p4 R.length cp4) (.slice e4 F.length ce4) Q4 C R.length (rw_ R) F) := V4.out.keepB b8
         have W5 : Hid (OwnQ w8 (w4.heap.size + 1) w5.heap.size (.slice a5 GC.length ca5) (.slice p5 GR.length cp5) (.slice e5 GF.length ce5) Q5 GC GR.length (rw_ GR) GF) := V5.out.keepB b8
         have B8 : Hid (Below w.heap.size w w8) := B7.out.trans (b8.mono B7.out.size)
         have hs8 : w5.heap.size < w8.heap.size := Nat.lt_of_lt_of_le hs7 b8.size
         clear b8))
  all_goals
    clear X6 X7 HX6 sD s7 U3 U4 U5 V3 V4 V5 JA7 JB7 JE7 B6 B6d B7 DR6
    obtain ⟨d10, d11, d12, d60, d61, d62⟩ := s8
    go_wp2_with fail
    refine (markD_any C R F _ _ _ Q4 (w3.heap.size + 1) w4.heap.size _ HS.out (by omega) (by omega) W4.out).mono ?_
    rintro r w9 ⟨rfl, -, m9⟩
    have X9 : Hid (Bx w9 w.heap.size w3.heap.size w4.heap.size w5.heap.size (.cells #[.slice a C.length ca, .slice b R.length cb, .slice e F.length ce] 26) (.cells #[.slice a3 GC.length ca3, .slice p3 GR.length cp3, .slice e3 GF.length ce3] 29) (.cells #[.slice a4 C.length ca4, .slice p4 R.length cp4, .slice e4 F.length ce4] 29) (.cells #[.slice a5 GC.length ca5, .slice p5 GR.length cp5, .slice e5 GF.length ce5] 29)) := X8.out.mid m9 (by omega) (by omega) (by omega) (by omega)
    have Y3 : Hid (OwnQ w9 w2.heap.size w3.heap.size (.slice a3 GC.length ca3) (.slice p3 GR.length cp3) (.slice e3 GF.length ce3) Q3 GC GR.length (rw_ GR) GF) := W3.out.low m9.1 (by omega)
    have Y5 : Hid (OwnQ w9 (w4.heap.size + 1) w5.heap.size (.slice a5 GC.length ca5) (.slice p5 GR.length cp5) (.slice e5 GF.length ce5) Q5 GC GR.length (rw_ GR) GF) := W5.out.mid m9 (by omega)
    have B9 : Hid (Below w.heap.size w w9) := B8.out.trans (m9.1.mono (by omega))
    have hs9 : w5.heap.size < w9.heap.size := Nat.lt_of_lt_of_le hs8 m9.1.size
    clear m9 X8 W3 W4 W5 B8 d10 d11 d12 d60 d61 d62
    have hzk : ¬ (1 + (cntM C R F : Int)) < 0 := by omega
    generalize cntM C R F = kx at hzk
    have g70 : w9.cell? ⟨w5.heap.size, 0, none⟩ = some (.slice a5 GC.length ca5) := cell_of X9.out.2.2.2 0
    have g71 : w9.cell? ⟨w5.heap.size, 1, none⟩ = some (.slice p5 GR.length cp5) := cell_of X9.out.2.2.2 1
    have g72 : w9.cell? ⟨w5.heap.size, 2, none⟩ = some (.slice e5 GF.length ce5) := cell_of X9.out.2.2.2 2
    have g40 : w9.cell? ⟨w3.heap.size, 0, none⟩ = some (.slice a3 GC.length ca3) := cell_of X9.out.2.1 0
    have g41 : w9.cell? ⟨w3.heap.size, 1, none⟩ = some (.slice p3 GR.length cp3) := cell_of X9.out.2.1 1
    have g42 : w9.cell? ⟨w3.heap.size, 2, none⟩ = some (.slice e3 GF.length ce3) := cell_of X9.out.2.1 2
    go_wp2_with fail
    refine (eqDfa_any GC GR GF _ _ _ _ _ _ _ _ _ _ _ _ _ HGS.out Y5.out.at.1 Y5.out.at.2.1 Y5.out.at.2.2 Y3.out.at.1 Y3.out.at.2.1 Y3.out.at.2.2).mono ?_
    rintro r w10 ⟨rfl, b10⟩
    have X10 : Hid (Bx w10 w.heap.size w3.heap.size w4.heap.size w5.heap.size (.cells #[.slice a C.length ca, .slice b R.length cb, .slice e F.length ce] 26) (.cells #[.slice a3 GC.length ca3, .slice p3 GR.length cp3, .slice e3 GF.length ce3] 29) (.cells #[.slice a4 C.length ca4, .slice p4 R.length cp4, .slice e4 F.length ce4] 29) (.cells #[.slice a5 GC.length ca5, .slice p5 GR.length cp5, .slice e5 GF.length ce5] 29)) := X9.out.keepB b10
    have Z3 : Hid (OwnQ w10 w2.heap.size w3.heap.size (.slice a3 GC.length ca3) (.slice p3 GR.length cp3) (.slice e3 GF.length ce3) Q3 GC GR.length (rw_ GR) GF) := Y3.out.keepB b10
    have Z5 : Hid (OwnQ w10 (w4.heap.size + 1) w5.heap.size (.slice a5 GC.length ca5) (.slice p5 GR.length cp5) (.slice e5 GF.length ce5) Q5 GC GR.length (rw_ GR) GF) := Y5.out.keepB b10
    have B10 : Hid (Below w.heap.size w w10) := B9.out.trans (b10.mono B9.out.size)
    have hs10 : w5.heap.size < w10.heap.size := Nat.lt_of_lt_of_le hs9 b10.size
    clear g70 g71 g72 g40 g41 g42
    clear b10 X9 Y3 Y5 B9
    have g70 : w10.cell? ⟨w5.heap.size, 0, none⟩ = some (.slice a5 GC.length ca5) := cell_of X10.out.2.2.2 0
    have g71 : w10.cell? ⟨w5.heap.size, 1, none⟩ = some (.slice p5 GR.length cp5) := cell_of X10.out.2.2.2 1
    have g72 : w10.cell? ⟨w5.heap.size, 2, none⟩ = some (.slice e5 GF.length ce5) := cell_of X10.out.2.2.2 2
    go_wp2_with fail
    refine (markD_any GC GR GF _ _ _ Q5 (w4.heap.size + 1) w5.heap.size _ HGS.out (by omega) (by omega) Z5.out).mono ?_
    rintro r w11 ⟨rfl, o11, m11⟩
    have X11 : Hid (Bx w11 w.heap.size w3.heap.size w4.heap.size w5.heap.size (.cells #[.slice a C.length ca, .slice b R.length cb, .slice e F.length ce] 26) (.cells #[.slice a3 GC.length ca3, .slice p3 GR.length cp3, .slice e3 GF.length ce3] 29) (.cells #[.slice a4 C.length ca4, .slice p4 R.length cp4, .slice e4 F.length ce4] 29) (.cells #[.slice a5 GC.length ca5, .slice p5 GR.length cp5, .slice e5 GF.length ce5] 29)) := X10.out.mid m11 (by omega) (by omega) (by omega) (by omega)
    have K3 : Hid (OwnQ w11 w2.heap.size w3.heap.size (.slice a3 GC.length ca3) (.slice p3 GR.length cp3) (.slice e3 GF.length ce3) Q3 GC GR.length (rw_ GR) GF) := Z3.out.low m11.1 (by omega)
    have K5 : Hid (MarkedAt w11 a5 p5 e5 GC GR GF) := OwnQ.marked o11
    have B11 : Hid (Below w.heap.size w w11) := B10.out.trans (m11.1.mono (by omega))
    have hs11 : w5.heap.size < w11.heap.size := Nat.lt_of_lt_of_le hs10 m11.1.size
    clear g70 g71 g72
    clear m11 o11 X10 Z3 Z5 B10
    have g70 : w11.cell? ⟨w5.heap.size, 0, none⟩ = some (.slice a5 GC.length ca5) := cell_of X11.out.2.2.2 0
    have g71 : w11.cell? ⟨w5.heap.size, 1, none⟩ = some (.slice p5 GR.length cp5) := cell_of X11.out.2.2.2 1
    have g72 : w11.cell? ⟨w5.heap.size, 2, none⟩ = some (.slice e5 GF.length ce5) := cell_of X11.out.2.2.2 2
    go_wp2_with fail
    refine (heldD_any GC GR GF _ _ _ _ _ _ _ HGS.out K5.out).mono ?_
    rintro r w12 ⟨rfl, b12⟩
    have X12 : Hid (Bx w12 w.heap.size w3.heap.size w4.heap.size w5.heap.size (.cells #[.slice a C.length ca, .slice b R.length cb, .slice e F.length ce] 26) (.cells #[.slice a3 GC.length ca3, .slice p3 GR.length cp3, .slice e3 GF.length ce3] 29) (.cells #[.slice a4 C.length ca4, .slice p4 R.length cp4, .slice e4 F.length ce4] 29) (.cells #[.slice a5 GC.length ca5, .slice p5 GR.length cp5, .slice e5 GF.length ce5] 29)) := X11.out.keepB b12
    have L3 : Hid (OwnQ w12 w2.heap.size w3.heap.size (.slice a3 GC.length ca3) (.slice p3 GR.length cp3) (.slice e3 GF.length ce3) Q3 GC GR.length (rw_ GR) GF) := K3.out.keepB b12
    have L5 : Hid (MarkedAt w12 a5 p5 e5 GC GR GF) := K5.out.keepB b12
    have B12 : Hid (Below w.heap.size w w12) := B11.out.trans (b12.mono B11.out.size)
    have hs12 : w5.heap.size < w12.heap.size := Nat.lt_of_lt_of_le hs11 b12.size
    clear g70 g71 g72
    clear b12 X11 K3 K5 B11
    have HCQ : Hid (∃ q : Int, 1 + (cntM GC GR GF : Int) = q) := ⟨_, rfl⟩
    have hzq : ¬ (1 + (cntM GC GR GF : Int)) < 0 := by omega
    have heq : (1 + (cntM GC GR GF : Int) == 1 + (cntM GC GR GF : Int)) = true := by simp
    clear HCQ
    have g10 : w12.cell? ⟨w.heap.size, 0, none⟩ = some (.slice a C.length ca) := cell_of X12.out.1 0
    have g11 : w12.cell? ⟨w.heap.size, 1, none⟩ = some (.slice b R.length cb) := cell_of X12.out.1 1
    have g12 : w12.cell? ⟨w.heap.size, 2, none⟩ = some (.slice e F.length ce) := cell_of X12.out.1 2
    go_wp2_with fail
    refine (toDfa_any C R F a b e ca cb ce _ HS.out (IntsAt.keepB HA.out B12.out) (RowsAt.keepB HB.out B12.out) (FlagsAt.keepB HE.out B12.out)).mono ?_
    rintro r w13 ⟨v0, v1, v2, rfl, D13, b13⟩
    obtain ⟨a13, p13, e13, ca13, cp13, ce13, rfl, rfl, rfl, IA13, IB13, IE13⟩ := D13.form
    have JA13 : Hid _ := IA13
    have JB13 : Hid _ := IB13
    have JE13 : Hid _ := IE13
    have X13 : Hid (Bx w13 w.heap.size w3.heap.size w4.heap.size w5.heap.size (.cells #[.slice a C.length ca, .slice b R.length cb, .slice e F.length ce] 26) (.cells #[.slice a3 GC.length ca3, .slice p3 GR.length cp3, .slice e3 GF.length ce3] 29) (.cells #[.slice a4 C.length ca4, .slice p4 R.length cp4, .slice e4 F.length ce4] 29) (.cells #[.slice a5 GC.length ca5, .slice p5 GR.length cp5, .slice e5 GF.length ce5] 29)) := X12.out.keepB b13
    have M3 : Hid (OwnQ w13 w2.heap.size w3.heap.size (.slice a3 GC.length ca3) (.slice p3 GR.length cp3) (.slice e3 GF.length ce3) Q3 GC GR.length (rw_ GR) GF) := L3.out.keepB b13
    have M5 : Hid (MarkedAt w13 a5 p5 e5 GC GR GF) := L5.out.keepB b13
    have B13 : Hid (Below w.heap.size w w13) := B12.out.trans (b13.mono B12.out.size)
    clear g10 g11 g12
    clear b13 D13 IA13 IB13 IE13 X12 L3 L5 B12
    go_wp2_with fail
    refine Calls.mono (HIM.out _ _ _ _ _ _ _ JA13.out JB13.out JE13.out) ?_
    rintro r w14 ⟨v0, v1, v2, rfl, D14, b14⟩
    obtain ⟨a14, p14, e14, ca14, cp14, ce14, rfl, rfl, rfl, IA14, IB14, IE14⟩ := D14.form
    have AL14 : ∀ o, Below w14.heap.size w14 (w14.alloc o) := fun o => (Below.refl _ _).alloc (Nat.le_refl _) o
    have JA14 : Hid (∀ o, IntsAt (w14.alloc o) a14 GC) := fun o => IntsAt.keepB IA14 (AL14 o)
    have JB14 : Hid (∀ o, RowsAt (w14.alloc o) p14 GR) := fun o => RowsAt.keepB IB14 (AL14 o)
    have JE14 : Hid (∀ o, FlagsAt (w14.alloc o) e14 GF) := fun o => FlagsAt.keepB IE14 (AL14 o)
    have X14 : Hid (∀ o, Bx (w14.alloc o) w.heap.size w3.heap.size w4.heap.size w5.heap.size (.cells #[.slice a C.length ca, .slice b R.length cb, .slice e F.length ce] 26) (.cells #[.slice a3 GC.length ca3, .slice p3 GR.length cp3, .slice e3 GF.length ce3] 29) (.cells #[.slice a4 C.length ca4, .slice p4 R.length cp4, .slice e4 F.length ce4] 29) (.cells #[.slice a5 GC.length ca5, .slice p5 GR.length cp5, .slice e5 GF.length ce5] 29)) := fun o => (X13.out.keepB b14).keepB (AL14 o)
    have N3 : Hid (∀ o, OwnQ (w14.alloc o) w2.heap.size w3.heap.size (.slice a3 GC.length ca3) (.slice p3 GR.length cp3) (.slice e3 GF.length ce3) Q3 GC GR.length (rw_ GR) GF) := fun o => (M3.out.keepB b14).keepB (AL14 o)
    have N5 : Hid (∀ o, MarkedAt (w14.alloc o) a5 p5 e5 GC GR GF) := fun o => (M5.out.keepB b14).keepB (AL14 o)
    have B14 : Hid (∀ o, Below w.heap.size w (w14.alloc o)) := fun o => (B13.out.trans (b14.mono B13.out.size)).trans ((AL14 o).mono (B13.out.trans (b14.mono B13.out.size)).size)
    have hs14 : w3.heap.size < w14.heap.size := by have := (Array.getElem?_eq_some_iff.1 (X13.out.keepB b14).2.1).1; exact this
    have hne14 : ¬ w3.heap.size = w14.heap.size := by omega
    have hne14' : ¬ w14.heap.size = w3.heap.size := by omega
    have k40 : ∀ o, (w14.alloc o).cell? ⟨w3.heap.size, 0, none⟩ = some (.slice a3 GC.length ca3) := fun o => cell_of (X14.out o).2.1 0
    have k41 : ∀ o, (w14.alloc o).cell? ⟨w3.heap.size, 1, none⟩ = some (.slice p3 GR.length cp3) := fun o => cell_of (X14.out o).2.1 1
    have k42 : ∀ o, (w14.alloc o).cell? ⟨w3.heap.size, 2, none⟩ = some (.slice e3 GF.length ce3) := fun o => cell_of (X14.out o).2.1 2
    clear b14 D14 IA14 IB14 IE14 X13 M3 M5 B13 JA13 JB13 JE13
    go_wp2_with fail
    refine (eqDfa_any GC GR GF _ _ _ _ _ _ _ _ _ _ _ _ _ HGS.out (JA14.out _) (JB14.out _) (JE14.out _) (N3.out _).at.1 (N3.out _).at.2.1 (N3.out _).at.2.2).mono ?_
    rintro r w15 ⟨rfl, b15⟩
    have X15 : Hid (Bx w15 w.heap.size w3.heap.size w4.heap.size w5.heap.size (.cells #[.slice a C.length ca, .slice b R.length cb, .slice e F.length ce] 26) (.cells #[.slice a3 GC.length ca3, .slice p3 GR.length cp3, .slice e3 GF.length ce3] 29) (.cells #[.slice a4 C.length ca4, .slice p4 R.length cp4, .slice e4 F.length ce4] 29) (.cells #[.slice a5 GC.length ca5, .slice p5 GR.length cp5, .slice e5 GF.length ce5] 29)) := (X14.out _).keepB b15
    have E5 : Hid (MarkedAt w15 a5 p5 e5 GC GR GF) := (N5.out _).keepB b15
    have B15 : Hid (Below w.heap.size w w15) := (B14.out _).trans (b15.mono (B14.out _).size)
    clear b15 k40 k41 k42 X14 N3 N5 B14 JA14 JB14 JE14 AL14 hne14 hne14'
    have g70 : w15.cell? ⟨w5.heap.size, 0, none⟩ = some (.slice a5 GC.length ca5) := cell_of X15.out.2.2.2 0
    have g71 : w15.cell? ⟨w5.heap.size, 1, none⟩ = some (.slice p5 GR.length cp5) := cell_of X15.out.2.2.2 1
    have g72 : w15.cell? ⟨w5.heap.size, 2, none⟩ = some (.slice e5 GF.length ce5) := cell_of X15.out.2.2.2 2
    go_wp2_with fail
    refine (heldD_any GC GR GF _ _ _ _ _ _ _ HGS.out E5.out).mono ?_
    rintro r w16 ⟨rfl, b16⟩
    have B16 : Hid (Below w.heap.size w w16) := B15.out.trans (b16.mono B15.out.size)
    clear g70 g71 g72
    clear b16 X15 E5 B15
    go_wp2
    go_ret
    exact ⟨rfl, B16.out⟩
set_option maxRecDepth 100000 in
set_option maxHeartbeats 1000000 in
theorem walk (C : List Int) (R : Rw) (F : List Bool) (a b e : Option Addr) (ca cb ce : Nat) (w : World) (hA : IntsAt w a C) (hB : RowsAt w b R) (hE : FlagsAt w e F) (hC : C.length ≤ maxLen) (hR : R.length ≤ maxLen) (hx : ∀ y ∈ R, y.length ≤ maxLen) (hF : F.length ≤ maxLen) :
    Calls Try.prog 5 #[dfaV a b e C.length R.length F.length ca cb ce] w fun r w' => r = .returned (.bool true) ∧ Below w.heap.size w w' := by
  by_cases hS : szD C R F ≤ 1048576
  · exact core C R F (notC C R F) (notR C R F) (notB C R F) (goodD C R F) a b e ca cb ce w hS (Nat.le_trans (not_sz C R F) hS) hA hB hE hC hR hx hF (fun a b e ca cb ce w h1 h2 h3 => snotD_any C R F a b e ca cb ce w hS h1 h2 h3) (fun a b e ca cb ce w h1 h2 h3 => inotD_any C R F a b e ca cb ce w hS h1 h2 h3)
  · have A1 : ∀ o, Below w.heap.size w (w.alloc o) := fun o => (Below.refl _ _).alloc (Nat.le_refl _) o
    have HSZ : Hid _ := fun o => szDfa_any C R F a b e ca cb ce (w.alloc o) hC hR hx hF (RowsAt.keepB hB (A1 o))
    clear hA hB hE hC hR hx hF
    unfold dfaV
    go_enter Try.func5, Try.ntmps5
    go_wp2_with fail
    refine Calls.mono (HSZ.out _) ?_
    rintro r w1 ⟨hs, b1⟩
    have B1 : Hid (Below w.heap.size w w1) := (A1 _).trans (b1.mono (by simp))
    obtain rfl : r = .returned (.int .i64 (-1)) := by
      rcases hs with ⟨h, -⟩ | ⟨-, h⟩
      · exact absurd h hS
      · exact h
    clear b1 hs HSZ
    go_wp2
    go_ret
    exact ⟨rfl, B1.out⟩
set_option maxRecDepth 100000 in
theorem lifted (os : Os) (started : os.Started) (H : Type) (enc : TypeId × Value → H) :
    ReturnsInHanded {} Try.checked os 5 .any (Rows.fnExactNotDfaSpec.pre6 enc Try.prog Try.f5 Rows.fnExactNotDfaRow.domain false) (Rows.fnExactNotDfaSpec.post enc Try.prog Try.f5 false true false false) := by
  refine returnsInHanded_of_change (C := Try.checked) own started (by kernel_rfl) Try.func5
    (ChangeSpec.witness6 (enc := enc) (C := Try.checked) false ⟨#[], #[.agg #[.slice none 0 0, .slice none 0 0, .slice none 0 0]], []⟩ 8 (by kernel_rfl) (by kernel_rfl) (by kernel_rfl) (by kernel_rfl)) ?_
  intro W base args ds gs before hval0 hW hcnd _
  have hval : ∀ (j : Nat) t v, Try.f5.params[j]? = some t → args[j]? = some v → Value.okWide Try.prog W .any base t v := hval0
  have hW' := hW
  obtain ⟨p, q, hA0, hV, rfl, hfz, hnd⟩ := hW
  have hA : DataW.TrodAll enc Try.prog W 0 (fun _ => true) true Try.f5.params.toList args.toList ds p := hA0
  rw [Try.params5] at hA hval
  obtain ⟨v0, d0, rfl, rfl, h0⟩ := trodAll_one hA
  obtain ⟨rfl, rfl⟩ := trodVars_none hV
  have k0 := h0
  have lt0 : ∀ x ∈ p, x.block < W.heap.size := by obtain ⟨m, hm⟩ := k0; exact DataW.trod_lt m _ _ _ hm
  obtain ⟨C, R, F, a, b, e, ca, cb, ce, rfl, iC, iR, iF, hC, hR, hx, hF⟩ := open_dfa (hval 0 26 v0 rfl rfl) h0
  clear hA0 hval0
  refine (walk C R F a b e ca cb ce W iC iR iF hC hR hx hF).mono fun e W' ⟨he, bel⟩ => ?_
  subst he
  exact ⟨_, rfl, _, _, _, [], _, [], hW', trodAll_mk1 (shut_bool Try.underlying4 _), trodAll_mk1 (Below.trod laidOut (by kernel_rfl) (of_decide_eq_true (by kernel_rfl)) k0 bel lt0), rfl, bel.frame _, fun h => by cases h⟩
theorem row : Rows.FnExactNotDfaSaid :=
  OpenClaim.holds_of_wide 5 Try.f5 rfl rfl rfl rfl rfl rfl rfl ⟨rfl, rfl, rfl, rfl, rfl⟩ rfl rfl rfl rfl rfl (by kernel_rfl) Try.func5 (by kernel_rfl)
    (of_decide_eq_true (by kernel_rfl)) (by unfold Func.isWrapper; first | (rw [if_pos (by decide +kernel)]; kernel_rfl) | (rw [if_neg (by decide +kernel)]; exact ⟨rfl, rfl⟩))
    (fun os started H enc _ => lifted os started H enc)
end LawNotDfa
theorem notDfa_holds : Rows.FnExactNotDfaSaid := LawNotDfa.row
#print axioms notDfa_holds
end Go.Proofs.Ytnlccplpcbdmnaa
