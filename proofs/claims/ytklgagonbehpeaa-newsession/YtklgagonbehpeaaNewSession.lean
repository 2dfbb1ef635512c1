/-
  For every code and max, laws.FnExactNewSession returns true: impl.NewSession answers as the specification's NewSession. No conditions.
-/
import Derived.Test.YtklgagonbehpeaaX2C
import Derived.Lib.SmallJoins
namespace Go.Proofs.Ytklgagonbehpeaa
open Go.ChangeShapes Go.WideShapes Go.ChangeAt Go.WideMaps Go.WideElems Go.RowKit
namespace LawNewSession
theorem own : ownKnob Try.prog.godebug = none := by kernel_rfl
theorem laidOut : laidOutB Try.prog = true := by kernel_rfl
set_option maxRecDepth 100000 in
set_option maxHeartbeats 4000000 in
theorem core (en most E M : Int) (f : Bool) (w : World)
    (SP : ∀ w', Calls Try.prog 33 #[.int .i64 en, .int .i64 most] w' fun r w'' => r = .returned (.tuple #[.agg #[.int .i64 E, .int .i64 0, .int .i64 0, .string ⟨#[]⟩, .int .i64 M, .slice none 0 0, .slice none 0 0, .int .i64 0, .bool false], .bool f]) ∧ Below w'.heap.size w' w'')
    (IM : ∀ w', Calls Try.prog 34 #[.int .i64 en, .int .i64 most] w' fun r w'' => r = .returned (.tuple #[.agg #[.int .i64 E, .int .i64 0, .int .i64 0, .string ⟨#[]⟩, .int .i64 M, .slice none 0 0, .slice none 0 0, .int .i64 0, .bool false], .bool f]) ∧ Below w'.heap.size w' w'') :
    Calls Try.prog 8 #[.int .i64 en, .int .i64 most] w fun r w' => r = .returned (.bool true) ∧ Below w.heap.size w w' := by
  have HSP : Hid _ := SP
  have HIM : Hid _ := IM
  have bbf : (f == f) = true := by simp
  clear SP IM
  go_enter Try.func8, Try.ntmps8
  go_wp2_with fail
  refine Calls.mono (HSP.out _) ?_
  rintro r w1 ⟨rfl, e1⟩
  have B1 : Hid (Below w.heap.size w w1) := e1
  have A1 : Hid (∀ o, Below w1.heap.size w1 (w1.alloc o)) := fun o => (Below.refl _ _).alloc (Nat.le_refl _) o
  clear e1
  go_wp2_with fail
  refine Calls.mono (HIM.out _) ?_
  rintro r w2 ⟨rfl, e2⟩
  have h1 : w2.heap[w1.heap.size]? = some (.cells #[.int .i64 E, .int .i64 0, .int .i64 0, .string ⟨#[]⟩, .int .i64 M, .slice none 0 0, .slice none 0 0, .int .i64 0, .bool false] 53) := (e2.block w1.heap.size (by simp)).trans (heap_lastB _ _ _ rfl)
  have B2 : Hid (Below w.heap.size w w2) := (B1.out.trans ((A1.out _).mono B1.out.size)).trans (e2.mono (Nat.le_trans B1.out.size (by simp)))
  have hl : w1.heap.size < w2.heap.size := Nat.lt_of_lt_of_le (by simp) e2.size
  have HX : Hid (∀ o, (w2.alloc o).heap[w1.heap.size]? = some (.cells #[.int .i64 E, .int .i64 0, .int .i64 0, .string ⟨#[]⟩, .int .i64 M, .slice none 0 0, .slice none 0 0, .int .i64 0, .bool false] 53)) := fun o => (heap_prevB _ _ _ hl).trans h1
  have HY : Hid ((w2.alloc (.cells #[.int .i64 E, .int .i64 0, .int .i64 0, .string ⟨#[]⟩, .int .i64 M, .slice none 0 0, .slice none 0 0, .int .i64 0, .bool false] 53)).heap[w2.heap.size]? = some (.cells #[.int .i64 E, .int .i64 0, .int .i64 0, .string ⟨#[]⟩, .int .i64 M, .slice none 0 0, .slice none 0 0, .int .i64 0, .bool false] 53)) := heap_lastB _ _ _ rfl
  have B3 : Hid (∀ o, Below w.heap.size w (w2.alloc o)) := fun o => B2.out.alloc B2.out.size o
  have hne : ¬ w1.heap.size = w2.heap.size := by omega
  have hne' : ¬ w2.heap.size = w1.heap.size := by omega
  clear e2 h1 B2 B1 A1
  have x0 : (w2.alloc (.cells #[.int .i64 E, .int .i64 0, .int .i64 0, .string ⟨#[]⟩, .int .i64 M, .slice none 0 0, .slice none 0 0, .int .i64 0, .bool false] 53)).cell? ⟨w1.heap.size, 0, none⟩ = some (.int .i64 E) := cell_ofB (HX.out _) 0
  have x1 : (w2.alloc (.cells #[.int .i64 E, .int .i64 0, .int .i64 0, .string ⟨#[]⟩, .int .i64 M, .slice none 0 0, .slice none 0 0, .int .i64 0, .bool false] 53)).cell? ⟨w1.heap.size, 1, none⟩ = some (.int .i64 0) := cell_ofB (HX.out _) 1
  have x2 : (w2.alloc (.cells #[.int .i64 E, .int .i64 0, .int .i64 0, .string ⟨#[]⟩, .int .i64 M, .slice none 0 0, .slice none 0 0, .int .i64 0, .bool false] 53)).cell? ⟨w1.heap.size, 2, none⟩ = some (.int .i64 0) := cell_ofB (HX.out _) 2
  have x3 : (w2.alloc (.cells #[.int .i64 E, .int .i64 0, .int .i64 0, .string ⟨#[]⟩, .int .i64 M, .slice none 0 0, .slice none 0 0, .int .i64 0, .bool false] 53)).cell? ⟨w1.heap.size, 3, none⟩ = some (.string ⟨#[]⟩) := cell_ofB (HX.out _) 3
  have x4 : (w2.alloc (.cells #[.int .i64 E, .int .i64 0, .int .i64 0, .string ⟨#[]⟩, .int .i64 M, .slice none 0 0, .slice none 0 0, .int .i64 0, .bool false] 53)).cell? ⟨w1.heap.size, 4, none⟩ = some (.int .i64 M) := cell_ofB (HX.out _) 4
  have x5 : (w2.alloc (.cells #[.int .i64 E, .int .i64 0, .int .i64 0, .string ⟨#[]⟩, .int .i64 M, .slice none 0 0, .slice none 0 0, .int .i64 0, .bool false] 53)).cell? ⟨w1.heap.size, 5, none⟩ = some (.slice none 0 0) := cell_ofB (HX.out _) 5
  have x6 : (w2.alloc (.cells #[.int .i64 E, .int .i64 0, .int .i64 0, .string ⟨#[]⟩, .int .i64 M, .slice none 0 0, .slice none 0 0, .int .i64 0, .bool false] 53)).cell? ⟨w1.heap.size, 6, none⟩ = some (.slice none 0 0) := cell_ofB (HX.out _) 6
  have x7 : (w2.alloc (.cells #[.int .i64 E, .int .i64 0, .int .i64 0, .string ⟨#[]⟩, .int .i64 M, .slice none 0 0, .slice none 0 0, .int .i64 0, .bool false] 53)).cell? ⟨w1.heap.size, 7, none⟩ = some (.int .i64 0) := cell_ofB (HX.out _) 7
  have x8 : (w2.alloc (.cells #[.int .i64 E, .int .i64 0, .int .i64 0, .string ⟨#[]⟩, .int .i64 M, .slice none 0 0, .slice none 0 0, .int .i64 0, .bool false] 53)).cell? ⟨w1.heap.size, 8, none⟩ = some (.bool false) := cell_ofB (HX.out _) 8
  have y0 : (w2.alloc (.cells #[.int .i64 E, .int .i64 0, .int .i64 0, .string ⟨#[]⟩, .int .i64 M, .slice none 0 0, .slice none 0 0, .int .i64 0, .bool false] 53)).cell? ⟨w2.heap.size, 0, none⟩ = some (.int .i64 E) := cell_ofB HY.out 0
  have y1 : (w2.alloc (.cells #[.int .i64 E, .int .i64 0, .int .i64 0, .string ⟨#[]⟩, .int .i64 M, .slice none 0 0, .slice none 0 0, .int .i64 0, .bool false] 53)).cell? ⟨w2.heap.size, 1, none⟩ = some (.int .i64 0) := cell_ofB HY.out 1
  have y2 : (w2.alloc (.cells #[.int .i64 E, .int .i64 0, .int .i64 0, .string ⟨#[]⟩, .int .i64 M, .slice none 0 0, .slice none 0 0, .int .i64 0, .bool false] 53)).cell? ⟨w2.heap.size, 2, none⟩ = some (.int .i64 0) := cell_ofB HY.out 2
  have y3 : (w2.alloc (.cells #[.int .i64 E, .int .i64 0, .int .i64 0, .string ⟨#[]⟩, .int .i64 M, .slice none 0 0, .slice none 0 0, .int .i64 0, .bool false] 53)).cell? ⟨w2.heap.size, 3, none⟩ = some (.string ⟨#[]⟩) := cell_ofB HY.out 3
  have y4 : (w2.alloc (.cells #[.int .i64 E, .int .i64 0, .int .i64 0, .string ⟨#[]⟩, .int .i64 M, .slice none 0 0, .slice none 0 0, .int .i64 0, .bool false] 53)).cell? ⟨w2.heap.size, 4, none⟩ = some (.int .i64 M) := cell_ofB HY.out 4
  have y5 : (w2.alloc (.cells #[.int .i64 E, .int .i64 0, .int .i64 0, .string ⟨#[]⟩, .int .i64 M, .slice none 0 0, .slice none 0 0, .int .i64 0, .bool false] 53)).cell? ⟨w2.heap.size, 5, none⟩ = some (.slice none 0 0) := cell_ofB HY.out 5
  have y6 : (w2.alloc (.cells #[.int .i64 E, .int .i64 0, .int .i64 0, .string ⟨#[]⟩, .int .i64 M, .slice none 0 0, .slice none 0 0, .int .i64 0, .bool false] 53)).cell? ⟨w2.heap.size, 6, none⟩ = some (.slice none 0 0) := cell_ofB HY.out 6
  have y7 : (w2.alloc (.cells #[.int .i64 E, .int .i64 0, .int .i64 0, .string ⟨#[]⟩, .int .i64 M, .slice none 0 0, .slice none 0 0, .int .i64 0, .bool false] 53)).cell? ⟨w2.heap.size, 7, none⟩ = some (.int .i64 0) := cell_ofB HY.out 7
  have y8 : (w2.alloc (.cells #[.int .i64 E, .int .i64 0, .int .i64 0, .string ⟨#[]⟩, .int .i64 M, .slice none 0 0, .slice none 0 0, .int .i64 0, .bool false] 53)).cell? ⟨w2.heap.size, 8, none⟩ = some (.bool false) := cell_ofB HY.out 8
  go_wp2_with fail
  refine (eqSes_any E M _).mono ?_
  rintro r w3 ⟨rfl, e3⟩
  have G1 : Hid (w3.heap[w1.heap.size]? = some (.cells #[.int .i64 E, .int .i64 0, .int .i64 0, .string ⟨#[]⟩, .int .i64 M, .slice none 0 0, .slice none 0 0, .int .i64 0, .bool false] 53)) := (e3.block _ (by simp; omega)).trans (HX.out _)
  have G2 : Hid (w3.heap[w2.heap.size]? = some (.cells #[.int .i64 E, .int .i64 0, .int .i64 0, .string ⟨#[]⟩, .int .i64 M, .slice none 0 0, .slice none 0 0, .int .i64 0, .bool false] 53)) := (e3.block _ (by simp)).trans HY.out
  have B4 : Hid (Below w.heap.size w w3) := (B3.out _).trans (e3.mono (B3.out _).size)
  clear x0 x1 x2 x3 x4 x5 x6 x7 x8
  clear y0 y1 y2 y3 y4 y5 y6 y7 y8
  clear e3 HX HY B3
  have y0 : w3.cell? ⟨w2.heap.size, 0, none⟩ = some (.int .i64 E) := cell_ofB G2.out 0
  have y1 : w3.cell? ⟨w2.heap.size, 1, none⟩ = some (.int .i64 0) := cell_ofB G2.out 1
  have y2 : w3.cell? ⟨w2.heap.size, 2, none⟩ = some (.int .i64 0) := cell_ofB G2.out 2
  have y3 : w3.cell? ⟨w2.heap.size, 3, none⟩ = some (.string ⟨#[]⟩) := cell_ofB G2.out 3
  have y4 : w3.cell? ⟨w2.heap.size, 4, none⟩ = some (.int .i64 M) := cell_ofB G2.out 4
  have y5 : w3.cell? ⟨w2.heap.size, 5, none⟩ = some (.slice none 0 0) := cell_ofB G2.out 5
  have y6 : w3.cell? ⟨w2.heap.size, 6, none⟩ = some (.slice none 0 0) := cell_ofB G2.out 6
  have y7 : w3.cell? ⟨w2.heap.size, 7, none⟩ = some (.int .i64 0) := cell_ofB G2.out 7
  have y8 : w3.cell? ⟨w2.heap.size, 8, none⟩ = some (.bool false) := cell_ofB G2.out 8
  go_wp2_with fail
  refine (markSes_any E M _).mono ?_
  rintro r w4 ⟨rfl, e4⟩
  have hl4 : w2.heap.size < w3.heap.size := (Array.getElem?_eq_some_iff.1 G2.out).1
  have K1 : Hid (w4.heap[w1.heap.size]? = some (.cells #[.int .i64 E, .int .i64 0, .int .i64 0, .string ⟨#[]⟩, .int .i64 M, .slice none 0 0, .slice none 0 0, .int .i64 0, .bool false] 53)) := (e4.block _ (by omega)).trans G1.out
  have K2 : Hid (w4.heap[w2.heap.size]? = some (.cells #[.int .i64 E, .int .i64 0, .int .i64 0, .string ⟨#[]⟩, .int .i64 M, .slice none 0 0, .slice none 0 0, .int .i64 0, .bool false] 53)) := (e4.block _ hl4).trans G2.out
  have B5 : Hid (Below w.heap.size w w4) := B4.out.trans (e4.mono B4.out.size)
  clear y0 y1 y2 y3 y4 y5 y6 y7 y8
  clear e4 G1 G2 B4 hl4
  have y0 : w4.cell? ⟨w2.heap.size, 0, none⟩ = some (.int .i64 E) := cell_ofB K2.out 0
  have y1 : w4.cell? ⟨w2.heap.size, 1, none⟩ = some (.int .i64 0) := cell_ofB K2.out 1
  have y2 : w4.cell? ⟨w2.heap.size, 2, none⟩ = some (.int .i64 0) := cell_ofB K2.out 2
  have y3 : w4.cell? ⟨w2.heap.size, 3, none⟩ = some (.string ⟨#[]⟩) := cell_ofB K2.out 3
  have y4 : w4.cell? ⟨w2.heap.size, 4, none⟩ = some (.int .i64 M) := cell_ofB K2.out 4
  have y5 : w4.cell? ⟨w2.heap.size, 5, none⟩ = some (.slice none 0 0) := cell_ofB K2.out 5
  have y6 : w4.cell? ⟨w2.heap.size, 6, none⟩ = some (.slice none 0 0) := cell_ofB K2.out 6
  have y7 : w4.cell? ⟨w2.heap.size, 7, none⟩ = some (.int .i64 0) := cell_ofB K2.out 7
  have y8 : w4.cell? ⟨w2.heap.size, 8, none⟩ = some (.bool false) := cell_ofB K2.out 8
  go_wp2_with fail
  refine (heldSes_any E M _).mono ?_
  rintro r w5 ⟨rfl, e5⟩
  have hl5 : w2.heap.size < w4.heap.size := (Array.getElem?_eq_some_iff.1 K2.out).1
  have N1 : Hid (w5.heap[w1.heap.size]? = some (.cells #[.int .i64 E, .int .i64 0, .int .i64 0, .string ⟨#[]⟩, .int .i64 M, .slice none 0 0, .slice none 0 0, .int .i64 0, .bool false] 53)) := (e5.block _ (by omega)).trans K1.out
  have N2 : Hid (w5.heap[w2.heap.size]? = some (.cells #[.int .i64 E, .int .i64 0, .int .i64 0, .string ⟨#[]⟩, .int .i64 M, .slice none 0 0, .slice none 0 0, .int .i64 0, .bool false] 53)) := (e5.block _ hl5).trans K2.out
  have B6 : Hid (Below w.heap.size w w5) := B5.out.trans (e5.mono B5.out.size)
  clear y0 y1 y2 y3 y4 y5 y6 y7 y8
  clear e5 K1 K2 B5 hl5
  go_wp2_with fail
  refine Calls.mono (HIM.out _) ?_
  rintro r w6 ⟨rfl, e6⟩
  have hl6 : w2.heap.size < w5.heap.size := (Array.getElem?_eq_some_iff.1 N2.out).1
  have hl7 : w5.heap.size ≤ w6.heap.size := e6.size
  have R1 : Hid (∀ o, (w6.alloc o).heap[w1.heap.size]? = some (.cells #[.int .i64 E, .int .i64 0, .int .i64 0, .string ⟨#[]⟩, .int .i64 M, .slice none 0 0, .slice none 0 0, .int .i64 0, .bool false] 53)) := fun o => (heap_prevB _ _ _ (by omega)).trans ((e6.block _ (by omega)).trans N1.out)
  have R2 : Hid (∀ o, (w6.alloc o).heap[w2.heap.size]? = some (.cells #[.int .i64 E, .int .i64 0, .int .i64 0, .string ⟨#[]⟩, .int .i64 M, .slice none 0 0, .slice none 0 0, .int .i64 0, .bool false] 53)) := fun o => (heap_prevB _ _ _ (by omega)).trans ((e6.block _ hl6).trans N2.out)
  have R3 : Hid ((w6.alloc (.cells #[.int .i64 E, .int .i64 0, .int .i64 0, .string ⟨#[]⟩, .int .i64 M, .slice none 0 0, .slice none 0 0, .int .i64 0, .bool false] 53)).heap[w6.heap.size]? = some (.cells #[.int .i64 E, .int .i64 0, .int .i64 0, .string ⟨#[]⟩, .int .i64 M, .slice none 0 0, .slice none 0 0, .int .i64 0, .bool false] 53)) := heap_lastB _ _ _ rfl
  have B7 : Hid (∀ o, Below w.heap.size w (w6.alloc o)) := fun o => by
    have q := B6.out.trans (e6.mono B6.out.size)
    exact q.alloc q.size o
  have hm1 : ¬ w1.heap.size = w6.heap.size := by omega
  have hm2 : ¬ w6.heap.size = w1.heap.size := by omega
  have hm3 : ¬ w2.heap.size = w6.heap.size := by omega
  have hm4 : ¬ w6.heap.size = w2.heap.size := by omega
  clear e6 N1 N2 B6
  have x0 : (w6.alloc (.cells #[.int .i64 E, .int .i64 0, .int .i64 0, .string ⟨#[]⟩, .int .i64 M, .slice none 0 0, .slice none 0 0, .int .i64 0, .bool false] 53)).cell? ⟨w1.heap.size, 0, none⟩ = some (.int .i64 E) := cell_ofB (R1.out _) 0
  have x1 : (w6.alloc (.cells #[.int .i64 E, .int .i64 0, .int .i64 0, .string ⟨#[]⟩, .int .i64 M, .slice none 0 0, .slice none 0 0, .int .i64 0, .bool false] 53)).cell? ⟨w1.heap.size, 1, none⟩ = some (.int .i64 0) := cell_ofB (R1.out _) 1
  have x2 : (w6.alloc (.cells #[.int .i64 E, .int .i64 0, .int .i64 0, .string ⟨#[]⟩, .int .i64 M, .slice none 0 0, .slice none 0 0, .int .i64 0, .bool false] 53)).cell? ⟨w1.heap.size, 2, none⟩ = some (.int .i64 0) := cell_ofB (R1.out _) 2
  have x3 : (w6.alloc (.cells #[.int .i64 E, .int .i64 0, .int .i64 0, .string ⟨#[]⟩, .int .i64 M, .slice none 0 0, .slice none 0 0, .int .i64 0, .bool false] 53)).cell? ⟨w1.heap.size, 3, none⟩ = some (.string ⟨#[]⟩) := cell_ofB (R1.out _) 3
  have x4 : (w6.alloc (.cells #[.int .i64 E, .int .i64 0, .int .i64 0, .string ⟨#[]⟩, .int .i64 M, .slice none 0 0, .slice none 0 0, .int .i64 0, .bool false] 53)).cell? ⟨w1.heap.size, 4, none⟩ = some (.int .i64 M) := cell_ofB (R1.out _) 4
  have x5 : (w6.alloc (.cells #[.int .i64 E, .int .i64 0, .int .i64 0, .string ⟨#[]⟩, .int .i64 M, .slice none 0 0, .slice none 0 0, .int .i64 0, .bool false] 53)).cell? ⟨w1.heap.size, 5, none⟩ = some (.slice none 0 0) := cell_ofB (R1.out _) 5
  have x6 : (w6.alloc (.cells #[.int .i64 E, .int .i64 0, .int .i64 0, .string ⟨#[]⟩, .int .i64 M, .slice none 0 0, .slice none 0 0, .int .i64 0, .bool false] 53)).cell? ⟨w1.heap.size, 6, none⟩ = some (.slice none 0 0) := cell_ofB (R1.out _) 6
  have x7 : (w6.alloc (.cells #[.int .i64 E, .int .i64 0, .int .i64 0, .string ⟨#[]⟩, .int .i64 M, .slice none 0 0, .slice none 0 0, .int .i64 0, .bool false] 53)).cell? ⟨w1.heap.size, 7, none⟩ = some (.int .i64 0) := cell_ofB (R1.out _) 7
  have x8 : (w6.alloc (.cells #[.int .i64 E, .int .i64 0, .int .i64 0, .string ⟨#[]⟩, .int .i64 M, .slice none 0 0, .slice none 0 0, .int .i64 0, .bool false] 53)).cell? ⟨w1.heap.size, 8, none⟩ = some (.bool false) := cell_ofB (R1.out _) 8
  have y0 : (w6.alloc (.cells #[.int .i64 E, .int .i64 0, .int .i64 0, .string ⟨#[]⟩, .int .i64 M, .slice none 0 0, .slice none 0 0, .int .i64 0, .bool false] 53)).cell? ⟨w6.heap.size, 0, none⟩ = some (.int .i64 E) := cell_ofB R3.out 0
  have y1 : (w6.alloc (.cells #[.int .i64 E, .int .i64 0, .int .i64 0, .string ⟨#[]⟩, .int .i64 M, .slice none 0 0, .slice none 0 0, .int .i64 0, .bool false] 53)).cell? ⟨w6.heap.size, 1, none⟩ = some (.int .i64 0) := cell_ofB R3.out 1
  have y2 : (w6.alloc (.cells #[.int .i64 E, .int .i64 0, .int .i64 0, .string ⟨#[]⟩, .int .i64 M, .slice none 0 0, .slice none 0 0, .int .i64 0, .bool false] 53)).cell? ⟨w6.heap.size, 2, none⟩ = some (.int .i64 0) := cell_ofB R3.out 2
  have y3 : (w6.alloc (.cells #[.int .i64 E, .int .i64 0, .int .i64 0, .string ⟨#[]⟩, .int .i64 M, .slice none 0 0, .slice none 0 0, .int .i64 0, .bool false] 53)).cell? ⟨w6.heap.size, 3, none⟩ = some (.string ⟨#[]⟩) := cell_ofB R3.out 3
  have y4 : (w6.alloc (.cells #[.int .i64 E, .int .i64 0, .int .i64 0, .string ⟨#[]⟩, .int .i64 M, .slice none 0 0, .slice none 0 0, .int .i64 0, .bool false] 53)).cell? ⟨w6.heap.size, 4, none⟩ = some (.int .i64 M) := cell_ofB R3.out 4
  have y5 : (w6.alloc (.cells #[.int .i64 E, .int .i64 0, .int .i64 0, .string ⟨#[]⟩, .int .i64 M, .slice none 0 0, .slice none 0 0, .int .i64 0, .bool false] 53)).cell? ⟨w6.heap.size, 5, none⟩ = some (.slice none 0 0) := cell_ofB R3.out 5
  have y6 : (w6.alloc (.cells #[.int .i64 E, .int .i64 0, .int .i64 0, .string ⟨#[]⟩, .int .i64 M, .slice none 0 0, .slice none 0 0, .int .i64 0, .bool false] 53)).cell? ⟨w6.heap.size, 6, none⟩ = some (.slice none 0 0) := cell_ofB R3.out 6
  have y7 : (w6.alloc (.cells #[.int .i64 E, .int .i64 0, .int .i64 0, .string ⟨#[]⟩, .int .i64 M, .slice none 0 0, .slice none 0 0, .int .i64 0, .bool false] 53)).cell? ⟨w6.heap.size, 7, none⟩ = some (.int .i64 0) := cell_ofB R3.out 7
  have y8 : (w6.alloc (.cells #[.int .i64 E, .int .i64 0, .int .i64 0, .string ⟨#[]⟩, .int .i64 M, .slice none 0 0, .slice none 0 0, .int .i64 0, .bool false] 53)).cell? ⟨w6.heap.size, 8, none⟩ = some (.bool false) := cell_ofB R3.out 8
  go_wp2_with fail
  refine (eqSes_any E M _).mono ?_
  rintro r w7 ⟨rfl, e7⟩
  have S2 : Hid (w7.heap[w2.heap.size]? = some (.cells #[.int .i64 E, .int .i64 0, .int .i64 0, .string ⟨#[]⟩, .int .i64 M, .slice none 0 0, .slice none 0 0, .int .i64 0, .bool false] 53)) := (e7.block _ (by simp; omega)).trans (R2.out _)
  have B8 : Hid (Below w.heap.size w w7) := (B7.out _).trans (e7.mono (B7.out _).size)
  clear x0 x1 x2 x3 x4 x5 x6 x7 x8
  clear y0 y1 y2 y3 y4 y5 y6 y7 y8
  clear e7 R1 R2 R3 B7
  have y0 : w7.cell? ⟨w2.heap.size, 0, none⟩ = some (.int .i64 E) := cell_ofB S2.out 0
  have y1 : w7.cell? ⟨w2.heap.size, 1, none⟩ = some (.int .i64 0) := cell_ofB S2.out 1
  have y2 : w7.cell? ⟨w2.heap.size, 2, none⟩ = some (.int .i64 0) := cell_ofB S2.out 2
  have y3 : w7.cell? ⟨w2.heap.size, 3, none⟩ = some (.string ⟨#[]⟩) := cell_ofB S2.out 3
  have y4 : w7.cell? ⟨w2.heap.size, 4, none⟩ = some (.int .i64 M) := cell_ofB S2.out 4
  have y5 : w7.cell? ⟨w2.heap.size, 5, none⟩ = some (.slice none 0 0) := cell_ofB S2.out 5
  have y6 : w7.cell? ⟨w2.heap.size, 6, none⟩ = some (.slice none 0 0) := cell_ofB S2.out 6
  have y7 : w7.cell? ⟨w2.heap.size, 7, none⟩ = some (.int .i64 0) := cell_ofB S2.out 7
  have y8 : w7.cell? ⟨w2.heap.size, 8, none⟩ = some (.bool false) := cell_ofB S2.out 8
  go_wp2_with fail
  refine (heldSes_any E M _).mono ?_
  rintro r w8 ⟨rfl, e8⟩
  have B9 : Hid (Below w.heap.size w w8) := B8.out.trans (e8.mono B8.out.size)
  clear y0 y1 y2 y3 y4 y5 y6 y7 y8
  clear e8 S2 B8
  go_wp2
  go_ret
  exact ⟨rfl, B9.out⟩
theorem walk (en : Int) (most : Int) (w : World) :
    Calls Try.prog 8 #[.int .i64 en, .int .i64 most] w fun r w' => r = .returned (.bool true) ∧ Below w.heap.size w w' := by
  cases hc : codeB en
  · exact core en most 0 0 false w (fun w' => sNewS_no en most w' (by rw [hc]; rfl)) (fun w' => iNewS_code en most w' hc)
  · cases hm : decide (1 ≤ most ∧ most ≤ 60)
    · exact core en most 0 0 false w (fun w' => sNewS_no en most w' (by rw [hc, hm]; rfl)) (fun w' => iNewS_most en most w' hc hm)
    · exact core en most en most true w (fun w' => sNewS_yes en most w' (by rw [hc, hm]; rfl)) (fun w' => iNewS_yes en most w' hc hm)
set_option maxRecDepth 100000 in
theorem lifted (os : Os) (started : os.Started) (H : Type) (enc : TypeId × Value → H) :
    ReturnsInHanded {} Try.checked os 8 .any (Rows.fnExactNewSessionSpec.pre6 enc Try.prog Try.f8 Rows.fnExactNewSessionRow.domain false) (Rows.fnExactNewSessionSpec.post enc Try.prog Try.f8 false true false false) := by
  refine returnsInHanded_of_change (C := Try.checked) own started (by kernel_rfl) Try.func8
    (ChangeSpec.witness6 (enc := enc) (C := Try.checked) false ⟨#[], #[.int .i64 0, .int .i64 0], []⟩ 8 (by kernel_rfl) (by kernel_rfl) (by kernel_rfl) (by kernel_rfl)) ?_
  intro W base args ds gs before hval0 hW hcnd _
  have hval : ∀ (j : Nat) t v, Try.f8.params[j]? = some t → args[j]? = some v → Value.okWide Try.prog W .any base t v := hval0
  have hW' := hW
  obtain ⟨p, q, hA0, hV, rfl, hfz, hnd⟩ := hW
  have hA : DataW.TrodAll enc Try.prog W 0 (fun _ => true) true Try.f8.params.toList args.toList ds p := hA0
  rw [Try.params8] at hA hval
  obtain ⟨v0, vs0, d0, ds0, p0, q0, hargs0, rfl, rfl, h0, r0⟩ := trodAll_cons hA
  obtain ⟨v1, vs1, d1, ds1, p1, q1, hargs1, rfl, rfl, h1, r1⟩ := trodAll_cons r0
  obtain ⟨rfl, rfl, rfl⟩ := trodAll_nil r1
  obtain rfl : args = #[v0, v1] := by cases args; simp_all
  obtain ⟨rfl, rfl⟩ := trodVars_none hV
  obtain ⟨a0, rfl, rfl, rfl, w0⟩ := open_int Try.underlying3 (hval 0 3 v0 rfl rfl) h0
  obtain ⟨a1, rfl, rfl, rfl, w1⟩ := open_int Try.underlying3 (hval 1 3 v1 rfl rfl) h1
  clear hA0 hval0
  refine (walk a0 a1 W  ).mono fun e W' ⟨he, bel⟩ => ?_
  subst he
  exact ⟨_, rfl, _, _, _, [], _, [], hW', trodAll_mk1 (shut_bool Try.underlying4 _), trodAll_cons_mk (shut_int Try.underlying3 w0) (trodAll_cons_mk (shut_int Try.underlying3 w1) trodAll_mk0), rfl, bel.frame _, fun h => by cases h⟩
theorem row : Rows.FnExactNewSessionSaid :=
  OpenClaim.holds_of_wide 8 Try.f8 rfl rfl rfl rfl rfl rfl rfl ⟨rfl, rfl, rfl, rfl, rfl⟩ rfl rfl rfl rfl rfl (by kernel_rfl) Try.func8 (by kernel_rfl)
    (of_decide_eq_true (by kernel_rfl)) (by unfold Func.isWrapper; first | (rw [if_pos (by decide +kernel)]; kernel_rfl) | (rw [if_neg (by decide +kernel)]; exact ⟨rfl, rfl⟩))
    (fun os started H enc _ => lifted os started H enc)
end LawNewSession
theorem newSession_holds : Rows.FnExactNewSessionSaid := LawNewSession.row
#print axioms newSession_holds
end Go.Proofs.Ytklgagonbehpeaa
