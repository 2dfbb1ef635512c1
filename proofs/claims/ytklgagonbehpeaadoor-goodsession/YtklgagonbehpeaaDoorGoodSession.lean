/-
  For every session, laws.FnExactGoodSession returns true: impl.GoodSession answers as the specification's GoodSession, and leaves the session as it was. Condition: the two package-level tables of forms hold what the program's text lays in them (tied to the text by the given card).
-/
import Derived.Test.YtklgagonbehpeaaDoorX3B
import Derived.Test.YtklgagonbehpeaaDoorX3C
import Derived.Deep.RegionHeld
namespace Go.Proofs.YtklgagonbehpeaaDoor
open Go.ChangeShapes Go.WideShapes Go.ChangeAt Go.WideMaps Go.WideElems Go.RowKit
open Go.ChangeMaps (open_string shut_string)
namespace LawGoodSession
set_option maxRecDepth 100000 in
set_option maxHeartbeats 4000000 in
theorem core (en sh lo : Int) (held : ByteArray) (M G : Int) (R L : List Int) (E : Bool) (s a : Option Addr) (cs ca : Nat) (w : World) (hT : Tabs w) (hm : held.size ≤ maxLen) (iR : IntsAt w s R) (iL : IntsAt w a L) (hR : R.length ≤ maxLen) (hL : L.length ≤ maxLen) :
    Calls Tryd.prog 3 #[.agg #[.int .i64 en, .int .i64 sh, .int .i64 lo, .string held, .int .i64 M, .slice s R.length cs, .slice a L.length ca, .int .i64 G, .bool E]] w fun r w' => r = .returned (.bool true) ∧ Below w.heap.size w w' := by
  have HT : Hid _ := hT
  have HR : Hid _ := iR
  have HL : Hid _ := iL
  have A1 : ∀ o, Below w.heap.size w (w.alloc o) := fun o => (Below.refl _ _).alloc (Nat.le_refl _) o
  have HSZ : Hid _ := fun o => szSes_any en sh lo held M G R L E s a cs ca (w.alloc o) hR hL hm
  clear iR iL hR hL hm hT
  go_enter Tryd.func3, Tryd.ntmps3
  go_wp2_with fail
  refine Calls.mono (HSZ.out _) ?_
  rintro r w1 ⟨hs, b1⟩
  have hbl1 : w1.heap[w.heap.size]? = some (.cells #[.int .i64 en, .int .i64 sh, .int .i64 lo, .string held, .int .i64 M, .slice s R.length cs, .slice a L.length ca, .int .i64 G, .bool E] 28) := (b1.block w.heap.size (by simp)).trans (heap_lastB _ _ _ rfl)
  have hs1 : w.heap.size < w1.heap.size := Nat.lt_of_lt_of_le (by simp) b1.size
  have B1 : Hid (Below w.heap.size w w1) := (A1 _).trans (b1.mono (by simp))
  clear b1 HSZ A1
  rcases hs with ⟨hs, z, hz0, rfl⟩ | rfl
  case inr =>
    go_wp2
    go_ret
    exact ⟨rfl, B1.out⟩
  have hlR : R.length ≤ 1048576 := by omega
  have hlL : L.length ≤ 1048576 := by omega
  have hz : ¬ z < 0 := by omega
  clear hs hz0
  have g0 : w1.cell? ⟨w.heap.size, 0, none⟩ = some (.int .i64 en) := cell_ofB hbl1 0
  have g1 : w1.cell? ⟨w.heap.size, 1, none⟩ = some (.int .i64 sh) := cell_ofB hbl1 1
  have g2 : w1.cell? ⟨w.heap.size, 2, none⟩ = some (.int .i64 lo) := cell_ofB hbl1 2
  have g3 : w1.cell? ⟨w.heap.size, 3, none⟩ = some (.string held) := cell_ofB hbl1 3
  have g4 : w1.cell? ⟨w.heap.size, 4, none⟩ = some (.int .i64 M) := cell_ofB hbl1 4
  have g5 : w1.cell? ⟨w.heap.size, 5, none⟩ = some (.slice s R.length cs) := cell_ofB hbl1 5
  have g6 : w1.cell? ⟨w.heap.size, 6, none⟩ = some (.slice a L.length ca) := cell_ofB hbl1 6
  have g7 : w1.cell? ⟨w.heap.size, 7, none⟩ = some (.int .i64 G) := cell_ofB hbl1 7
  have g8 : w1.cell? ⟨w.heap.size, 8, none⟩ = some (.bool E) := cell_ofB hbl1 8
  go_wp2_with fail
  refine (toSes_any en sh lo held M G R L E s a cs ca _ hlR hlL (IntsAt.keepB HR.out B1.out) (IntsAt.keepB HL.out B1.out)).mono ?_
  rintro r w2 ⟨x2, y2, cx2, cy2, rfl, i2, j2, b2⟩
  have JR2 : Hid (IntsAt w2 x2 R) := i2
  have JL2 : Hid (IntsAt w2 y2 L) := j2
  have hbl2 := (b2.block w.heap.size hs1).trans hbl1
  have hs2 : w.heap.size < w2.heap.size := Nat.lt_of_lt_of_le hs1 b2.size
  have B2 : Hid (Below w.heap.size w w2) := B1.out.trans (b2.mono B1.out.size)
  clear b2 i2 j2 g0 g1 g2 g3 g4 g5 g6 g7 g8 hbl1 B1
  go_wp2_with fail
  refine (sGoodSes_any en sh lo held M G R L E _ _ _ _ _ hlR hlL JR2.out JL2.out).mono ?_
  rintro r w3 ⟨rfl, b3⟩
  have hbl3 := (b3.block w.heap.size hs2).trans hbl2
  have hs3 : w.heap.size < w3.heap.size := Nat.lt_of_lt_of_le hs2 b3.size
  have B3 : Hid (Below w.heap.size w w3) := B2.out.trans (b3.mono B2.out.size)
  have g0 : w3.cell? ⟨w.heap.size, 0, none⟩ = some (.int .i64 en) := cell_ofB hbl3 0
  have g1 : w3.cell? ⟨w.heap.size, 1, none⟩ = some (.int .i64 sh) := cell_ofB hbl3 1
  have g2 : w3.cell? ⟨w.heap.size, 2, none⟩ = some (.int .i64 lo) := cell_ofB hbl3 2
  have g3 : w3.cell? ⟨w.heap.size, 3, none⟩ = some (.string held) := cell_ofB hbl3 3
  have g4 : w3.cell? ⟨w.heap.size, 4, none⟩ = some (.int .i64 M) := cell_ofB hbl3 4
  have g5 : w3.cell? ⟨w.heap.size, 5, none⟩ = some (.slice s R.length cs) := cell_ofB hbl3 5
  have g6 : w3.cell? ⟨w.heap.size, 6, none⟩ = some (.slice a L.length ca) := cell_ofB hbl3 6
  have g7 : w3.cell? ⟨w.heap.size, 7, none⟩ = some (.int .i64 G) := cell_ofB hbl3 7
  have g8 : w3.cell? ⟨w.heap.size, 8, none⟩ = some (.bool E) := cell_ofB hbl3 8
  clear b3 hbl2 JR2 JL2 B2
  go_wp2_with fail
  refine (toSes_any en sh lo held M G R L E s a cs ca _ hlR hlL (IntsAt.keepB HR.out B3.out) (IntsAt.keepB HL.out B3.out)).mono ?_
  rintro r w4 ⟨x, y, cx, cy, rfl, i4, j4, b4⟩
  have hbl4 := (b4.block w.heap.size hs3).trans hbl3
  have hs4 : w.heap.size < w4.heap.size := Nat.lt_of_lt_of_le hs3 b4.size
  have B4 : Hid (Below w.heap.size w w4) := B3.out.trans (b4.mono B3.out.size)
  have A4 : ∀ o, Below w4.heap.size w4 (w4.alloc o) := fun o => (Below.refl _ _).alloc (Nat.le_refl _) o
  have JR4 : Hid (∀ o, IntsAt (w4.alloc o) x R) := fun o => i4.keepB (A4 o)
  have JL4 : Hid (∀ o, IntsAt (w4.alloc o) y L) := fun o => j4.keepB (A4 o)
  have HT4 : Hid (∀ o, Tabs (w4.alloc o)) := fun o => HT.out.below (B4.out.trans ((A4 o).mono B4.out.size))
  clear b4 i4 j4 g0 g1 g2 g3 g4 g5 g6 g7 g8 hbl3 B3
  go_wp2_with fail
  refine (iGoodSes_any en sh lo held M G R L E _ _ _ _ _ (HT4.out _) hlR hlL (JR4.out _) (JL4.out _)).mono ?_
  rintro r w5 ⟨rfl, b5⟩
  have hbl5 := (b5.block w.heap.size (by simp; omega)).trans ((A4 _).block w.heap.size hs4 |>.trans hbl4)
  have hbx5 : w5.heap[w4.heap.size]? = some (.cells #[.int .i64 en, .int .i64 sh, .int .i64 lo, .string held, .int .i64 M, .slice x R.length cx, .slice y L.length cy, .int .i64 G, .bool E] 34) := (b5.block w4.heap.size (by simp)).trans (heap_lastB _ _ _ rfl)
  have hs5 : w4.heap.size < w5.heap.size := Nat.lt_of_lt_of_le (by simp) b5.size
  have JR5 : Hid (IntsAt w5 x R) := IntsAt.keepB (JR4.out _) b5
  have JL5 : Hid (IntsAt w5 y L) := IntsAt.keepB (JL4.out _) b5
  have B5 : Hid (Below w.heap.size w w5) := (B4.out.trans ((A4 _).mono B4.out.size)).trans (b5.mono (Nat.le_trans B4.out.size (by simp)))
  clear b5 JR4 JL4 A4 B4 hbl4 HT4
  have bb0 : (goodSes en sh lo held M G R L E == goodSes en sh lo held M G R L E) = true := by simp
  generalize goodSes en sh lo held M G R L E = f at *
  have sD : (w5.drew.cell? ⟨w.heap.size, 0, none⟩ = some (.int .i64 en) ∧ w5.drew.cell? ⟨w.heap.size, 1, none⟩ = some (.int .i64 sh) ∧ w5.drew.cell? ⟨w.heap.size, 2, none⟩ = some (.int .i64 lo) ∧ w5.drew.cell? ⟨w.heap.size, 3, none⟩ = some (.string held) ∧ w5.drew.cell? ⟨w.heap.size, 4, none⟩ = some (.int .i64 M) ∧ w5.drew.cell? ⟨w.heap.size, 5, none⟩ = some (.slice s R.length cs) ∧ w5.drew.cell? ⟨w.heap.size, 6, none⟩ = some (.slice a L.length ca) ∧ w5.drew.cell? ⟨w.heap.size, 7, none⟩ = some (.int .i64 G) ∧ w5.drew.cell? ⟨w.heap.size, 8, none⟩ = some (.bool E) ∧ w5.drew.cell? ⟨w4.heap.size, 0, none⟩ = some (.int .i64 en) ∧ w5.drew.cell? ⟨w4.heap.size, 1, none⟩ = some (.int .i64 sh) ∧ w5.drew.cell? ⟨w4.heap.size, 2, none⟩ = some (.int .i64 lo) ∧ w5.drew.cell? ⟨w4.heap.size, 3, none⟩ = some (.string held) ∧ w5.drew.cell? ⟨w4.heap.size, 4, none⟩ = some (.int .i64 M) ∧ w5.drew.cell? ⟨w4.heap.size, 5, none⟩ = some (.slice x R.length cx) ∧ w5.drew.cell? ⟨w4.heap.size, 6, none⟩ = some (.slice y L.length cy) ∧ w5.drew.cell? ⟨w4.heap.size, 7, none⟩ = some (.int .i64 G) ∧ w5.drew.cell? ⟨w4.heap.size, 8, none⟩ = some (.bool E)) := ⟨cell_ofB hbl5 0, cell_ofB hbl5 1, cell_ofB hbl5 2, cell_ofB hbl5 3, cell_ofB hbl5 4, cell_ofB hbl5 5, cell_ofB hbl5 6, cell_ofB hbl5 7, cell_ofB hbl5 8, cell_ofB hbx5 0, cell_ofB hbx5 1, cell_ofB hbx5 2, cell_ofB hbx5 3, cell_ofB hbx5 4, cell_ofB hbx5 5, cell_ofB hbx5 6, cell_ofB hbx5 7, cell_ofB hbx5 8⟩
  have DR5 : Hid (Below w5.heap.size w5 w5.drew) := (Below.refl _ _).drew
  have B5d : Hid (Below w.heap.size w w5.drew) := B5.out.drew
  have HBL5 : Hid (w5.drew.heap[w.heap.size]? = some (.cells #[.int .i64 en, .int .i64 sh, .int .i64 lo, .string held, .int .i64 M, .slice s R.length cs, .slice a L.length ca, .int .i64 G, .bool E] 28)) := hbl5
  have HBX5 : Hid (w5.drew.heap[w4.heap.size]? = some (.cells #[.int .i64 en, .int .i64 sh, .int .i64 lo, .string held, .int .i64 M, .slice x R.length cx, .slice y L.length cy, .int .i64 G, .bool E] 34)) := hbx5
  clear hbl5 hbx5
  go_wp2
  go_region_held (fun w' => (w'.cell? ⟨w.heap.size, 0, none⟩ = some (.int .i64 en) ∧ w'.cell? ⟨w.heap.size, 1, none⟩ = some (.int .i64 sh) ∧ w'.cell? ⟨w.heap.size, 2, none⟩ = some (.int .i64 lo) ∧ w'.cell? ⟨w.heap.size, 3, none⟩ = some (.string held) ∧ w'.cell? ⟨w.heap.size, 4, none⟩ = some (.int .i64 M) ∧ w'.cell? ⟨w.heap.size, 5, none⟩ = some (.slice s R.length cs) ∧ w'.cell? ⟨w.heap.size, 6, none⟩ = some (.slice a L.length ca) ∧ w'.cell? ⟨w.heap.size, 7, none⟩ = some (.int .i64 G) ∧ w'.cell? ⟨w.heap.size, 8, none⟩ = some (.bool E) ∧ w'.cell? ⟨w4.heap.size, 0, none⟩ = some (.int .i64 en) ∧ w'.cell? ⟨w4.heap.size, 1, none⟩ = some (.int .i64 sh) ∧ w'.cell? ⟨w4.heap.size, 2, none⟩ = some (.int .i64 lo) ∧ w'.cell? ⟨w4.heap.size, 3, none⟩ = some (.string held) ∧ w'.cell? ⟨w4.heap.size, 4, none⟩ = some (.int .i64 M) ∧ w'.cell? ⟨w4.heap.size, 5, none⟩ = some (.slice x R.length cx) ∧ w'.cell? ⟨w4.heap.size, 6, none⟩ = some (.slice y L.length cy) ∧ w'.cell? ⟨w4.heap.size, 7, none⟩ = some (.int .i64 G) ∧ w'.cell? ⟨w4.heap.size, 8, none⟩ = some (.bool E))) (first | assumption) (first
    | (go_at_call 6; refine (toSes_any en sh lo held M G R L E s a cs ca _ hlR hlL (IntsAt.keepB HR.out B5d.out) (IntsAt.keepB HL.out B5d.out)).mono ?_
       rintro r w6 ⟨x6, y6, cx6, cy6, rfl, i6, j6, b6⟩
       have hb1 : w6.heap[w.heap.size]? = some (.cells #[.int .i64 en, .int .i64 sh, .int .i64 lo, .string held, .int .i64 M, .slice s R.length cs, .slice a L.length ca, .int .i64 G, .bool E] 28) := (b6.block w.heap.size (by show w.heap.size < w5.heap.size; omega)).trans HBL5.out
       have hb2 : w6.heap[w4.heap.size]? = some (.cells #[.int .i64 en, .int .i64 sh, .int .i64 lo, .string held, .int .i64 M, .slice x R.length cx, .slice y L.length cy, .int .i64 G, .bool E] 34) := (b6.block w4.heap.size hs5).trans HBX5.out
       have s6 : (w6.cell? ⟨w.heap.size, 0, none⟩ = some (.int .i64 en) ∧ w6.cell? ⟨w.heap.size, 1, none⟩ = some (.int .i64 sh) ∧ w6.cell? ⟨w.heap.size, 2, none⟩ = some (.int .i64 lo) ∧ w6.cell? ⟨w.heap.size, 3, none⟩ = some (.string held) ∧ w6.cell? ⟨w.heap.size, 4, none⟩ = some (.int .i64 M) ∧ w6.cell? ⟨w.heap.size, 5, none⟩ = some (.slice s R.length cs) ∧ w6.cell? ⟨w.heap.size, 6, none⟩ = some (.slice a L.length ca) ∧ w6.cell? ⟨w.heap.size, 7, none⟩ = some (.int .i64 G) ∧ w6.cell? ⟨w.heap.size, 8, none⟩ = some (.bool E) ∧ w6.cell? ⟨w4.heap.size, 0, none⟩ = some (.int .i64 en) ∧ w6.cell? ⟨w4.heap.size, 1, none⟩ = some (.int .i64 sh) ∧ w6.cell? ⟨w4.heap.size, 2, none⟩ = some (.int .i64 lo) ∧ w6.cell? ⟨w4.heap.size, 3, none⟩ = some (.string held) ∧ w6.cell? ⟨w4.heap.size, 4, none⟩ = some (.int .i64 M) ∧ w6.cell? ⟨w4.heap.size, 5, none⟩ = some (.slice x R.length cx) ∧ w6.cell? ⟨w4.heap.size, 6, none⟩ = some (.slice y L.length cy) ∧ w6.cell? ⟨w4.heap.size, 7, none⟩ = some (.int .i64 G) ∧ w6.cell? ⟨w4.heap.size, 8, none⟩ = some (.bool E)) := ⟨cell_ofB hb1 0, cell_ofB hb1 1, cell_ofB hb1 2, cell_ofB hb1 3, cell_ofB hb1 4, cell_ofB hb1 5, cell_ofB hb1 6, cell_ofB hb1 7, cell_ofB hb1 8, cell_ofB hb2 0, cell_ofB hb2 1, cell_ofB hb2 2, cell_ofB hb2 3, cell_ofB hb2 4, cell_ofB hb2 5, cell_ofB hb2 6, cell_ofB hb2 7, cell_ofB hb2 8⟩
       have HB1 : Hid (w6.heap[w.heap.size]? = some (.cells #[.int .i64 en, .int .i64 sh, .int .i64 lo, .string held, .int .i64 M, .slice s R.length cs, .slice a L.length ca, .int .i64 G, .bool E] 28)) := hb1
       have HB2 : Hid (w6.heap[w4.heap.size]? = some (.cells #[.int .i64 en, .int .i64 sh, .int .i64 lo, .string held, .int .i64 M, .slice x R.length cx, .slice y L.length cy, .int .i64 G, .bool E] 34)) := hb2
       have JR6 : Hid (IntsAt w6 x6 R) := i6
       have JL6 : Hid (IntsAt w6 y6 L) := j6
       have KR6 : Hid (IntsAt w6 x R) := IntsAt.keepB (IntsAt.keepB JR5.out DR5.out) b6
       have KL6 : Hid (IntsAt w6 y L) := IntsAt.keepB (IntsAt.keepB JL5.out DR5.out) b6
       have B6 : Hid (Below w.heap.size w w6) := B5d.out.trans (b6.mono B5d.out.size)
       have hs6 : w4.heap.size < w6.heap.size := Nat.lt_of_lt_of_le hs5 b6.size
       clear b6 i6 j6 hb1 hb2)
    | (go_at_call 8; refine (eqSes_any en sh lo held M G R L E _ _ _ _ _ _ _ _ _ hlR hlL KR6.out KL6.out JR6.out JL6.out).mono ?_
       rintro r w7 ⟨rfl, b7⟩
       have hb1 : w7.heap[w.heap.size]? = some (.cells #[.int .i64 en, .int .i64 sh, .int .i64 lo, .string held, .int .i64 M, .slice s R.length cs, .slice a L.length ca, .int .i64 G, .bool E] 28) := (b7.block w.heap.size (by omega)).trans HB1.out
       have hb2 : w7.heap[w4.heap.size]? = some (.cells #[.int .i64 en, .int .i64 sh, .int .i64 lo, .string held, .int .i64 M, .slice x R.length cx, .slice y L.length cy, .int .i64 G, .bool E] 34) := (b7.block w4.heap.size hs6).trans HB2.out
       have s7 : (w7.cell? ⟨w.heap.size, 0, none⟩ = some (.int .i64 en) ∧ w7.cell? ⟨w.heap.size, 1, none⟩ = some (.int .i64 sh) ∧ w7.cell? ⟨w.heap.size, 2, none⟩ = some (.int .i64 lo) ∧ w7.cell? ⟨w.heap.size, 3, none⟩ = some (.string held) ∧ w7.cell? ⟨w.heap.size, 4, none⟩ = some (.int .i64 M) ∧ w7.cell? ⟨w.heap.size, 5, none⟩ = some (.slice s R.length cs) ∧ w7.cell? ⟨w.heap.size, 6, none⟩ = some (.slice a L.length ca) ∧ w7.cell? ⟨w.heap.size, 7, none⟩ = some (.int .i64 G) ∧ w7.cell? ⟨w.heap.size, 8, none⟩ = some (.bool E) ∧ w7.cell? ⟨w4.heap.size, 0, none⟩ = some (.int .i64 en) ∧ w7.cell? ⟨w4.heap.size, 1, none⟩ = some (.int .i64 sh) ∧ w7.cell? ⟨w4.heap.size, 2, none⟩ = some (.int .i64 lo) ∧ w7.cell? ⟨w4.heap.size, 3, none⟩ = some (.string held) ∧ w7.cell? ⟨w4.heap.size, 4, none⟩ = some (.int .i64 M) ∧ w7.cell? ⟨w4.heap.size, 5, none⟩ = some (.slice x R.length cx) ∧ w7.cell? ⟨w4.heap.size, 6, none⟩ = some (.slice y L.length cy) ∧ w7.cell? ⟨w4.heap.size, 7, none⟩ = some (.int .i64 G) ∧ w7.cell? ⟨w4.heap.size, 8, none⟩ = some (.bool E)) := ⟨cell_ofB hb1 0, cell_ofB hb1 1, cell_ofB hb1 2, cell_ofB hb1 3, cell_ofB hb1 4, cell_ofB hb1 5, cell_ofB hb1 6, cell_ofB hb1 7, cell_ofB hb1 8, cell_ofB hb2 0, cell_ofB hb2 1, cell_ofB hb2 2, cell_ofB hb2 3, cell_ofB hb2 4, cell_ofB hb2 5, cell_ofB hb2 6, cell_ofB hb2 7, cell_ofB hb2 8⟩
       have B7 : Hid (Below w.heap.size w w7) := B6.out.trans (b7.mono B6.out.size)
       clear b7 hb1 hb2))
  all_goals
    go_wp2
    go_ret
    exact ⟨rfl, B7.out⟩
set_option maxRecDepth 100000 in
theorem lifted (os : Os) (started : os.Started) (H : Type) (enc : TypeId × Value → H) :
    ReturnsInHanded {} Tryd.checked os 3 .any (fun w args => (Rows.fnExactGoodSessionSpec.pre enc Tryd.prog Tryd.f3 [] false w args ∧ laidMetH Tryd.prog laid2 w) ∧ sizedMet enc Tryd.prog Tryd.f3 (OpenSpec.ofChange Rows.fnExactGoodSessionSpec) false w args)
      (Rows.fnExactGoodSessionSpec.post enc Tryd.prog Tryd.f3 false true false false) := by
  refine returnsInHanded_of_change_and (C := Tryd.checked) (X := fun w _ => laidMetH Tryd.prog laid2 w) (fun _ _ _ hh h => h.of_heap hh) own started (by kernel_rfl) Tryd.func3
    (ChangeSpec.witness_shaped (enc := enc) (C := Tryd.checked) (os := os) (X := fun w _ => laidMetH Tryd.prog laid2 w) false (World.doorLaid Tryd.prog 400 os) #[.agg #[.int .i64 0, .int .i64 0, .int .i64 0, .string ⟨#[]⟩, .int .i64 0, .slice none 0 0, .slice none 0 0, .int .i64 0, .bool false]] 8 rfl (World.shaped_of_RefB (by kernel_rfl) (by kernel_rfl)) (by kernel_rfl) (by kernel_rfl) (by kernel_rfl) (door_met os _)) ?_
  intro W base args ds gs before hval0 hW _ _ hLL _
  have hval : ∀ (j : Nat) t v, Tryd.f3.params[j]? = some t → args[j]? = some v → Value.okWide Tryd.prog W .any base t v := hval0
  have hW' := hW
  obtain ⟨p, q, hA0, hV0, rfl, hfz, hnd⟩ := hW
  have hA : DataW.TrodAll enc Tryd.prog W 0 (fun _ => true) true Tryd.f3.params.toList args.toList ds p := hA0
  have hV : DataW.TrodVars enc Tryd.prog W (fun _ => true) vars2 gs q := hV0
  rw [Tryd.params3] at hA hval
  obtain ⟨v0, vs0, d0, ds0, p0, q0, hargs0, rfl, rfl, h0, r0⟩ := trodAll_cons hA
  obtain ⟨rfl, rfl, rfl⟩ := trodAll_nil r0
  obtain rfl : args = #[v0] := by cases args; simp_all
  have k0 := h0
  have lt0 : ∀ x ∈ p0, x.block < W.heap.size := by obtain ⟨m, hm⟩ := k0; exact DataW.trod_lt m _ _ _ hm
  obtain ⟨en, sh, lo, held, M, G, R, L, E, s, a, cs, ca, rfl, iR, iL, hR, hL, hh⟩ := open_ses (hval 0 28 v0 rfl rfl) h0
  obtain ⟨g, t, css, fuel, d, q1, g', t', cs', fuel', d', q2, rfl, _⟩ := trodVars_two hV
  clear hA0 hval0
  refine (core en sh lo held M G R L E s a cs ca W (tabs_of_laid hLL) hh iR iL hR hL).mono fun e W' ⟨he, bel⟩ => ?_
  subst he
  exact ⟨_, rfl, _, _, _, [], _, q, hW', trodAll_mk1 (shut_bool Tryd.underlying4 _), (trodAll_cons_mk (Below.trod laidOut (by kernel_rfl) (of_decide_eq_true (by kernel_rfl)) k0 bel lt0) trodAll_mk0), bel.trodVars laidOut (by kernel_rfl) hV, bel.frame _, fun h => by cases h⟩
theorem row : Rows.FnExactGoodSessionSaid :=
  OpenClaim.holds_of_wide 3 Tryd.f3 rfl rfl rfl rfl rfl rfl rfl ⟨rfl, rfl, rfl, rfl, rfl⟩ rfl rfl rfl rfl rfl (by kernel_rfl) Tryd.func3 (by kernel_rfl)
    (of_decide_eq_true (by kernel_rfl)) (by unfold Func.isWrapper; first | (rw [if_pos (by decide +kernel)]; kernel_rfl) | (rw [if_neg (by decide +kernel)]; exact ⟨rfl, rfl⟩))
    (fun os started H enc _ => lifted os started H enc)
end LawGoodSession
theorem goodSession_card : Rows.FnExactGoodSessionCardSaid :=
  Claim7.holds_tied_plain_at .later [] [.data, .data] true Rows.fnExactGoodSessionCard.stood.harness Rows.fnExactGoodSessionCard.stood.looks
    LawGoodSession.row (fun _ h => by cases h) (by kernel_rfl) (fun _ h => by cases h) fnExactGoodSession_row_tie rfl ⟨rfl, rfl⟩ (by kernel_rfl) rfl
    (fun f fn hf hfn => by
      obtain rfl : f = 3 := Option.some.inj ((show Tryd.prog.funcNamed "loop.example/g00692/laws.FnExactGoodSession" = some 3 by kernel_rfl).symm.trans hf) |>.symm
      obtain rfl : fn = Tryd.f3 := (Option.some.inj (Tryd.func3.symm.trans hfn)).symm
      exact ⟨by kernel_rfl, fun j t ht => by
        rw [Tryd.params3] at ht
        have hm : t ∈ [28] := by simpa using Array.mem_of_getElem? ht
        have hall : ([28].all fun u => !Tryd.prog.wantsStandIn u) = true := by kernel_rfl
        exact (show Tryd.prog.wantsStandIn t = false by simpa using List.all_eq_true.1 hall t hm)⟩)
    (by kernel_rfl)
#print axioms goodSession_card
end Go.Proofs.YtklgagonbehpeaaDoor
