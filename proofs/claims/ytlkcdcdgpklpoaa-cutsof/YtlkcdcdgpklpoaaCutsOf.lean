/-
  For every machine of places, laws.FnExactCutsOf returns true: impl.CutsOf answers as the specification's CutsOf, the cuts and the flag, in memory of its own that a second call leaves alone, and leaves the machine as it was. No conditions.
-/
import Derived.Test.YtlkcdcdgpklpoaaN6R
import Derived.Test.YtlkcdcdgpklpoaaN6U
import Derived.Lib.SmallJoins
import Derived.Deep.RegionHeld
namespace Go.Proofs.Ytlkcdcdgpklpoaa
open Go.ChangeShapes Go.WideShapes Go.ChangeAt Go.WideMaps Go.WideElems Go.RowKit
namespace LawCutsOf
theorem own : ownKnob Try.prog.godebug = none := by kernel_rfl
theorem laidOut : laidOutB Try.prog = true := by kernel_rfl
theorem xkeep {q q' : World} {i j : Nat} {o p : Obj} (h : q.heap[i]? = some o ∧ q.heap[j]? = some p) (hb : Below q.heap.size q q') : q'.heap[i]? = some o ∧ q'.heap[j]? = some p :=
  ⟨(hb.block i (Array.getElem?_eq_some_iff.1 h.1).1).trans h.1, (hb.block j (Array.getElem?_eq_some_iff.1 h.2).1).trans h.2⟩
set_option maxRecDepth 100000 in
set_option maxHeartbeats 8000000 in
theorem walk (E : Bool) (S G : Rw) (F L : List Int) (s a b g : Option Addr) (cs ca cb cg : Nat) (w : World) (iS : RowsAt w s S) (iF : IntsAt w a F) (iL : IntsAt w b L) (iG : RowsAt w g G) (h1S : S.length ≤ maxLen) (hxS : ∀ y ∈ S, y.length ≤ maxLen) (hF : F.length ≤ maxLen) (hL : L.length ≤ maxLen) (h1G : G.length ≤ maxLen) (hxG : ∀ y ∈ G, y.length ≤ maxLen) (f : Bool) (A : List Int)
    (hans : (f = true ∧ goodN S G F L = true ∧ (cutsN S).length ≤ 40 ∧ A = cutsN S) ∨ (f = false ∧ A = [] ∧ ¬ (goodN S G F L = true ∧ (cutsN S).length ≤ 40))) :
    Calls Try.prog 6 #[nfaV E s a b g S.length F.length L.length G.length cs ca cb cg] w fun r w' => r = .returned (.bool true) ∧ Below w.heap.size w w' := by
  have HS : Hid _ := iS
  have HF : Hid _ := iF
  have HL : Hid _ := iL
  have HG : Hid _ := iG
  have HANS : Hid _ := hans
  have hA : A.length ≤ 40 := by
    rcases hans with ⟨-, -, h, rfl⟩ | ⟨-, rfl, -⟩
    · exact h
    · simp
  have A1 : ∀ o, Below w.heap.size w (w.alloc o) := fun o => (Below.refl _ _).alloc (Nat.le_refl _) o
  have HSZ : Hid _ := fun o => szNfa_any E S G F L s a b g cs ca cb cg (w.alloc o) h1S hxS hF hL h1G hxG (RowsAt.keepB iS (A1 o)) (RowsAt.keepB iG (A1 o))
  clear iS iF iL iG h1S hxS hF hL h1G hxG hans
  unfold nfaV
  go_enter Try.func6, Try.ntmps6
  go_wp2_with fail
  refine Calls.mono (HSZ.out _) ?_
  rintro r w1 ⟨hs, e1⟩
  have hbl1 : w1.heap[w.heap.size]? = some (.cells #[.bool E, .slice s S.length cs, .slice a F.length ca, .slice b L.length cb, .slice g G.length cg] 65) := (e1.block w.heap.size (by simp)).trans (heap_last2 _ _ _ rfl)
  have hs1 : w.heap.size < w1.heap.size := Nat.lt_of_lt_of_le (by simp) e1.size
  have B1 : Hid (Below w.heap.size w w1) := (A1 _).trans (e1.mono (by simp))
  clear e1
  rcases hs with ⟨hs, rfl⟩ | ⟨hs, rfl⟩
  case inr =>
    go_wp2
    go_ret
    exact ⟨rfl, B1.out⟩
  have HSz : Hid (szN S F L G ≤ 1048576) := hs
  have hz : ¬ (1048576 : Int) - (szN S F L G : Int) < 0 := by omega
  clear hs HSZ A1
  generalize szN S F L G = z at hz
  have g10 : w1.cell? ⟨w.heap.size, 0, none⟩ = some (.bool E) := cell_of hbl1 0
  have g11 : w1.cell? ⟨w.heap.size, 1, none⟩ = some (.slice s S.length cs) := cell_of hbl1 1
  have g12 : w1.cell? ⟨w.heap.size, 2, none⟩ = some (.slice a F.length ca) := cell_of hbl1 2
  have g13 : w1.cell? ⟨w.heap.size, 3, none⟩ = some (.slice b L.length cb) := cell_of hbl1 3
  have g14 : w1.cell? ⟨w.heap.size, 4, none⟩ = some (.slice g G.length cg) := cell_of hbl1 4
  go_wp2_with fail
  refine (toNfa_any E S G F L s a b g cs ca cb cg _ HSz.out (RowsAt.keepB HS.out B1.out) (IntsAt.keepB HF.out B1.out) (IntsAt.keepB HL.out B1.out) (RowsAt.keepB HG.out B1.out)).mono ?_
  rintro r w2 ⟨x0, x1, x2, x3, u0, u1, u2, u3, rfl, IS2, IF2, IL2, IG2, e2⟩
  have JS2 : Hid (RowsAt w2 x0 S) := IS2
  have JF2 : Hid (IntsAt w2 x1 F) := IF2
  have JL2 : Hid (IntsAt w2 x2 L) := IL2
  have JG2 : Hid (RowsAt w2 x3 G) := IG2
  have hbl2 := (e2.block w.heap.size hs1).trans hbl1
  have hs2 : w.heap.size < w2.heap.size := Nat.lt_of_lt_of_le hs1 e2.size
  have B2 : Hid (Below w.heap.size w w2) := B1.out.trans (e2.mono B1.out.size)
  clear e2 IS2 IF2 IL2 IG2 g10 g11 g12 g13 g14 hbl1 B1
  go_wp2_with fail
  refine (sCutsOf_any E S G F L _ _ _ _ _ _ _ _ w2 HSz.out JS2.out JF2.out JL2.out JG2.out f A HANS.out).mono ?_
  rintro r w3 ⟨v3, rfl, o3, e3⟩
  obtain ⟨a3, c3, rfl⟩ := own_form' o3
  have P3 : Hid (w3.ownsRow w2.heap.size 3 1 (.slice a3 A.length c3) A.length (ints A)) := o3
  have T3 : Hid (∀ q, (Value.slice a3 A.length c3).ownBlock = some q → q < w3.heap.size) := fun q e => (World.ownsRow.lt o3 q e).2
  have hbl3 := (e3.block w.heap.size hs2).trans hbl2
  have hs3 : w.heap.size < w3.heap.size := Nat.lt_of_lt_of_le hs2 e3.size
  have B3 : Hid (Below w.heap.size w w3) := B2.out.trans (e3.mono B2.out.size)
  clear e3 o3 hbl2 JS2 JF2 JL2 JG2 B2
  have g30 : w3.cell? ⟨w.heap.size, 0, none⟩ = some (.bool E) := cell_of hbl3 0
  have g31 : w3.cell? ⟨w.heap.size, 1, none⟩ = some (.slice s S.length cs) := cell_of hbl3 1
  have g32 : w3.cell? ⟨w.heap.size, 2, none⟩ = some (.slice a F.length ca) := cell_of hbl3 2
  have g33 : w3.cell? ⟨w.heap.size, 3, none⟩ = some (.slice b L.length cb) := cell_of hbl3 3
  have g34 : w3.cell? ⟨w.heap.size, 4, none⟩ = some (.slice g G.length cg) := cell_of hbl3 4
  go_wp2_with fail
  refine (toNfaM_any E S G F L s a b g cs ca cb cg _ HSz.out (RowsAt.keepB HS.out B3.out) (IntsAt.keepB HF.out B3.out) (IntsAt.keepB HL.out B3.out) (RowsAt.keepB HG.out B3.out)).mono ?_
  rintro r w4 ⟨z0, z1, z2, z3, y0, y1, y2, y3, QS, QG, t1, t2, t3, rfl, o4, e4⟩
  have P4 : Hid (OwnM w4 w3.heap.size w4.heap.size t1 t2 t3 (.slice z0 S.length y0) (.slice z1 F.length y1) (.slice z2 L.length y2) (.slice z3 G.length y3) QS QG S.length (rw_ S) F L G.length (rw_ G)) := o4
  have hs4 : w3.heap.size ≤ w4.heap.size := e4.size
  have hbl4 := (e4.block w.heap.size hs3).trans hbl3
  have P34 : Hid (w4.ownsRow w2.heap.size 3 1 (.slice a3 A.length c3) A.length (ints A)) := World.ownsRow.keepB P3.out e4
  have B4 : Hid (Below w.heap.size w w4) := B3.out.trans (e4.mono B3.out.size)
  have AL4 : ∀ o, Below w4.heap.size w4 (w4.alloc o) := fun o => (Below.refl _ _).alloc (Nat.le_refl _) o
  have J4 : Hid (∀ o, RowsAt (w4.alloc o) z0 S ∧ IntsAt (w4.alloc o) z1 F ∧ IntsAt (w4.alloc o) z2 L ∧ RowsAt (w4.alloc o) z3 G) := fun o => (o4.keepB (AL4 o)).at
  clear e4 o4 g30 g31 g32 g33 g34 hbl3 B3 P3
  go_wp2_with fail
  refine (iCutsOf_any E S G F L _ _ _ _ _ _ _ _ _ HSz.out (J4.out _).1 (J4.out _).2.1 (J4.out _).2.2.1 (J4.out _).2.2.2 f A HANS.out).mono ?_
  rintro r w5 ⟨v5, rfl, o5, e5⟩
  obtain ⟨a5, c5, rfl⟩ := own_form' o5
  have P5 : Hid (w5.ownsRow (w4.heap.size + 1) 3 1 (.slice a5 A.length c5) A.length (ints A)) := by have hq := o5; simp only [World.alloc, Array.size_push] at hq; exact hq
  have hs5 : w4.heap.size < w5.heap.size := Nat.lt_of_lt_of_le (by simp) e5.size
  have X5 : Hid ((w5.heap[w.heap.size]? = some (.cells #[.bool E, .slice s S.length cs, .slice a F.length ca, .slice b L.length cb, .slice g G.length cg] 65) ∧ w5.heap[w4.heap.size]? = some (.cells #[.bool E, .slice z0 S.length y0, .slice z1 F.length y1, .slice z2 L.length y2, .slice z3 G.length y3] 58))) := ⟨(e5.block w.heap.size (by simp; omega)).trans (((AL4 _).block w.heap.size (by omega)).trans hbl4), (e5.block w4.heap.size (by simp)).trans (heap_last2 _ _ _ rfl)⟩
  have Q3 : Hid (w5.ownsRow w2.heap.size 3 1 (.slice a3 A.length c3) A.length (ints A)) := World.ownsRow.keepB (World.ownsRow.keepB P34.out (AL4 _)) e5
  have Q4 : Hid (OwnM w5 w3.heap.size w4.heap.size t1 t2 t3 (.slice z0 S.length y0) (.slice z1 F.length y1) (.slice z2 L.length y2) (.slice z3 G.length y3) QS QG S.length (rw_ S) F L G.length (rw_ G)) := (P4.out.keepB (AL4 _)).keepB e5
  have B5 : Hid (Below w.heap.size w w5) := (B4.out.trans ((AL4 _).mono B4.out.size)).trans (e5.mono (B4.out.trans ((AL4 _).mono B4.out.size)).size)
  have bbf : (f == f) = true := by simp
  clear e5 o5 hbl4 P34 P4 B4 J4 AL4
  go_wp2_with fail
  refine (eq_any A _ _ _ _ _ (by omega) (own_ints P5.out) (own_ints Q3.out)).mono ?_
  rintro r w6 ⟨rfl, e6⟩
  have X6 : Hid ((w6.heap[w.heap.size]? = some (.cells #[.bool E, .slice s S.length cs, .slice a F.length ca, .slice b L.length cb, .slice g G.length cg] 65) ∧ w6.heap[w4.heap.size]? = some (.cells #[.bool E, .slice z0 S.length y0, .slice z1 F.length y1, .slice z2 L.length y2, .slice z3 G.length y3] 58))) := xkeep X5.out e6
  have U3 : Hid (w6.ownsRow w2.heap.size 3 1 (.slice a3 A.length c3) A.length (ints A)) := World.ownsRow.keepB Q3.out e6
  have U4 : Hid (OwnM w6 w3.heap.size w4.heap.size t1 t2 t3 (.slice z0 S.length y0) (.slice z1 F.length y1) (.slice z2 L.length y2) (.slice z3 G.length y3) QS QG S.length (rw_ S) F L G.length (rw_ G)) := Q4.out.keepB e6
  have U5 : Hid (w6.ownsRow (w4.heap.size + 1) 3 1 (.slice a5 A.length c5) A.length (ints A)) := World.ownsRow.keepB P5.out e6
  have B6 : Hid (Below w.heap.size w w6) := B5.out.trans (e6.mono B5.out.size)
  have hs6 : w4.heap.size < w6.heap.size := Nat.lt_of_lt_of_le hs5 e6.size
  clear e6 X5 Q3 Q4 P5 B5
  have DR6 : Hid (Below w6.heap.size w6 w6.drew) := (Below.refl _ _).drew
  have B6d : Hid (Below w.heap.size w w6.drew) := B6.out.drew
  have HX6 : Hid ((w6.drew.heap[w.heap.size]? = some (.cells #[.bool E, .slice s S.length cs, .slice a F.length ca, .slice b L.length cb, .slice g G.length cg] 65) ∧ w6.drew.heap[w4.heap.size]? = some (.cells #[.bool E, .slice z0 S.length y0, .slice z1 F.length y1, .slice z2 L.length y2, .slice z3 G.length y3] 58))) := xkeep X6.out DR6.out
  have sD : (w6.drew.cell? ⟨w.heap.size, 0, none⟩ = some (.bool E) ∧ w6.drew.cell? ⟨w.heap.size, 1, none⟩ = some (.slice s S.length cs) ∧ w6.drew.cell? ⟨w.heap.size, 2, none⟩ = some (.slice a F.length ca) ∧ w6.drew.cell? ⟨w.heap.size, 3, none⟩ = some (.slice b L.length cb) ∧ w6.drew.cell? ⟨w.heap.size, 4, none⟩ = some (.slice g G.length cg) ∧ w6.drew.cell? ⟨w4.heap.size, 0, none⟩ = some (.bool E) ∧ w6.drew.cell? ⟨w4.heap.size, 1, none⟩ = some (.slice z0 S.length y0) ∧ w6.drew.cell? ⟨w4.heap.size, 2, none⟩ = some (.slice z1 F.length y1) ∧ w6.drew.cell? ⟨w4.heap.size, 3, none⟩ = some (.slice z2 L.length y2) ∧ w6.drew.cell? ⟨w4.heap.size, 4, none⟩ = some (.slice z3 G.length y3)) := ⟨cell_of HX6.out.1 0, cell_of HX6.out.1 1, cell_of HX6.out.1 2, cell_of HX6.out.1 3, cell_of HX6.out.1 4, cell_of HX6.out.2 0, cell_of HX6.out.2 1, cell_of HX6.out.2 2, cell_of HX6.out.2 3, cell_of HX6.out.2 4⟩
  go_wp2
  go_region_held (fun w' => (w'.cell? ⟨w.heap.size, 0, none⟩ = some (.bool E) ∧ w'.cell? ⟨w.heap.size, 1, none⟩ = some (.slice s S.length cs) ∧ w'.cell? ⟨w.heap.size, 2, none⟩ = some (.slice a F.length ca) ∧ w'.cell? ⟨w.heap.size, 3, none⟩ = some (.slice b L.length cb) ∧ w'.cell? ⟨w.heap.size, 4, none⟩ = some (.slice g G.length cg) ∧ w'.cell? ⟨w4.heap.size, 0, none⟩ = some (.bool E) ∧ w'.cell? ⟨w4.heap.size, 1, none⟩ = some (.slice z0 S.length y0) ∧ w'.cell? ⟨w4.heap.size, 2, none⟩ = some (.slice z1 F.length y1) ∧ w'.cell? ⟨w4.heap.size, 3, none⟩ = some (.slice z2 L.length y2) ∧ w'.cell? ⟨w4.heap.size, 4, none⟩ = some (.slice z3 G.length y3))) (first | assumption) (first
      | (go_at_call 38; refine (toNfa_any E S G F L s a b g cs ca cb cg _ HSz.out (RowsAt.keepB HS.out B6d.out) (IntsAt.keepB HF.out B6d.out) (IntsAt.keepB HL.out B6d.out) (RowsAt.keepB HG.out B6d.out)).mono ?_
         rintro r w7 ⟨k0, k1, k2, k3, l0, l1, l2, l3, rfl, IS7, IF7, IL7, IG7, e7⟩
         have X7 : Hid ((w7.heap[w.heap.size]? = some (.cells #[.bool E, .slice s S.length cs, .slice a F.length ca, .slice b L.length cb, .slice g G.length cg] 65) ∧ w7.heap[w4.heap.size]? = some (.cells #[.bool E, .slice z0 S.length y0, .slice z1 F.length y1, .slice z2 L.length y2, .slice z3 G.length y3] 58))) := xkeep HX6.out e7
         have s7 : (w7.cell? ⟨w.heap.size, 0, none⟩ = some (.bool E) ∧ w7.cell? ⟨w.heap.size, 1, none⟩ = some (.slice s S.length cs) ∧ w7.cell? ⟨w.heap.size, 2, none⟩ = some (.slice a F.length ca) ∧ w7.cell? ⟨w.heap.size, 3, none⟩ = some (.slice b L.length cb) ∧ w7.cell? ⟨w.heap.size, 4, none⟩ = some (.slice g G.length cg) ∧ w7.cell? ⟨w4.heap.size, 0, none⟩ = some (.bool E) ∧ w7.cell? ⟨w4.heap.size, 1, none⟩ = some (.slice z0 S.length y0) ∧ w7.cell? ⟨w4.heap.size, 2, none⟩ = some (.slice z1 F.length y1) ∧ w7.cell? ⟨w4.heap.size, 3, none⟩ = some (.slice z2 L.length y2) ∧ w7.cell? ⟨w4.heap.size, 4, none⟩ = some (.slice z3 G.length y3)) := ⟨cell_of X7.out.1 0, cell_of X7.out.1 1, cell_of X7.out.1 2, cell_of X7.out.1 3, cell_of X7.out.1 4, cell_of X7.out.2 0, cell_of X7.out.2 1, cell_of X7.out.2 2, cell_of X7.out.2 3, cell_of X7.out.2 4⟩
         have JS7 : Hid (RowsAt w7 k0 S) := IS7
         have JF7 : Hid (IntsAt w7 k1 F) := IF7
         have JL7 : Hid (IntsAt w7 k2 L) := IL7
         have JG7 : Hid (RowsAt w7 k3 G) := IG7
         have Y3 : Hid (w7.ownsRow w2.heap.size 3 1 (.slice a3 A.length c3) A.length (ints A)) := World.ownsRow.keepB (World.ownsRow.keepB U3.out DR6.out) e7
         have Y4 : Hid (OwnM w7 w3.heap.size w4.heap.size t1 t2 t3 (.slice z0 S.length y0) (.slice z1 F.length y1) (.slice z2 L.length y2) (.slice z3 G.length y3) QS QG S.length (rw_ S) F L G.length (rw_ G)) := (U4.out.keepB DR6.out).keepB e7
         have Y5 : Hid (w7.ownsRow (w4.heap.size + 1) 3 1 (.slice a5 A.length c5) A.length (ints A)) := World.ownsRow.keepB (World.ownsRow.keepB U5.out DR6.out) e7
         have B7 : Hid (Below w.heap.size w w7) := B6d.out.trans (e7.mono B6d.out.size)
         have hs7 : w4.heap.size < w7.heap.size := Nat.lt_of_lt_of_le hs6 e7.size
         clear e7 IS7 IF7 IL7 IG7)
      | (go_at_call 32; refine (eqNfa_any E S G F L _ _ _ _ _ _ _ _ _ _ _ _ _ _ _ _ _ HSz.out Y4.out.at.1 Y4.out.at.2.1 Y4.out.at.2.2.1 Y4.out.at.2.2.2 JS7.out JF7.out JL7.out JG7.out).mono ?_
         rintro r w8 ⟨rfl, e8⟩
         have X8 : Hid ((w8.heap[w.heap.size]? = some (.cells #[.bool E, .slice s S.length cs, .slice a F.length ca, .slice b L.length cb, .slice g G.length cg] 65) ∧ w8.heap[w4.heap.size]? = some (.cells #[.bool E, .slice z0 S.length y0, .slice z1 F.length y1, .slice z2 L.length y2, .slice z3 G.length y3] 58))) := xkeep X7.out e8
         have s8 : (w8.cell? ⟨w.heap.size, 0, none⟩ = some (.bool E) ∧ w8.cell? ⟨w.heap.size, 1, none⟩ = some (.slice s S.length cs) ∧ w8.cell? ⟨w.heap.size, 2, none⟩ = some (.slice a F.length ca) ∧ w8.cell? ⟨w.heap.size, 3, none⟩ = some (.slice b L.length cb) ∧ w8.cell? ⟨w.heap.size, 4, none⟩ = some (.slice g G.length cg) ∧ w8.cell? ⟨w4.heap.size, 0, none⟩ = some (.bool E) ∧ w8.cell? ⟨w4.heap.size, 1, none⟩ = some (.slice z0 S.length y0) ∧ w8.cell? ⟨w4.heap.size, 2, none⟩ = some (.slice z1 F.length y1) ∧ w8.cell? ⟨w4.heap.size, 3, none⟩ = some (.slice z2 L.length y2) ∧ w8.cell? ⟨w4.heap.size, 4, none⟩ = some (.slice z3 G.length y3)) := ⟨cell_of X8.out.1 0, cell_of X8.out.1 1, cell_of X8.out.1 2, cell_of X8.out.1 3, cell_of X8.out.1 4, cell_of X8.out.2 0, cell_of X8.out.2 1, cell_of X8.out.2 2, cell_of X8.out.2 3, cell_of X8.out.2 4⟩
         have W3 : Hid (w8.ownsRow w2.heap.size 3 1 (.slice a3 A.length c3) A.length (ints A)) := World.ownsRow.keepB Y3.out e8
         have W4 : Hid (OwnM w8 w3.heap.size w4.heap.size t1 t2 t3 (.slice z0 S.length y0) (.slice z1 F.length y1) (.slice z2 L.length y2) (.slice z3 G.length y3) QS QG S.length (rw_ S) F L G.length (rw_ G)) := Y4.out.keepB e8
         have W5 : Hid (w8.ownsRow (w4.heap.size + 1) 3 1 (.slice a5 A.length c5) A.length (ints A)) := World.ownsRow.keepB Y5.out e8
         have B8 : Hid (Below w.heap.size w w8) := B7.out.trans (e8.mono B7.out.size)
         have hs8 : w4.heap.size < w8.heap.size := Nat.lt_of_lt_of_le hs7 e8.size
         clear e8))
  all_goals
    clear X6 X7 HX6 sD s7 U3 U4 U5 Y3 Y4 Y5 JS7 JF7 JL7 JG7 B6 B6d B7 DR6
    obtain ⟨d10, d11, d12, d13, d14, d60, d61, d62, d63, d64⟩ := s8
    go_wp2_with fail
    refine (markNfa_any E S G F L _ _ _ _ QS QG w3.heap.size w4.heap.size t1 t2 t3 _ HSz.out (by omega) W4.out).mono ?_
    rintro r w9 ⟨⟨q, hq0, rfl⟩, m9⟩
    have X9 : Hid ((w9.heap[w.heap.size]? = some (.cells #[.bool E, .slice s S.length cs, .slice a F.length ca, .slice b L.length cb, .slice g G.length cg] 65) ∧ w9.heap[w4.heap.size]? = some (.cells #[.bool E, .slice z0 S.length y0, .slice z1 F.length y1, .slice z2 L.length y2, .slice z3 G.length y3] 58))) := ⟨mid_blk m9 X8.out.1 (by omega), mid_blk m9 X8.out.2 (by omega)⟩
    have Y3 : Hid (w9.ownsRow w2.heap.size 3 1 (.slice a3 A.length c3) A.length (ints A)) := own_low m9.1 W3.out T3.out
    have Y5 : Hid (w9.ownsRow (w4.heap.size + 1) 3 1 (.slice a5 A.length c5) A.length (ints A)) := own_mid m9 W5.out (by omega)
    have B9 : Hid (Below w.heap.size w w9) := B8.out.trans (m9.1.mono (by omega))
    have hs9 : w4.heap.size < w9.heap.size := Nat.lt_of_lt_of_le hs8 m9.1.size
    have hqn : ¬ q < 0 := by omega
    clear m9 X8 W3 W4 W5 B8 d10 d11 d12 d13 d14 d60 d61 d62 d63 d64 hq0
    go_wp2_with fail
    refine (eq_any A _ _ _ _ _ (by omega) (own_ints Y5.out) (own_ints Y3.out)).mono ?_
    rintro r w10 ⟨rfl, e10⟩
    have X10 : Hid ((w10.heap[w.heap.size]? = some (.cells #[.bool E, .slice s S.length cs, .slice a F.length ca, .slice b L.length cb, .slice g G.length cg] 65) ∧ w10.heap[w4.heap.size]? = some (.cells #[.bool E, .slice z0 S.length y0, .slice z1 F.length y1, .slice z2 L.length y2, .slice z3 G.length y3] 58))) := xkeep X9.out e10
    have Z3 : Hid (w10.ownsRow w2.heap.size 3 1 (.slice a3 A.length c3) A.length (ints A)) := World.ownsRow.keepB Y3.out e10
    have Z5 : Hid (w10.ownsRow (w4.heap.size + 1) 3 1 (.slice a5 A.length c5) A.length (ints A)) := World.ownsRow.keepB Y5.out e10
    have B10 : Hid (Below w.heap.size w w10) := B9.out.trans (e10.mono B9.out.size)
    have hs10 : w4.heap.size < w10.heap.size := Nat.lt_of_lt_of_le hs9 e10.size
    clear e10 X9 Y3 Y5 B9
    go_wp2_with fail
    refine (mark_c 1 (by omega) (by omega) A _ A.length (w4.heap.size + 1) _ (by omega) Z5.out).mono ?_
    rintro r w11 ⟨rfl, o11, g11⟩
    have b11 : Below (w4.heap.size + 1) w10 w11 := Below.grown (Below.refl _ _) g11 hs10 (fun q e => (World.ownsRow.lt Z5.out q e).1)
    have X11 : Hid ((w11.heap[w.heap.size]? = some (.cells #[.bool E, .slice s S.length cs, .slice a F.length ca, .slice b L.length cb, .slice g G.length cg] 65) ∧ w11.heap[w4.heap.size]? = some (.cells #[.bool E, .slice z0 S.length y0, .slice z1 F.length y1, .slice z2 L.length y2, .slice z3 G.length y3] 58))) := ⟨(b11.block _ (by omega)).trans X10.out.1, (b11.block _ (by omega)).trans X10.out.2⟩
    have K3 : Hid (w11.ownsRow w2.heap.size 3 1 (.slice a3 A.length c3) A.length (ints A)) := own_low b11 Z3.out (fun q e => by have := T3.out q e; omega)
    have K5 : Hid (w11.ownsRow (w4.heap.size + 1) 3 1 (.slice a5 A.length c5) A.length (ints (mk2 A 1 A.length))) := o11
    have B11 : Hid (Below w.heap.size w w11) := B10.out.trans (b11.mono (by omega))
    clear o11 g11 b11 X10 Z3 Z5 B10
    go_wp2_with fail
    refine (held_c 1 (by omega) (by omega) A _ _ _ rfl w11 (by omega) (by have h := K5.out; exact own_ints (L := mk2 A 1 A.length) h)).mono ?_
    rintro r w12 ⟨rfl, e12⟩
    have X12 : Hid ((w12.heap[w.heap.size]? = some (.cells #[.bool E, .slice s S.length cs, .slice a F.length ca, .slice b L.length cb, .slice g G.length cg] 65) ∧ w12.heap[w4.heap.size]? = some (.cells #[.bool E, .slice z0 S.length y0, .slice z1 F.length y1, .slice z2 L.length y2, .slice z3 G.length y3] 58))) := xkeep X11.out e12
    have L3 : Hid (w12.ownsRow w2.heap.size 3 1 (.slice a3 A.length c3) A.length (ints A)) := World.ownsRow.keepB K3.out e12
    have L5 : Hid (w12.ownsRow (w4.heap.size + 1) 3 1 (.slice a5 A.length c5) A.length (ints (mk2 A 1 A.length))) := World.ownsRow.keepB K5.out e12
    have B12 : Hid (Below w.heap.size w w12) := B11.out.trans (e12.mono B11.out.size)
    clear e12 X11 K3 K5 B11
    have hzq : ¬ (1 + (A.length : Int)) < 0 := by omega
    have heq : (1 + (A.length : Int) == 1 + (A.length : Int)) = true := by simp
    have g10 : w12.cell? ⟨w.heap.size, 0, none⟩ = some (.bool E) := cell_of X12.out.1 0
    have g11 : w12.cell? ⟨w.heap.size, 1, none⟩ = some (.slice s S.length cs) := cell_of X12.out.1 1
    have g12 : w12.cell? ⟨w.heap.size, 2, none⟩ = some (.slice a F.length ca) := cell_of X12.out.1 2
    have g13 : w12.cell? ⟨w.heap.size, 3, none⟩ = some (.slice b L.length cb) := cell_of X12.out.1 3
    have g14 : w12.cell? ⟨w.heap.size, 4, none⟩ = some (.slice g G.length cg) := cell_of X12.out.1 4
    go_wp2_with fail
    refine (toNfa_any E S G F L s a b g cs ca cb cg _ HSz.out (RowsAt.keepB HS.out B12.out) (IntsAt.keepB HF.out B12.out) (IntsAt.keepB HL.out B12.out) (RowsAt.keepB HG.out B12.out)).mono ?_
    rintro r w13 ⟨x0, x1, x2, x3, u0, u1, u2, u3, rfl, IS2, IF2, IL2, IG2, e13⟩
    have JS2 : Hid (RowsAt w13 x0 S) := IS2
    have JF2 : Hid (IntsAt w13 x1 F) := IF2
    have JL2 : Hid (IntsAt w13 x2 L) := IL2
    have JG2 : Hid (RowsAt w13 x3 G) := IG2
    have M3 : Hid (w13.ownsRow w2.heap.size 3 1 (.slice a3 A.length c3) A.length (ints A)) := World.ownsRow.keepB L3.out e13
    have M5 : Hid (w13.ownsRow (w4.heap.size + 1) 3 1 (.slice a5 A.length c5) A.length (ints (mk2 A 1 A.length))) := World.ownsRow.keepB L5.out e13
    have B13 : Hid (Below w.heap.size w w13) := B12.out.trans (e13.mono B12.out.size)
    clear e13 IS2 IF2 IL2 IG2 g10 g11 g12 g13 g14 X12 L3 L5 B12
    go_wp2_with fail
    refine (iCutsOf_any E S G F L _ _ _ _ _ _ _ _ _ HSz.out JS2.out JF2.out JL2.out JG2.out f A HANS.out).mono ?_
    rintro r w14 ⟨v14, rfl, o14, e14⟩
    obtain ⟨a14, c14, rfl⟩ := own_form' o14
    have J14 : Hid (IntsAt w14 a14 A) := own_ints o14
    have N3 : Hid (w14.ownsRow w2.heap.size 3 1 (.slice a3 A.length c3) A.length (ints A)) := World.ownsRow.keepB M3.out e14
    have N5 : Hid (w14.ownsRow (w4.heap.size + 1) 3 1 (.slice a5 A.length c5) A.length (ints (mk2 A 1 A.length))) := World.ownsRow.keepB M5.out e14
    have B14 : Hid (Below w.heap.size w w14) := B13.out.trans (e14.mono B13.out.size)
    clear e14 o14 JS2 JF2 JL2 JG2 M3 M5 B13
    go_wp2_with fail
    refine (eq_any A _ _ _ _ _ (by omega) J14.out (own_ints N3.out)).mono ?_
    rintro r w15 ⟨rfl, e15⟩
    have E5 : Hid (w15.ownsRow (w4.heap.size + 1) 3 1 (.slice a5 A.length c5) A.length (ints (mk2 A 1 A.length))) := World.ownsRow.keepB N5.out e15
    have B15 : Hid (Below w.heap.size w w15) := B14.out.trans (e15.mono B14.out.size)
    clear e15 J14 N3 N5 B14
    go_wp2_with fail
    refine (held_c 1 (by omega) (by omega) A _ _ _ rfl w15 (by omega) (by have h := E5.out; exact own_ints (L := mk2 A 1 A.length) h)).mono ?_
    rintro r w16 ⟨rfl, e16⟩
    have B16 : Hid (Below w.heap.size w w16) := B15.out.trans (e16.mono B15.out.size)
    clear e16 E5 B15
    go_wp2
    go_ret
    exact ⟨rfl, B16.out⟩
set_option maxRecDepth 100000 in
theorem lifted (os : Os) (started : os.Started) (H : Type) (enc : TypeId × Value → H) :
    ReturnsInHanded {} Try.checked os 6 .any (Rows.fnExactCutsOfSpec.pre6 enc Try.prog Try.f6 Rows.fnExactCutsOfRow.domain false) (Rows.fnExactCutsOfSpec.post enc Try.prog Try.f6 false true false false) := by
  refine returnsInHanded_of_change (C := Try.checked) own started (by kernel_rfl) Try.func6
    (ChangeSpec.witness6 (enc := enc) (C := Try.checked) false ⟨#[], #[.agg #[.bool false, .slice none 0 0, .slice none 0 0, .slice none 0 0, .slice none 0 0]], []⟩ 8 (by kernel_rfl) (by kernel_rfl) (by kernel_rfl) (by kernel_rfl)) ?_
  intro W base args ds gs before hval0 hW hcnd _
  have hval : ∀ (j : Nat) t v, Try.f6.params[j]? = some t → args[j]? = some v → Value.okWide Try.prog W .any base t v := hval0
  have hW' := hW
  obtain ⟨p, q, hA0, hV, rfl, hfz, hnd⟩ := hW
  have hA : DataW.TrodAll enc Try.prog W 0 (fun _ => true) true Try.f6.params.toList args.toList ds p := hA0
  rw [Try.params6] at hA hval
  obtain ⟨v0, d0, rfl, rfl, h0⟩ := trodAll_one hA
  obtain ⟨rfl, rfl⟩ := trodVars_none hV
  have k0 := h0
  have lt0 : ∀ x ∈ p, x.block < W.heap.size := by obtain ⟨m, hm⟩ := k0; exact DataW.trod_lt m _ _ _ hm
  obtain ⟨E, S, G, F, L, s, a, b, g, cs, ca, cb, cg, rfl, iS, iF, iL, iG, ⟨h1S, hxS⟩, hF, hL, h1G, hxG⟩ := open_nfa (hval 0 65 v0 rfl rfl) h0
  clear hA0 hval0
  obtain ⟨f, A, hans⟩ : ∃ (f : Bool) (A : List Int), (f = true ∧ goodN S G F L = true ∧ (cutsN S).length ≤ 40 ∧ A = cutsN S) ∨ (f = false ∧ A = [] ∧ ¬ (goodN S G F L = true ∧ (cutsN S).length ≤ 40)) := by
    by_cases h : goodN S G F L = true ∧ (cutsN S).length ≤ 40
    · exact ⟨true, cutsN S, .inl ⟨rfl, h.1, h.2, rfl⟩⟩
    · exact ⟨false, [], .inr ⟨rfl, rfl, h⟩⟩
  refine (walk E S G F L s a b g cs ca cb cg W iS iF iL iG h1S hxS hF hL h1G hxG f A hans).mono fun e W' ⟨he, bel⟩ => ?_
  subst he
  exact ⟨_, rfl, _, _, _, [], _, [], hW', trodAll_mk1 (shut_bool Try.underlying4 _), trodAll_mk1 (Below.trod laidOut (by kernel_rfl) (of_decide_eq_true (by kernel_rfl)) k0 bel lt0), rfl, bel.frame _, fun h => by cases h⟩
theorem row : Rows.FnExactCutsOfSaid :=
  OpenClaim.holds_of_wide 6 Try.f6 rfl rfl rfl rfl rfl rfl rfl ⟨rfl, rfl, rfl, rfl, rfl⟩ rfl rfl rfl rfl rfl (by kernel_rfl) Try.func6 (by kernel_rfl)
    (of_decide_eq_true (by kernel_rfl)) (by unfold Func.isWrapper; first | (rw [if_pos (by decide +kernel)]; kernel_rfl) | (rw [if_neg (by decide +kernel)]; exact ⟨rfl, rfl⟩))
    (fun os started H enc _ => lifted os started H enc)
end LawCutsOf
theorem cutsOf_holds : Rows.FnExactCutsOfSaid := LawCutsOf.row
#print axioms cutsOf_holds
end Go.Proofs.Ytlkcdcdgpklpoaa
