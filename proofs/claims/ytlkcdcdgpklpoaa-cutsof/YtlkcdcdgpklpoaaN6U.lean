/-
  The laws' marks on a machine of places: nothing outside its memory turns.
-/
import Derived.Test.YtlkcdcdgpklpoaaN6T
namespace Go.Proofs.Ytlkcdcdgpklpoaa
open Go.ChangeShapes Go.WideShapes Go.ChangeAt Go.WideMaps Go.WideElems Go.RowKit
theorem Mid.widen {base top b t : Nat} {w w' : World} (h : Mid base top w w') (hb : b ≤ base) (ht : top ≤ t) : Mid b t w w' :=
  ⟨h.1.mono hb, fun g hg hl => h.2 g (Nat.le_trans ht hg) hl⟩
set_option maxRecDepth 100000 in
set_option maxHeartbeats 4000000 in
theorem markNfa_any (E : Bool) (S G : Rw) (F L : List Int) (vS vF vL vG : Value) (QS QG : List Value) (base top t1 t2 t3 : Nat) (w : World) (hl : szN S F L G ≤ 1048576) (hb : top ≤ w.heap.size) (h : OwnM w base top t1 t2 t3 vS vF vL vG QS QG S.length (rw_ S) F L G.length (rw_ G)) :
    Calls Try.prog 34 #[.agg #[.bool E, vS, vF, vL, vG], .int .i64 1] w fun r w' => (∃ q : Int, 0 ≤ q ∧ r = .returned (.int .i64 q)) ∧ Mid base top w w' := by
  have hlF : F.length ≤ 1048576 := by unfold szN at hl; omega
  have hlL : L.length ≤ 1048576 := by unfold szN at hl; omega
  have HLS : Hid (szR S ≤ 1048576) := by unfold szN at hl; exact (by omega : szR S ≤ 1048576)
  have HLG : Hid (szR G ≤ 1048576) := by unfold szN at hl; exact (by omega : szR G ≤ 1048576)
  have hkS : szRK S S.length ≤ 1048576 := Nat.le_trans (szRK_bd S _) HLS.out
  have hkG : szRK G G.length ≤ 1048576 := Nat.le_trans (szRK_bd G _) HLG.out
  have hsum : szRK S S.length + F.length + L.length + szRK G G.length ≤ 1048576 := by
    have h1 := szRK_bd S S.length
    have h2 := szRK_bd G G.length
    unfold szN at hl
    omega
  have l1 := h.le1
  have l2 := h.le2
  have l3 := h.le3
  have l4 := h.le4
  obtain ⟨za, ya, rfl⟩ := own_form' h.s.2.2.2.1
  obtain ⟨zb, yb, rfl⟩ := own_form' h.f
  obtain ⟨zc, yc, rfl⟩ := own_form' h.l
  obtain ⟨zd, yd, rfl⟩ := own_form' h.g.2.2.2.1
  have A1 : ∀ o, Below w.heap.size w (w.alloc o) := fun o => (Below.refl _ _).alloc (Nat.le_refl _) o
  have H : Hid (∀ o, OwnM (w.alloc o) base top t1 t2 t3 (.slice za S.length ya) (.slice zb F.length yb) (.slice zc L.length yc) (.slice zd G.length yd) QS QG S.length (rw_ S) F L G.length (rw_ G)) := fun o => h.keepB (A1 o)
  have hbase : base ≤ w.heap.size := by omega
  have M0 : Hid (∀ o, Mid base top w (w.alloc o)) := fun o => Mid.below (A1 o) hbase
  have TF : Hid _ := h.tf
  have TL : Hid _ := h.tl
  clear h hl
  go_enter Try.func34, Try.ntmps34
  go_wp2_with fail
  refine (markSS_any 1 (by omega) (by omega) S _ _ _ QS [] [] base t1 _ HLS.out (by simp; omega) (H.out _).s).mono ?_
  rintro r w1 ⟨rfl, -, m1⟩
  have hbx : w1.heap[w.heap.size]? = some (.cells #[.bool E, .slice za S.length ya, .slice zb F.length yb, .slice zc L.length yc, .slice zd G.length yd] 58) := (m1.2 w.heap.size (by omega) (by simp)).trans (heap_last2 _ _ _ rfl)
  have F1 : Hid (w1.ownsRow t1 3 1 (.slice zb F.length yb) F.length (ints F)) := own_mid m1 (H.out _).f (Nat.le_refl _)
  have L1 : Hid (w1.ownsRow t2 3 1 (.slice zc L.length yc) L.length (ints L)) := own_mid m1 (H.out _).l l2
  have G1 : Hid (OwnQ w1 t3 top (.slice none 0 0) (.slice zd G.length yd) (.slice none 0 0) QG [] G.length (rw_ G) []) := (H.out _).g.mid m1 (by omega)
  have M1 : Hid (Mid base top w w1) := (M0.out _).trans (m1.widen (Nat.le_refl _) (by omega))
  have hs1 : w.heap.size + 1 ≤ w1.heap.size := Nat.le_trans (by simp) m1.1.size
  have c2 : w1.cell? ⟨w.heap.size, 2, none⟩ = some (.slice zb F.length yb) := cell_of hbx 2
  have HBX1 : Hid _ := hbx
  clear m1 hbx A1 M0 H
  go_wp2_with fail
  refine (mark_c (1 + szRK S S.length) (by omega) (by omega) F _ F.length t1 _ hlF F1.out).mono ?_
  rintro r w2 ⟨rfl, -, g2⟩
  have m2 : Mid t1 t2 w1 w2 := Mid.grown g2 (by omega) (fun g e => ⟨(World.ownsRow.lt F1.out g e).1, TF.out g e⟩)
  have hbx := (m2.2 w.heap.size (by omega) (by omega)).trans HBX1.out
  have L2 : Hid (w2.ownsRow t2 3 1 (.slice zc L.length yc) L.length (ints L)) := own_mid m2 L1.out (Nat.le_refl _)
  have G2 : Hid (OwnQ w2 t3 top (.slice none 0 0) (.slice zd G.length yd) (.slice none 0 0) QG [] G.length (rw_ G) []) := G1.out.mid m2 l3
  have M2 : Hid (Mid base top w w2) := M1.out.trans (m2.widen l1 (by omega))
  have hs2 : w.heap.size + 1 ≤ w2.heap.size := Nat.le_trans hs1 m2.1.size
  have c3 : w2.cell? ⟨w.heap.size, 3, none⟩ = some (.slice zc L.length yc) := cell_of hbx 3
  have HBX2 : Hid _ := hbx
  clear m2 g2 hbx c2 HBX1 F1 L1 G1 M1
  go_wp2_with fail
  refine (mark_c (1 + szRK S S.length + F.length) (by omega) (by omega) L _ L.length t2 _ hlL L2.out).mono ?_
  rintro r w3 ⟨rfl, -, g3⟩
  have m3 : Mid t2 t3 w2 w3 := Mid.grown g3 (by omega) (fun g e => ⟨(World.ownsRow.lt L2.out g e).1, TL.out g e⟩)
  have hbx := (m3.2 w.heap.size (by omega) (by omega)).trans HBX2.out
  have G3 : Hid (OwnQ w3 t3 top (.slice none 0 0) (.slice zd G.length yd) (.slice none 0 0) QG [] G.length (rw_ G) []) := G2.out.mid m3 (Nat.le_refl _)
  have M3 : Hid (Mid base top w w3) := M2.out.trans (m3.widen (by omega) l4)
  have hs3 : w.heap.size + 1 ≤ w3.heap.size := Nat.le_trans hs2 m3.1.size
  have c4 : w3.cell? ⟨w.heap.size, 4, none⟩ = some (.slice zd G.length yd) := cell_of hbx 4
  clear m3 g3 hbx c3 HBX2 L2 G2 M2
  go_wp2_with fail
  refine (markSS_any (1 + szRK S S.length + F.length + L.length) (by omega) (by omega) G _ _ _ QG [] [] t3 top _ HLG.out (by omega) G3.out).mono ?_
  rintro r w4 ⟨rfl, -, m4⟩
  have M4 : Hid (Mid base top w w4) := M3.out.trans (m4.widen (by omega) (Nat.le_refl _))
  clear m4 c4
  go_wp2
  go_ret
  exact ⟨⟨_, by omega, rfl⟩, M4.out⟩
end Go.Proofs.Ytlkcdcdgpklpoaa
