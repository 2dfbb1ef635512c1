/-
  The laws' copy of a machine of places.
-/
import Derived.Test.YtlkcdcdgpklpoaaN6D
namespace Go.Proofs.Ytlkcdcdgpklpoaa
open Go.ChangeShapes Go.WideShapes Go.ChangeAt Go.WideMaps Go.WideElems Go.RowKit
theorem ownR_set {w : World} {base : Nat} {v : Value} {n k : Nat} {f : Nat → List Int} (h : OwnR w base v n k f) {b : Nat} (hb : b < base) (o : Nat) (u : Value) : OwnR (w.setCell ⟨b, o, none⟩ u) base v n k f := by
  obtain ⟨Q, q1, q2, q3, q4⟩ := h
  exact ⟨Q, q1, own_set q2 hb o u, fun j hj => own_set (q3 j hj) hb o u, q4⟩
set_option maxRecDepth 100000 in
set_option maxHeartbeats 4000000 in
theorem toNfa_any (E : Bool) (S G : Rw) (F L : List Int) (s a b g : Option Addr) (cs ca cb cg : Nat) (w : World) (hl : szN S F L G ≤ 1048576) (hS : RowsAt w s S) (hF : IntsAt w a F) (hL : IntsAt w b L) (hG : RowsAt w g G) :
    Calls Try.prog 38 #[.agg #[.bool E, .slice s S.length cs, .slice a F.length ca, .slice b L.length cb, .slice g G.length cg]] w fun r w' => ∃ z0 z1 z2 z3 y0 y1 y2 y3, r = .returned (.agg #[.bool E, .slice z0 S.length y0, .slice z1 F.length y1, .slice z2 L.length y2, .slice z3 G.length y3]) ∧ RowsAt w' z0 S ∧ IntsAt w' z1 F ∧ IntsAt w' z2 L ∧ RowsAt w' z3 G ∧ Below w.heap.size w w' := by
  have H0 : Hid (RowsAt w s S) := hS
  have H1 : Hid (IntsAt w a F) := hF
  have H2 : Hid (IntsAt w b L) := hL
  have H3 : Hid (RowsAt w g G) := hG
  have hl1 : F.length ≤ 1048576 := by unfold szN at hl; omega
  have hl2 : L.length ≤ 1048576 := by unfold szN at hl; omega
  have hl0 : Hid (szR S ≤ 1048576) := by unfold szN at hl; exact (by omega : szR S ≤ 1048576)
  have hl3 : Hid (szR G ≤ 1048576) := by unfold szN at hl; exact (by omega : szR G ≤ 1048576)
  clear hS hF hL hG hl
  have A3 : ∀ o p q, Below w.heap.size w (((w.alloc o).alloc p).alloc q) := fun o p q => (((Below.refl _ _).alloc (Nat.le_refl _) o).alloc (by simp) p).alloc (by simp; omega) q
  go_enter Try.func38, Try.ntmps38
  go_wp2_with fail
  refine (toIntSS_any S s cs _ hl0.out (RowsAt.keepB H0.out (A3 _ _ _))).mono ?_
  rintro r w2 ⟨v0, rfl, o0, b2⟩
  have hs2 : w.heap.size + 1 + 1 < w2.heap.size := Nat.lt_of_lt_of_le (by simp) b2.size
  have hb0 : w2.heap[w.heap.size]? = some (.cells #[.bool E, .slice s S.length cs, .slice a F.length ca, .slice b L.length cb, .slice g G.length cg] 65) := (b2.block w.heap.size (by simp; omega)).trans ((heap_prev _ _ _ (by simp; omega)).trans ((heap_prev _ _ _ (by simp)).trans (heap_last2 _ _ _ rfl)))
  have hb1 : w2.heap[w.heap.size + 1]? = some (.cells #[.bool false, .slice none 0 0, .slice none 0 0, .slice none 0 0, .slice none 0 0] 58) := (b2.block (w.heap.size + 1) (by simp)).trans ((heap_prev _ _ _ (by simp)).trans (heap_last2 _ _ _ (by simp)))
  have hb2 : w2.heap[w.heap.size + 1 + 1]? = some (.cells #[.bool E, .slice none 0 0, .slice none 0 0, .slice none 0 0, .slice none 0 0] 58) := (b2.block (w.heap.size + 1 + 1) (by simp)).trans (heap_last2 _ _ _ (by simp))
  obtain ⟨z0, y0, rfl, -⟩ := OwnR.rows o0
  have Q0 : Hid (OwnR w2 (w.heap.size + 1 + 1 + 1) (.slice z0 S.length y0) S.length S.length (rw_ S)) := by
    have hq := o0
    simp only [World.alloc, Array.size_push] at hq
    exact hq
  have L2 : Hid (Below w.heap.size w w2) := (A3 _ _ _).trans (b2.mono (A3 _ _ _).size)
  clear b2 o0 A3
  have c2 : w2.cell? ⟨w.heap.size + 1 + 1, 1, none⟩ = some (.slice none 0 0) := cell_of hb2 1
  have f2 : w2.frozen? ⟨w.heap.size + 1 + 1, 1, none⟩ = false := frozen_of_row w2 _ _ _ _ hb2
  have kb0 := (blk_oth w2 (w.heap.size + 1 + 1) 1 w.heap.size (.slice z0 S.length y0) (by omega)).trans hb0
  have kb1 := (blk_oth w2 (w.heap.size + 1 + 1) 1 (w.heap.size + 1) (.slice z0 S.length y0) (by omega)).trans hb1
  have kb2 : (w2.setCell ⟨w.heap.size + 1 + 1, 1, none⟩ (.slice z0 S.length y0)).heap[w.heap.size + 1 + 1]? = some (.cells #[.bool E, .slice z0 S.length y0, .slice none 0 0, .slice none 0 0, .slice none 0 0] 58) := by rw [blk_same hb2 1 _]; rfl
  have c0 : (w2.setCell ⟨w.heap.size + 1 + 1, 1, none⟩ (.slice z0 S.length y0)).cell? ⟨w.heap.size, 2, none⟩ = some (.slice a F.length ca) := cell_of kb0 2
  have P0 : Hid (OwnR (w2.setCell ⟨w.heap.size + 1 + 1, 1, none⟩ (.slice z0 S.length y0)) (w.heap.size + 1 + 1 + 1) (.slice z0 S.length y0) S.length S.length (rw_ S)) := ownR_set Q0.out (by omega) 1 (.slice z0 S.length y0)
  have hsz : (w2.setCell ⟨w.heap.size + 1 + 1, 1, none⟩ (.slice z0 S.length y0)).heap.size = w2.heap.size := by simp [World.setCell]
  have K : Hid (Below w.heap.size w (w2.setCell ⟨w.heap.size + 1 + 1, 1, none⟩ (.slice z0 S.length y0))) := Below.grown L2.out (grown_set w2 _ _ _) L2.out.size (fun g e => by have := Option.some.inj e; omega)
  clear hb0 hb1 hb2 L2 Q0
  go_wp2_with fail
  refine (toI_any F a ca _ hl1 (IntsAt.keepB H1.out K.out)).mono ?_
  rintro r w3 ⟨v1, rfl, o, bb⟩
  have hs3 : w2.heap.size ≤ w3.heap.size := by have := bb.size; omega
  have hb0 := (bb.block (w.heap.size) (by omega)).trans kb0
  have hb1 := (bb.block (w.heap.size + 1) (by omega)).trans kb1
  have hb2 := (bb.block (w.heap.size + 1 + 1) (by omega)).trans kb2
  have Q0 : Hid (OwnR w3 (w.heap.size + 1 + 1 + 1) (.slice z0 S.length y0) S.length S.length (rw_ S)) := OwnR.keepB P0.out bb
  obtain ⟨-, z1, y1, rfl, -⟩ := ints_of_own o
  have Q1 : Hid (w3.ownsRow (w.heap.size + 1 + 1 + 1) 3 1 (.slice z1 F.length y1) F.length (ints F)) := own_mono o (by omega)
  have L2 : Hid (Below w.heap.size w w3) := K.out.trans (bb.mono K.out.size)
  clear bb o kb0 kb1 kb2 c2 f2 c0 K hsz P0
  have c2 : w3.cell? ⟨w.heap.size + 1 + 1, 2, none⟩ = some (.slice none 0 0) := cell_of hb2 2
  have f2 : w3.frozen? ⟨w.heap.size + 1 + 1, 2, none⟩ = false := frozen_of_row w3 _ _ _ _ hb2
  have kb0 := (blk_oth w3 (w.heap.size + 1 + 1) 2 w.heap.size (.slice z1 F.length y1) (by omega)).trans hb0
  have kb1 := (blk_oth w3 (w.heap.size + 1 + 1) 2 (w.heap.size + 1) (.slice z1 F.length y1) (by omega)).trans hb1
  have kb2 : (w3.setCell ⟨w.heap.size + 1 + 1, 2, none⟩ (.slice z1 F.length y1)).heap[w.heap.size + 1 + 1]? = some (.cells #[.bool E, .slice z0 S.length y0, .slice z1 F.length y1, .slice none 0 0, .slice none 0 0] 58) := by rw [blk_same hb2 2 _]; rfl
  have c0 : (w3.setCell ⟨w.heap.size + 1 + 1, 2, none⟩ (.slice z1 F.length y1)).cell? ⟨w.heap.size, 3, none⟩ = some (.slice b L.length cb) := cell_of kb0 3
  have P0 : Hid (OwnR (w3.setCell ⟨w.heap.size + 1 + 1, 2, none⟩ (.slice z1 F.length y1)) (w.heap.size + 1 + 1 + 1) (.slice z0 S.length y0) S.length S.length (rw_ S)) := ownR_set Q0.out (by omega) 2 (.slice z1 F.length y1)
  have P1 : Hid ((w3.setCell ⟨w.heap.size + 1 + 1, 2, none⟩ (.slice z1 F.length y1)).ownsRow (w.heap.size + 1 + 1 + 1) 3 1 (.slice z1 F.length y1) F.length (ints F)) := own_set Q1.out (by omega) 2 (.slice z1 F.length y1)
  have hsz : (w3.setCell ⟨w.heap.size + 1 + 1, 2, none⟩ (.slice z1 F.length y1)).heap.size = w3.heap.size := by simp [World.setCell]
  have K : Hid (Below w.heap.size w (w3.setCell ⟨w.heap.size + 1 + 1, 2, none⟩ (.slice z1 F.length y1))) := Below.grown L2.out (grown_set w3 _ _ _) L2.out.size (fun g e => by have := Option.some.inj e; omega)
  clear hb0 hb1 hb2 L2 Q0 Q1
  go_wp2_with fail
  refine (toI_any L b cb _ hl2 (IntsAt.keepB H2.out K.out)).mono ?_
  rintro r w4 ⟨v2, rfl, o, bb⟩
  have hs4 : w3.heap.size ≤ w4.heap.size := by have := bb.size; omega
  have hb0 := (bb.block (w.heap.size) (by omega)).trans kb0
  have hb1 := (bb.block (w.heap.size + 1) (by omega)).trans kb1
  have hb2 := (bb.block (w.heap.size + 1 + 1) (by omega)).trans kb2
  have Q0 : Hid (OwnR w4 (w.heap.size + 1 + 1 + 1) (.slice z0 S.length y0) S.length S.length (rw_ S)) := OwnR.keepB P0.out bb
  have Q1 : Hid (w4.ownsRow (w.heap.size + 1 + 1 + 1) 3 1 (.slice z1 F.length y1) F.length (ints F)) := World.ownsRow.keepB P1.out bb
  obtain ⟨-, z2, y2, rfl, -⟩ := ints_of_own o
  have Q2 : Hid (w4.ownsRow (w.heap.size + 1 + 1 + 1) 3 1 (.slice z2 L.length y2) L.length (ints L)) := own_mono o (by omega)
  have L2 : Hid (Below w.heap.size w w4) := K.out.trans (bb.mono K.out.size)
  clear bb o kb0 kb1 kb2 c2 f2 c0 K hsz P0 P1
  have c2 : w4.cell? ⟨w.heap.size + 1 + 1, 3, none⟩ = some (.slice none 0 0) := cell_of hb2 3
  have f2 : w4.frozen? ⟨w.heap.size + 1 + 1, 3, none⟩ = false := frozen_of_row w4 _ _ _ _ hb2
  have kb0 := (blk_oth w4 (w.heap.size + 1 + 1) 3 w.heap.size (.slice z2 L.length y2) (by omega)).trans hb0
  have kb1 := (blk_oth w4 (w.heap.size + 1 + 1) 3 (w.heap.size + 1) (.slice z2 L.length y2) (by omega)).trans hb1
  have kb2 : (w4.setCell ⟨w.heap.size + 1 + 1, 3, none⟩ (.slice z2 L.length y2)).heap[w.heap.size + 1 + 1]? = some (.cells #[.bool E, .slice z0 S.length y0, .slice z1 F.length y1, .slice z2 L.length y2, .slice none 0 0] 58) := by rw [blk_same hb2 3 _]; rfl
  have c0 : (w4.setCell ⟨w.heap.size + 1 + 1, 3, none⟩ (.slice z2 L.length y2)).cell? ⟨w.heap.size, 4, none⟩ = some (.slice g G.length cg) := cell_of kb0 4
  have P0 : Hid (OwnR (w4.setCell ⟨w.heap.size + 1 + 1, 3, none⟩ (.slice z2 L.length y2)) (w.heap.size + 1 + 1 + 1) (.slice z0 S.length y0) S.length S.length (rw_ S)) := ownR_set Q0.out (by omega) 3 (.slice z2 L.length y2)
  have P1 : Hid ((w4.setCell ⟨w.heap.size + 1 + 1, 3, none⟩ (.slice z2 L.length y2)).ownsRow (w.heap.size + 1 + 1 + 1) 3 1 (.slice z1 F.length y1) F.length (ints F)) := own_set Q1.out (by omega) 3 (.slice z2 L.length y2)
  have P2 : Hid ((w4.setCell ⟨w.heap.size + 1 + 1, 3, none⟩ (.slice z2 L.length y2)).ownsRow (w.heap.size + 1 + 1 + 1) 3 1 (.slice z2 L.length y2) L.length (ints L)) := own_set Q2.out (by omega) 3 (.slice z2 L.length y2)
  have hsz : (w4.setCell ⟨w.heap.size + 1 + 1, 3, none⟩ (.slice z2 L.length y2)).heap.size = w4.heap.size := by simp [World.setCell]
  have K : Hid (Below w.heap.size w (w4.setCell ⟨w.heap.size + 1 + 1, 3, none⟩ (.slice z2 L.length y2))) := Below.grown L2.out (grown_set w4 _ _ _) L2.out.size (fun g e => by have := Option.some.inj e; omega)
  clear hb0 hb1 hb2 L2 Q0 Q1 Q2
  go_wp2_with fail
  refine (toIntSS_any G g cg _ hl3.out (RowsAt.keepB H3.out K.out)).mono ?_
  rintro r w5 ⟨v3, rfl, o, bb⟩
  have hs5 : w4.heap.size ≤ w5.heap.size := by have := bb.size; omega
  have hb0 := (bb.block (w.heap.size) (by omega)).trans kb0
  have hb1 := (bb.block (w.heap.size + 1) (by omega)).trans kb1
  have hb2 := (bb.block (w.heap.size + 1 + 1) (by omega)).trans kb2
  have Q0 : Hid (OwnR w5 (w.heap.size + 1 + 1 + 1) (.slice z0 S.length y0) S.length S.length (rw_ S)) := OwnR.keepB P0.out bb
  have Q1 : Hid (w5.ownsRow (w.heap.size + 1 + 1 + 1) 3 1 (.slice z1 F.length y1) F.length (ints F)) := World.ownsRow.keepB P1.out bb
  have Q2 : Hid (w5.ownsRow (w.heap.size + 1 + 1 + 1) 3 1 (.slice z2 L.length y2) L.length (ints L)) := World.ownsRow.keepB P2.out bb
  obtain ⟨z3, y3, rfl, -⟩ := OwnR.rows o
  have Q3 : Hid (OwnR w5 (w.heap.size + 1 + 1 + 1) (.slice z3 G.length y3) G.length G.length (rw_ G)) := by
    obtain ⟨Q, q1, q2, q3, q4⟩ := o
    exact ⟨Q, q1, own_mono q2 (by omega), fun j hj => own_mono (q3 j hj) (by omega), q4⟩
  have L2 : Hid (Below w.heap.size w w5) := K.out.trans (bb.mono K.out.size)
  clear bb o kb0 kb1 kb2 c2 f2 c0 K hsz P0 P1 P2
  have c2 : w5.cell? ⟨w.heap.size + 1 + 1, 4, none⟩ = some (.slice none 0 0) := cell_of hb2 4
  have f2 : w5.frozen? ⟨w.heap.size + 1 + 1, 4, none⟩ = false := frozen_of_row w5 _ _ _ _ hb2
  have g0 : w5.cell? ⟨w.heap.size + 1 + 1, 0, none⟩ = some (.bool E) := cell_of hb2 0
  have g1 : w5.cell? ⟨w.heap.size + 1 + 1, 1, none⟩ = some (.slice z0 S.length y0) := cell_of hb2 1
  have g2 : w5.cell? ⟨w.heap.size + 1 + 1, 2, none⟩ = some (.slice z1 F.length y1) := cell_of hb2 2
  have g3 : w5.cell? ⟨w.heap.size + 1 + 1, 3, none⟩ = some (.slice z2 L.length y2) := cell_of hb2 3
  have d0 : w5.cell? ⟨w.heap.size + 1, 0, none⟩ = some (.bool false) := cell_of hb1 0
  have d1 : w5.cell? ⟨w.heap.size + 1, 1, none⟩ = some (.slice none 0 0) := cell_of hb1 1
  have d2 : w5.cell? ⟨w.heap.size + 1, 2, none⟩ = some (.slice none 0 0) := cell_of hb1 2
  have d3 : w5.cell? ⟨w.heap.size + 1, 3, none⟩ = some (.slice none 0 0) := cell_of hb1 3
  have d4 : w5.cell? ⟨w.heap.size + 1, 4, none⟩ = some (.slice none 0 0) := cell_of hb1 4
  have e0 : w5.frozen? ⟨w.heap.size + 1, 0, none⟩ = false := frozen_of_row w5 _ _ _ _ hb1
  have e1 : w5.frozen? ⟨w.heap.size + 1, 1, none⟩ = false := frozen_of_row w5 _ _ _ _ hb1
  have e2 : w5.frozen? ⟨w.heap.size + 1, 2, none⟩ = false := frozen_of_row w5 _ _ _ _ hb1
  have e3 : w5.frozen? ⟨w.heap.size + 1, 3, none⟩ = false := frozen_of_row w5 _ _ _ _ hb1
  have e4 : w5.frozen? ⟨w.heap.size + 1, 4, none⟩ = false := frozen_of_row w5 _ _ _ _ hb1
  have HB1 : Hid _ := hb1
  clear hb0 hb1 hb2
  go_wp2
  obtain ⟨w9, hw9⟩ : ∃ w9, w9 = ((((((w5.setCell ⟨w.heap.size + 1 + 1, 4, none⟩ (.slice z3 G.length y3)).setCell ⟨w.heap.size + 1, 0, none⟩ (.bool E)).setCell ⟨w.heap.size + 1, 1, none⟩ (.slice z0 S.length y0)).setCell ⟨w.heap.size + 1, 2, none⟩ (.slice z1 F.length y1)).setCell ⟨w.heap.size + 1, 3, none⟩ (.slice z2 L.length y2)).setCell ⟨w.heap.size + 1, 4, none⟩ (.slice z3 G.length y3)) := ⟨_, rfl⟩
  have hb9 : w9.heap[w.heap.size + 1]? = some (.cells #[.bool E, .slice z0 S.length y0, .slice z1 F.length y1, .slice z2 L.length y2, .slice z3 G.length y3] 58) := by
    rw [hw9]
    exact blk_same (blk_same (blk_same (blk_same (blk_same ((blk_oth w5 (w.heap.size + 1 + 1) 4 (w.heap.size + 1) (.slice z3 G.length y3) (by omega)).trans HB1.out) 0 _) 1 _) 2 _) 3 _) 4 _
  have ow : ∀ {t : TypeId} {v : Value} {n : Nat} {xs : List Value}, w5.ownsRow (w.heap.size + 1 + 1 + 1) t 1 v n xs → w9.ownsRow (w.heap.size + 1 + 1 + 1) t 1 v n xs := fun ho => by
    rw [hw9]
    exact own_set (own_set (own_set (own_set (own_set (own_set ho (by omega) _ _) (by omega) _ _) (by omega) _ _) (by omega) _ _) (by omega) _ _) (by omega) _ _
  have owR : ∀ {v : Value} {n : Nat} {f : Nat → List Int}, OwnR w5 (w.heap.size + 1 + 1 + 1) v n n f → OwnR w9 (w.heap.size + 1 + 1 + 1) v n n f := fun ho => by
    obtain ⟨Q, x1, x2, x3, x4⟩ := ho
    exact ⟨Q, x1, ow x2, fun j hj => ow (x3 j hj), x4⟩
  have bel : Below w.heap.size w w9 := by
    rw [hw9]
    have hz := L2.out.size
    have hn : ∀ (g : Nat), some (w.heap.size + 1) = some g → w.heap.size ≤ g := fun g e => by have := Option.some.inj e; omega
    have hn2 : ∀ (g : Nat), some (w.heap.size + 1 + 1) = some g → w.heap.size ≤ g := fun g e => by have := Option.some.inj e; omega
    have q1 := Below.grown L2.out (grown_set w5 (w.heap.size + 1 + 1) 4 (.slice z3 G.length y3)) hz hn2
    have q2 := Below.grown q1 (grown_set _ (w.heap.size + 1) 0 (.bool E)) q1.size hn
    have q3 := Below.grown q2 (grown_set _ (w.heap.size + 1) 1 (.slice z0 S.length y0)) q2.size hn
    have q4 := Below.grown q3 (grown_set _ (w.heap.size + 1) 2 (.slice z1 F.length y1)) q3.size hn
    have q5 := Below.grown q4 (grown_set _ (w.heap.size + 1) 3 (.slice z2 L.length y2)) q4.size hn
    have q6 := Below.grown q5 (grown_set _ (w.heap.size + 1) 4 (.slice z3 G.length y3)) q5.size hn
    exact q6
  rw [← hw9]
  have r0 : w9.cell? ⟨w.heap.size + 1, 0, none⟩ = some (.bool E) := cell_of hb9 0
  have r1 : w9.cell? ⟨w.heap.size + 1, 1, none⟩ = some (.slice z0 S.length y0) := cell_of hb9 1
  have r2 : w9.cell? ⟨w.heap.size + 1, 2, none⟩ = some (.slice z1 F.length y1) := cell_of hb9 2
  have r3 : w9.cell? ⟨w.heap.size + 1, 3, none⟩ = some (.slice z2 L.length y2) := cell_of hb9 3
  have r4 : w9.cell? ⟨w.heap.size + 1, 4, none⟩ = some (.slice z3 G.length y3) := cell_of hb9 4
  obtain ⟨t0, k0, e0, i0⟩ := OwnR.rows (owR Q0.out)
  obtain ⟨-, t1, k1, e1', i1⟩ := ints_of_own (ow Q1.out)
  obtain ⟨-, t2, k2, e2', i2⟩ := ints_of_own (ow Q2.out)
  obtain ⟨t3, k3, e3', i3⟩ := OwnR.rows (owR Q3.out)
  simp only [Value.slice.injEq] at e0 e1' e2' e3'
  obtain ⟨rfl, -, -⟩ := e0
  obtain ⟨rfl, -, -⟩ := e1'
  obtain ⟨rfl, -, -⟩ := e2'
  obtain ⟨rfl, -, -⟩ := e3'
  exact bodyPost_ret (v := .agg #[.bool E, .slice z0 S.length y0, .slice z1 F.length y1, .slice z2 L.length y2, .slice z3 G.length y3]) (by simp [results, Try.results38, go_sem, r0, r1, r2, r3, r4]) rfl
    ⟨_, _, _, _, _, _, _, _, rfl, i0, i1, i2, i3, bel⟩
end Go.Proofs.Ytlkcdcdgpklpoaa
