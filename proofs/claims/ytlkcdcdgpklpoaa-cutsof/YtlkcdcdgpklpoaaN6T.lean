/-
  The laws' copy of a machine of places, as memory of its own; its marks.
-/
import Derived.Test.YtlkcdcdgpklpoaaN6B
import Derived.Test.YtlkcdcdgpklpoaaM6L
namespace Go.Proofs.Ytlkcdcdgpklpoaa
open Go.ChangeShapes Go.WideShapes Go.ChangeAt Go.WideMaps Go.WideElems Go.RowKit
theorem ownR_q {w : World} {base : Nat} {v : Value} {n : Nat} {f : Nat → List Int} (h : OwnR w base v n n f) : ∃ Q, OwnQ w base w.heap.size (.slice none 0 0) v (.slice none 0 0) Q [] n f [] := by
  obtain ⟨Q, q1, q2, q3, q4⟩ := h
  exact ⟨Q, World.ownsRow_nil _ _ _ _, World.ownsRow_nil _ _ _ _, q1, q2, q3, q4, fun j _ => .inl rfl, (fun g e => by cases e), (fun g e => by cases e), fun j hj g e => (World.ownsRow.lt (q3 j hj) g e).2, fun g e => (World.ownsRow.lt q2 g e).2⟩
theorem ownQ_set {w : World} {base top : Nat} {v0 v1 v2 : Value} {Q : List Value} {C : List Int} {n : Nat} {f : Nat → List Int} {F : List Bool} (h : OwnQ w base top v0 v1 v2 Q C n f F) {b : Nat} (hb : b < base) (o : Nat) (u : Value) : OwnQ (w.setCell ⟨b, o, none⟩ u) base top v0 v1 v2 Q C n f F := by
  obtain ⟨h0, h2, q1, q2, q3, r⟩ := h
  exact ⟨own_set h0 hb o u, own_set h2 hb o u, q1, own_set q2 hb o u, fun j hj => own_set (q3 j hj) hb o u, r⟩
theorem OwnQ.lower {w : World} {base b top : Nat} {v0 v1 v2 : Value} {Q : List Value} {C : List Int} {n : Nat} {f : Nat → List Int} {F : List Bool} (h : OwnQ w base top v0 v1 v2 Q C n f F) (hb : b ≤ base) : OwnQ w b top v0 v1 v2 Q C n f F := by
  obtain ⟨h0, h2, q1, q2, q3, r⟩ := h
  exact ⟨own_mono h0 hb, own_mono h2 hb, q1, own_mono q2 hb, fun j hj => own_mono (q3 j hj) hb, r⟩
/-- A machine of places in memory of its own, its four lists one behind the other. -/
structure OwnM (w : World) (base top t1 t2 t3 : Nat) (vS vF vL vG : Value) (QS QG : List Value) (nS : Nat) (fS : Nat → List Int) (F L : List Int) (nG : Nat) (fG : Nat → List Int) : Prop where
  s : OwnQ w base t1 (.slice none 0 0) vS (.slice none 0 0) QS [] nS fS []
  f : w.ownsRow t1 3 1 vF F.length (ints F)
  l : w.ownsRow t2 3 1 vL L.length (ints L)
  g : OwnQ w t3 top (.slice none 0 0) vG (.slice none 0 0) QG [] nG fG []
  tf : ∀ g, vF.ownBlock = some g → g < t2
  tl : ∀ g, vL.ownBlock = some g → g < t3
  le1 : base ≤ t1
  le2 : t1 ≤ t2
  le3 : t2 ≤ t3
  le4 : t3 ≤ top
theorem OwnM.keepB {w w' : World} {base top t1 t2 t3 : Nat} {vS vF vL vG : Value} {QS QG : List Value} {nS : Nat} {fS : Nat → List Int} {F L : List Int} {nG : Nat} {fG : Nat → List Int} (h : OwnM w base top t1 t2 t3 vS vF vL vG QS QG nS fS F L nG fG) (hb : Below w.heap.size w w') : OwnM w' base top t1 t2 t3 vS vF vL vG QS QG nS fS F L nG fG :=
  ⟨h.s.keepB hb, World.ownsRow.keepB h.f hb, World.ownsRow.keepB h.l hb, h.g.keepB hb, h.tf, h.tl, h.le1, h.le2, h.le3, h.le4⟩
theorem OwnM.at {w : World} {base top t1 t2 t3 : Nat} {z0 z1 z2 z3 : Option Addr} {n0 n1 n2 n3 y0 y1 y2 y3 : Nat} {QS QG : List Value} {S G : Rw} {F L : List Int} (h : OwnM w base top t1 t2 t3 (.slice z0 n0 y0) (.slice z1 n1 y1) (.slice z2 n2 y2) (.slice z3 n3 y3) QS QG S.length (rw_ S) F L G.length (rw_ G)) : RowsAt w z0 S ∧ IntsAt w z1 F ∧ IntsAt w z2 L ∧ RowsAt w z3 G := by
  refine ⟨h.s.at.2.1, ?_, ?_, h.g.at.2.1⟩
  · obtain ⟨-, a', ca', e0, i⟩ := ints_of_own h.f
    simp only [Value.slice.injEq] at e0; rw [e0.1]; exact i
  · obtain ⟨-, a', ca', e0, i⟩ := ints_of_own h.l
    simp only [Value.slice.injEq] at e0; rw [e0.1]; exact i
set_option maxRecDepth 100000 in
set_option maxHeartbeats 4000000 in
theorem toNfaM_any (E : Bool) (S G : Rw) (F L : List Int) (s a b g : Option Addr) (cs ca cb cg : Nat) (w : World) (hl : szN S F L G ≤ 1048576) (hS : RowsAt w s S) (hF : IntsAt w a F) (hL : IntsAt w b L) (hG : RowsAt w g G) :
    Calls Try.prog 38 #[.agg #[.bool E, .slice s S.length cs, .slice a F.length ca, .slice b L.length cb, .slice g G.length cg]] w fun r w' => ∃ z0 z1 z2 z3 y0 y1 y2 y3 QS QG t1 t2 t3, r = .returned (.agg #[.bool E, .slice z0 S.length y0, .slice z1 F.length y1, .slice z2 L.length y2, .slice z3 G.length y3]) ∧ OwnM w' w.heap.size w'.heap.size t1 t2 t3 (.slice z0 S.length y0) (.slice z1 F.length y1) (.slice z2 L.length y2) (.slice z3 G.length y3) QS QG S.length (rw_ S) F L G.length (rw_ G) ∧ Below w.heap.size w w' := by
  have H0 : Hid (RowsAt w s S) := hS
  have H1 : Hid (IntsAt w a F) := hF
  have H2 : Hid (IntsAt w b L) := hL
  have H3 : Hid (RowsAt w g G) := hG
  have hl1 : F.length ≤ 1048576 := by unfold szN at hl; omega
  have hl2 : L.length ≤ 1048576 := by unfold szN at hl; omega
  have hl0 : Hid (szR S ≤ 1048576) := by unfold szN at hl; exact (by omega : szR S ≤ 1048576)
  have hl3 : Hid (szR G ≤ 1048576) := by unfold szN at hl; exact (by omega : szR G ≤ 1048576)
  clear hS hF hL hG hl
  have A3 : ∀ o p q, Below w.heap.size w (((w.alloc o).alloc p).alloc q) := fun o p q => (((Below.refl _ _).alloc (Nat.le_refl _) o).alloc (by simp) p).alloc (by simp; omega) q
  go_enter Try.func38, Try.ntmps38
  go_wp2_with fail
  refine (toIntSS_any S s cs _ hl0.out (RowsAt.keepB H0.out (A3 _ _ _))).mono ?_
  rintro r w2 ⟨v0, rfl, o0, b2⟩
  have hs2 : w.heap.size + 1 + 1 < w2.heap.size := Nat.lt_of_lt_of_le (by simp) b2.size
  have hb0 : w2.heap[w.heap.size]? = some (.cells #[.bool E, .slice s S.length cs, .slice a F.length ca, .slice b L.length cb, .slice g G.length cg] 65) := (b2.block w.heap.size (by simp; omega)).trans ((heap_prev _ _ _ (by simp; omega)).trans ((heap_prev _ _ _ (by simp)).trans (heap_last2 _ _ _ rfl)))
  have hb1 : w2.heap[w.heap.size + 1]? = some (.cells #[.bool false, .slice none 0 0, .slice none 0 0, .slice none 0 0, .slice none 0 0] 58) := (b2.block (w.heap.size + 1) (by simp)).trans ((heap_prev _ _ _ (by simp)).trans (heap_last2 _ _ _ (by simp)))
  have hb2 : w2.heap[w.heap.size + 1 + 1]? = some (.cells #[.bool E, .slice none 0 0, .slice none 0 0, .slice none 0 0, .slice none 0 0] 58) := (b2.block (w.heap.size + 1 + 1) (by simp)).trans (heap_last2 _ _ _ (by simp))
  obtain ⟨z0, y0, rfl, -⟩ := OwnR.rows o0
  obtain ⟨QS, hQS⟩ := ownR_q o0
  have Q0 : Hid (OwnQ w2 (w.heap.size + 1 + 1 + 1) w2.heap.size (.slice none 0 0) (.slice z0 S.length y0) (.slice none 0 0) QS [] S.length (rw_ S) []) := by
    have hq := hQS
    simp only [World.alloc, Array.size_push] at hq
    exact hq
  clear hQS
  have L2 : Hid (Below w.heap.size w w2) := (A3 _ _ _).trans (b2.mono (A3 _ _ _).size)
  clear b2 o0 A3
  have c2 : w2.cell? ⟨w.heap.size + 1 + 1, 1, none⟩ = some (.slice none 0 0) := cell_of hb2 1
  have f2 : w2.frozen? ⟨w.heap.size + 1 + 1, 1, none⟩ = false := frozen_of_row w2 _ _ _ _ hb2
  have kb0 := (blk_oth w2 (w.heap.size + 1 + 1) 1 w.heap.size (.slice z0 S.length y0) (by omega)).trans hb0
  have kb1 := (blk_oth w2 (w.heap.size + 1 + 1) 1 (w.heap.size + 1) (.slice z0 S.length y0) (by omega)).trans hb1
  have kb2 : (w2.setCell ⟨w.heap.size + 1 + 1, 1, none⟩ (.slice z0 S.length y0)).heap[w.heap.size + 1 + 1]? = some (.cells #[.bool E, .slice z0 S.length y0, .slice none 0 0, .slice none 0 0, .slice none 0 0] 58) := by rw [blk_same hb2 1 _]; rfl
  have c0 : (w2.setCell ⟨w.heap.size + 1 + 1, 1, none⟩ (.slice z0 S.length y0)).cell? ⟨w.heap.size, 2, none⟩ = some (.slice a F.length ca) := cell_of kb0 2
  have P0 : Hid (OwnQ (w2.setCell ⟨w.heap.size + 1 + 1, 1, none⟩ (.slice z0 S.length y0)) (w.heap.size + 1 + 1 + 1) w2.heap.size (.slice none 0 0) (.slice z0 S.length y0) (.slice none 0 0) QS [] S.length (rw_ S) []) := ownQ_set Q0.out (by omega) 1 (.slice z0 S.length y0)
  have hsz : (w2.setCell ⟨w.heap.size + 1 + 1, 1, none⟩ (.slice z0 S.length y0)).heap.size = w2.heap.size := by simp [World.setCell]
  have K : Hid (Below w.heap.size w (w2.setCell ⟨w.heap.size + 1 + 1, 1, none⟩ (.slice z0 S.length y0))) := Below.grown L2.out (grown_set w2 _ _ _) L2.out.size (fun g e => by have := Option.some.inj e; omega)
  clear hb0 hb1 hb2 L2 Q0
  go_wp2_with fail
  refine (toI_any F a ca _ hl1 (IntsAt.keepB H1.out K.out)).mono ?_
  rintro r w3 ⟨v1, rfl, o, bb⟩
  have hs3 : w2.heap.size ≤ w3.heap.size := by have := bb.size; omega
  have hb0 := (bb.block (w.heap.size) (by omega)).trans kb0
  have hb1 := (bb.block (w.heap.size + 1) (by omega)).trans kb1
  have hb2 := (bb.block (w.heap.size + 1 + 1) (by omega)).trans kb2
  have Q0 : Hid (OwnQ w3 (w.heap.size + 1 + 1 + 1) w2.heap.size (.slice none 0 0) (.slice z0 S.length y0) (.slice none 0 0) QS [] S.length (rw_ S) []) := OwnQ.keepB P0.out bb
  obtain ⟨-, z1, y1, rfl, -⟩ := ints_of_own o
  have Q1 : Hid (w3.ownsRow w2.heap.size 3 1 (.slice z1 F.length y1) F.length (ints F)) := own_mono o (by rw [hsz]; exact Nat.le_refl _)
  have T1 : Hid (∀ g, (Value.slice z1 F.length y1).ownBlock = some g → g < w3.heap.size) := fun g e => (World.ownsRow.lt o g e).2
  have L2 : Hid (Below w.heap.size w w3) := K.out.trans (bb.mono K.out.size)
  clear bb o kb0 kb1 kb2 c2 f2 c0 K hsz P0
  have c2 : w3.cell? ⟨w.heap.size + 1 + 1, 2, none⟩ = some (.slice none 0 0) := cell_of hb2 2
  have f2 : w3.frozen? ⟨w.heap.size + 1 + 1, 2, none⟩ = false := frozen_of_row w3 _ _ _ _ hb2
  have kb0 := (blk_oth w3 (w.heap.size + 1 + 1) 2 w.heap.size (.slice z1 F.length y1) (by omega)).trans hb0
  have kb1 := (blk_oth w3 (w.heap.size + 1 + 1) 2 (w.heap.size + 1) (.slice z1 F.length y1) (by omega)).trans hb1
  have kb2 : (w3.setCell ⟨w.heap.size + 1 + 1, 2, none⟩ (.slice z1 F.length y1)).heap[w.heap.size + 1 + 1]? = some (.cells #[.bool E, .slice z0 S.length y0, .slice z1 F.length y1, .slice none 0 0, .slice none 0 0] 58) := by rw [blk_same hb2 2 _]; rfl
  have c0 : (w3.setCell ⟨w.heap.size + 1 + 1, 2, none⟩ (.slice z1 F.length y1)).cell? ⟨w.heap.size, 3, none⟩ = some (.slice b L.length cb) := cell_of kb0 3
  have P0 : Hid (OwnQ (w3.setCell ⟨w.heap.size + 1 + 1, 2, none⟩ (.slice z1 F.length y1)) (w.heap.size + 1 + 1 + 1) w2.heap.size (.slice none 0 0) (.slice z0 S.length y0) (.slice none 0 0) QS [] S.length (rw_ S) []) := ownQ_set Q0.out (by omega) 2 (.slice z1 F.length y1)
  have P1 : Hid ((w3.setCell ⟨w.heap.size + 1 + 1, 2, none⟩ (.slice z1 F.length y1)).ownsRow w2.heap.size 3 1 (.slice z1 F.length y1) F.length (ints F)) := own_set Q1.out (by omega) 2 (.slice z1 F.length y1)
  have hsz : (w3.setCell ⟨w.heap.size + 1 + 1, 2, none⟩ (.slice z1 F.length y1)).heap.size = w3.heap.size := by simp [World.setCell]
  have K : Hid (Below w.heap.size w (w3.setCell ⟨w.heap.size + 1 + 1, 2, none⟩ (.slice z1 F.length y1))) := Below.grown L2.out (grown_set w3 _ _ _) L2.out.size (fun g e => by have := Option.some.inj e; omega)
  clear hb0 hb1 hb2 L2 Q0 Q1
  go_wp2_with fail
  refine (toI_any L b cb _ hl2 (IntsAt.keepB H2.out K.out)).mono ?_
  rintro r w4 ⟨v2, rfl, o, bb⟩
  have hs4 : w3.heap.size ≤ w4.heap.size := by have := bb.size; omega
  have hb0 := (bb.block (w.heap.size) (by omega)).trans kb0
  have hb1 := (bb.block (w.heap.size + 1) (by omega)).trans kb1
  have hb2 := (bb.block (w.heap.size + 1 + 1) (by omega)).trans kb2
  have Q0 : Hid (OwnQ w4 (w.heap.size + 1 + 1 + 1) w2.heap.size (.slice none 0 0) (.slice z0 S.length y0) (.slice none 0 0) QS [] S.length (rw_ S) []) := OwnQ.keepB P0.out bb
  have Q1 : Hid (w4.ownsRow w2.heap.size 3 1 (.slice z1 F.length y1) F.length (ints F)) := World.ownsRow.keepB P1.out bb
  obtain ⟨-, z2, y2, rfl, -⟩ := ints_of_own o
  have Q2 : Hid (w4.ownsRow w3.heap.size 3 1 (.slice z2 L.length y2) L.length (ints L)) := own_mono o (by rw [hsz]; exact Nat.le_refl _)
  have T2 : Hid (∀ g, (Value.slice z2 L.length y2).ownBlock = some g → g < w4.heap.size) := fun g e => (World.ownsRow.lt o g e).2
  have L2 : Hid (Below w.heap.size w w4) := K.out.trans (bb.mono K.out.size)
  clear bb o kb0 kb1 kb2 c2 f2 c0 K hsz P0 P1
  have c2 : w4.cell? ⟨w.heap.size + 1 + 1, 3, none⟩ = some (.slice none 0 0) := cell_of hb2 3
  have f2 : w4.frozen? ⟨w.heap.size + 1 + 1, 3, none⟩ = false := frozen_of_row w4 _ _ _ _ hb2
  have kb0 := (blk_oth w4 (w.heap.size + 1 + 1) 3 w.heap.size (.slice z2 L.length y2) (by omega)).trans hb0
  have kb1 := (blk_oth w4 (w.heap.size + 1 + 1) 3 (w.heap.size + 1) (.slice z2 L.length y2) (by omega)).trans hb1
  have kb2 : (w4.setCell ⟨w.heap.size + 1 + 1, 3, none⟩ (.slice z2 L.length y2)).heap[w.heap.size + 1 + 1]? = some (.cells #[.bool E, .slice z0 S.length y0, .slice z1 F.length y1, .slice z2 L.length y2, .slice none 0 0] 58) := by rw [blk_same hb2 3 _]; rfl
  have c0 : (w4.setCell ⟨w.heap.size + 1 + 1, 3, none⟩ (.slice z2 L.length y2)).cell? ⟨w.heap.size, 4, none⟩ = some (.slice g G.length cg) := cell_of kb0 4
  have P0 : Hid (OwnQ (w4.setCell ⟨w.heap.size + 1 + 1, 3, none⟩ (.slice z2 L.length y2)) (w.heap.size + 1 + 1 + 1) w2.heap.size (.slice none 0 0) (.slice z0 S.length y0) (.slice none 0 0) QS [] S.length (rw_ S) []) := ownQ_set Q0.out (by omega) 3 (.slice z2 L.length y2)
  have P1 : Hid ((w4.setCell ⟨w.heap.size + 1 + 1, 3, none⟩ (.slice z2 L.length y2)).ownsRow w2.heap.size 3 1 (.slice z1 F.length y1) F.length (ints F)) := own_set Q1.out (by omega) 3 (.slice z2 L.length y2)
  have P2 : Hid ((w4.setCell ⟨w.heap.size + 1 + 1, 3, none⟩ (.slice z2 L.length y2)).ownsRow w3.heap.size 3 1 (.slice z2 L.length y2) L.length (ints L)) := own_set Q2.out (by omega) 3 (.slice z2 L.length y2)
  have hsz : (w4.setCell ⟨w.heap.size + 1 + 1, 3, none⟩ (.slice z2 L.length y2)).heap.size = w4.heap.size := by simp [World.setCell]
  have K : Hid (Below w.heap.size w (w4.setCell ⟨w.heap.size + 1 + 1, 3, none⟩ (.slice z2 L.length y2))) := Below.grown L2.out (grown_set w4 _ _ _) L2.out.size (fun g e => by have := Option.some.inj e; omega)
  clear hb0 hb1 hb2 L2 Q0 Q1 Q2
  go_wp2_with fail
  refine (toIntSS_any G g cg _ hl3.out (RowsAt.keepB H3.out K.out)).mono ?_
  rintro r w5 ⟨v3, rfl, o, bb⟩
  have hs5 : w4.heap.size ≤ w5.heap.size := by have := bb.size; omega
  have hb0 := (bb.block (w.heap.size) (by omega)).trans kb0
  have hb1 := (bb.block (w.heap.size + 1) (by omega)).trans kb1
  have hb2 := (bb.block (w.heap.size + 1 + 1) (by omega)).trans kb2
  have Q0 : Hid (OwnQ w5 (w.heap.size + 1 + 1 + 1) w2.heap.size (.slice none 0 0) (.slice z0 S.length y0) (.slice none 0 0) QS [] S.length (rw_ S) []) := OwnQ.keepB P0.out bb
  have Q1 : Hid (w5.ownsRow w2.heap.size 3 1 (.slice z1 F.length y1) F.length (ints F)) := World.ownsRow.keepB P1.out bb
  have Q2 : Hid (w5.ownsRow w3.heap.size 3 1 (.slice z2 L.length y2) L.length (ints L)) := World.ownsRow.keepB P2.out bb
  obtain ⟨z3, y3, rfl, -⟩ := OwnR.rows o
  obtain ⟨QG, hQG⟩ := ownR_q o
  rw [hsz] at hQG
  have Q3 : Hid (OwnQ w5 w4.heap.size w5.heap.size (.slice none 0 0) (.slice z3 G.length y3) (.slice none 0 0) QG [] G.length (rw_ G) []) := hQG
  clear hQG
  have L2 : Hid (Below w.heap.size w w5) := K.out.trans (bb.mono K.out.size)
  clear bb o kb0 kb1 kb2 c2 f2 c0 K hsz P0 P1 P2
  have c2 : w5.cell? ⟨w.heap.size + 1 + 1, 4, none⟩ = some (.slice none 0 0) := cell_of hb2 4
  have f2 : w5.frozen? ⟨w.heap.size + 1 + 1, 4, none⟩ = false := frozen_of_row w5 _ _ _ _ hb2
  have g0 : w5.cell? ⟨w.heap.size + 1 + 1, 0, none⟩ = some (.bool E) := cell_of hb2 0
  have g1 : w5.cell? ⟨w.heap.size + 1 + 1, 1, none⟩ = some (.slice z0 S.length y0) := cell_of hb2 1
  have g2 : w5.cell? ⟨w.heap.size + 1 + 1, 2, none⟩ = some (.slice z1 F.length y1) := cell_of hb2 2
  have g3 : w5.cell? ⟨w.heap.size + 1 + 1, 3, none⟩ = some (.slice z2 L.length y2) := cell_of hb2 3
  have d0 : w5.cell? ⟨w.heap.size + 1, 0, none⟩ = some (.bool false) := cell_of hb1 0
  have d1 : w5.cell? ⟨w.heap.size + 1, 1, none⟩ = some (.slice none 0 0) := cell_of hb1 1
  have d2 : w5.cell? ⟨w.heap.size + 1, 2, none⟩ = some (.slice none 0 0) := cell_of hb1 2
  have d3 : w5.cell? ⟨w.heap.size + 1, 3, none⟩ = some (.slice none 0 0) := cell_of hb1 3
  have d4 : w5.cell? ⟨w.heap.size + 1, 4, none⟩ = some (.slice none 0 0) := cell_of hb1 4
  have e0 : w5.frozen? ⟨w.heap.size + 1, 0, none⟩ = false := frozen_of_row w5 _ _ _ _ hb1
  have e1 : w5.frozen? ⟨w.heap.size + 1, 1, none⟩ = false := frozen_of_row w5 _ _ _ _ hb1
  have e2 : w5.frozen? ⟨w.heap.size + 1, 2, none⟩ = false := frozen_of_row w5 _ _ _ _ hb1
  have e3 : w5.frozen? ⟨w.heap.size + 1, 3, none⟩ = false := frozen_of_row w5 _ _ _ _ hb1
  have e4 : w5.frozen? ⟨w.heap.size + 1, 4, none⟩ = false := frozen_of_row w5 _ _ _ _ hb1
  have HB1 : Hid _ := hb1
  clear hb0 hb1 hb2
  go_wp2
  obtain ⟨w9, hw9⟩ : ∃ w9, w9 = ((((((w5.setCell ⟨w.heap.size + 1 + 1, 4, none⟩ (.slice z3 G.length y3)).setCell ⟨w.heap.size + 1, 0, none⟩ (.bool E)).setCell ⟨w.heap.size + 1, 1, none⟩ (.slice z0 S.length y0)).setCell ⟨w.heap.size + 1, 2, none⟩ (.slice z1 F.length y1)).setCell ⟨w.heap.size + 1, 3, none⟩ (.slice z2 L.length y2)).setCell ⟨w.heap.size + 1, 4, none⟩ (.slice z3 G.length y3)) := ⟨_, rfl⟩
  have hb9 : w9.heap[w.heap.size + 1]? = some (.cells #[.bool E, .slice z0 S.length y0, .slice z1 F.length y1, .slice z2 L.length y2, .slice z3 G.length y3] 58) := by
    rw [hw9]
    exact blk_same (blk_same (blk_same (blk_same (blk_same ((blk_oth w5 (w.heap.size + 1 + 1) 4 (w.heap.size + 1) (.slice z3 G.length y3) (by omega)).trans HB1.out) 0 _) 1 _) 2 _) 3 _) 4 _
  have owQ : ∀ {b t : Nat} {v0 v1 v2 : Value} {Q : List Value} {n : Nat} {f : Nat → List Int}, w.heap.size + 1 + 1 < b → OwnQ w5 b t v0 v1 v2 Q [] n f [] → OwnQ w9 b t v0 v1 v2 Q [] n f [] := fun hb ho => by
    rw [hw9]
    exact ownQ_set (ownQ_set (ownQ_set (ownQ_set (ownQ_set (ownQ_set ho hb _ _) (by omega) _ _) (by omega) _ _) (by omega) _ _) (by omega) _ _) (by omega) _ _
  have ow : ∀ {b : Nat} {v : Value} {n : Nat} {xs : List Value}, w.heap.size + 1 + 1 < b → w5.ownsRow b 3 1 v n xs → w9.ownsRow b 3 1 v n xs := fun hb ho => by
    rw [hw9]
    exact own_set (own_set (own_set (own_set (own_set (own_set ho hb _ _) (by omega) _ _) (by omega) _ _) (by omega) _ _) (by omega) _ _) (by omega) _ _
  have hs9 : w9.heap.size = w5.heap.size := by rw [hw9]; simp [World.setCell]
  have bel : Below w.heap.size w w9 := by
    rw [hw9]
    have hz := L2.out.size
    have hn : ∀ (g : Nat), some (w.heap.size + 1) = some g → w.heap.size ≤ g := fun g e => by have := Option.some.inj e; omega
    have hn2 : ∀ (g : Nat), some (w.heap.size + 1 + 1) = some g → w.heap.size ≤ g := fun g e => by have := Option.some.inj e; omega
    have q1 := Below.grown L2.out (grown_set w5 (w.heap.size + 1 + 1) 4 (.slice z3 G.length y3)) hz hn2
    have q2 := Below.grown q1 (grown_set _ (w.heap.size + 1) 0 (.bool E)) q1.size hn
    have q3 := Below.grown q2 (grown_set _ (w.heap.size + 1) 1 (.slice z0 S.length y0)) q2.size hn
    have q4 := Below.grown q3 (grown_set _ (w.heap.size + 1) 2 (.slice z1 F.length y1)) q3.size hn
    have q5 := Below.grown q4 (grown_set _ (w.heap.size + 1) 3 (.slice z2 L.length y2)) q4.size hn
    have q6 := Below.grown q5 (grown_set _ (w.heap.size + 1) 4 (.slice z3 G.length y3)) q5.size hn
    exact q6
  rw [← hw9]
  have r0 : w9.cell? ⟨w.heap.size + 1, 0, none⟩ = some (.bool E) := cell_of hb9 0
  have r1 : w9.cell? ⟨w.heap.size + 1, 1, none⟩ = some (.slice z0 S.length y0) := cell_of hb9 1
  have r2 : w9.cell? ⟨w.heap.size + 1, 2, none⟩ = some (.slice z1 F.length y1) := cell_of hb9 2
  have r3 : w9.cell? ⟨w.heap.size + 1, 3, none⟩ = some (.slice z2 L.length y2) := cell_of hb9 3
  have r4 : w9.cell? ⟨w.heap.size + 1, 4, none⟩ = some (.slice z3 G.length y3) := cell_of hb9 4
  have om : OwnM w9 w.heap.size w9.heap.size w2.heap.size w3.heap.size w4.heap.size (.slice z0 S.length y0) (.slice z1 F.length y1) (.slice z2 L.length y2) (.slice z3 G.length y3) QS QG S.length (rw_ S) F L G.length (rw_ G) :=
    ⟨(owQ (by omega) Q0.out).lower (by omega), ow (by omega) Q1.out, ow (by omega) Q2.out, by rw [hs9]; exact owQ (by omega) Q3.out, T1.out, T2.out, by omega, by omega, by omega, by rw [hs9]; omega⟩
  exact bodyPost_ret (v := .agg #[.bool E, .slice z0 S.length y0, .slice z1 F.length y1, .slice z2 L.length y2, .slice z3 G.length y3]) (by simp [results, Try.results38, go_sem, r0, r1, r2, r3, r4]) rfl
    ⟨_, _, _, _, _, _, _, _, _, _, _, _, _, rfl, om, bel⟩
end Go.Proofs.Ytlkcdcdgpklpoaa
