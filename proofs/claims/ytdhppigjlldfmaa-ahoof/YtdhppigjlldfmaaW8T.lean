/-
  A machine of words in memory of its own; the laws' copy of one.
-/
import Derived.Test.YtdhppigjlldfmaaW8S
namespace Go.Proofs.Ytdhppigjlldfmaa
open Go.ChangeShapes Go.WideShapes Go.ChangeAt Go.WideMaps Go.WideElems Go.RowKit
/-- Two values that lie apart. -/
def aprt (v u : Value) : Prop := v.ownBlock = none ∨ v.ownBlock ≠ u.ownBlock
theorem aprt_lt {v u : Value} {b : Nat} (h : ∀ g, v.ownBlock = some g → g < b) (k : ∀ g, u.ownBlock = some g → b ≤ g) : aprt v u := by
  cases hv : v.ownBlock with
  | none => exact .inl hv
  | some g =>
    refine .inr fun e => ?_
    have h1 := h g hv
    have h2 := k g (e.symm.trans hv)
    omega
/-- A machine of words in memory of its own. -/
def OwnA (w : World) (base : Nat) (v0 v1 v2 v3 : Value) (P B F : List Int) (n : Nat) (f : Nat → List Int) : Prop :=
  (w.ownsRow base 3 1 v0 P.length (ints P) ∧ w.ownsRow base 3 1 v1 B.length (ints B) ∧ w.ownsRow base 3 1 v2 F.length (ints F)) ∧ (aprt v0 v1 ∧ aprt v0 v2 ∧ aprt v1 v2) ∧ ∃ Q : List Value, Q.length = n ∧ w.ownsRow base 26 1 v3 n Q ∧ (∀ j, j < n → w.ownsRow base 3 1 (vd Q j) (f j).length (ints (f j))) ∧
    (∀ i j, i < n → j < n → i ≠ j → (vd Q i).ownBlock = none ∨ (vd Q i).ownBlock ≠ (vd Q j).ownBlock) ∧ ∀ j, j < n → aprt v0 (vd Q j) ∧ aprt v1 (vd Q j) ∧ aprt v2 (vd Q j)
theorem OwnA.rows {w : World} {base : Nat} {v0 v1 v2 v3 : Value} {P B F : List Int} {n : Nat} {f : Nat → List Int} (h : OwnA w base v0 v1 v2 v3 P B F n f) : OwnR w base v3 n n f := by
  obtain ⟨-, -, Q, h1, h2, h3, h4, -⟩ := h
  exact ⟨Q, h1, h2, h3, h4⟩
theorem OwnA.mk {w : World} {base b0 b1 b2 b3 : Nat} {v0 v1 v2 v3 : Value} {P B F : List Int} {n : Nat} {f : Nat → List Int} (h0 : w.ownsRow b0 3 1 v0 P.length (ints P)) (t0 : ∀ g, v0.ownBlock = some g → g < b1) (h1 : w.ownsRow b1 3 1 v1 B.length (ints B)) (t1 : ∀ g, v1.ownBlock = some g → g < b2) (h2 : w.ownsRow b2 3 1 v2 F.length (ints F)) (t2 : ∀ g, v2.ownBlock = some g → g < b3) (h3 : OwnR w b3 v3 n n f) (e0 : base ≤ b0) (e1 : b0 ≤ b1) (e2 : b1 ≤ b2) (e3 : b2 ≤ b3) : OwnA w base v0 v1 v2 v3 P B F n f := by
  obtain ⟨Q, q1, q2, q3, q4⟩ := h3
  have l1 : ∀ g, v1.ownBlock = some g → b1 ≤ g := fun g e => (World.ownsRow.lt h1 g e).1
  have l2 : ∀ g, v2.ownBlock = some g → b2 ≤ g := fun g e => (World.ownsRow.lt h2 g e).1
  refine ⟨⟨own_mono h0 e0, own_mono h1 (by omega), own_mono h2 (by omega)⟩, ⟨aprt_lt t0 l1, aprt_lt t0 (fun g e => by have := l2 g e; omega), aprt_lt t1 l2⟩, Q, q1, own_mono q2 (by omega), fun j hj => own_mono (q3 j hj) (by omega), q4, fun j hj => ?_⟩
  have l3 : ∀ g, (vd Q j).ownBlock = some g → b3 ≤ g := fun g e => (World.ownsRow.lt (q3 j hj) g e).1
  exact ⟨aprt_lt t0 (fun g e => by have := l3 g e; omega), aprt_lt t1 (fun g e => by have := l3 g e; omega), aprt_lt t2 l3⟩
theorem OwnA.keepB {w w' : World} {base : Nat} {v0 v1 v2 v3 : Value} {P B F : List Int} {n : Nat} {f : Nat → List Int} (h : OwnA w base v0 v1 v2 v3 P B F n f) (hb : Below w.heap.size w w') : OwnA w' base v0 v1 v2 v3 P B F n f := by
  obtain ⟨⟨h0, h1, h2⟩, hp, Q, q1, q2, q3, q4, q5⟩ := h
  exact ⟨⟨World.ownsRow.keepB h0 hb, World.ownsRow.keepB h1 hb, World.ownsRow.keepB h2 hb⟩, hp, Q, q1, World.ownsRow.keepB q2 hb, fun j hj => World.ownsRow.keepB (q3 j hj) hb, q4, q5⟩
theorem OwnA.mono {w : World} {base base' : Nat} {v0 v1 v2 v3 : Value} {P B F : List Int} {n : Nat} {f : Nat → List Int} (h : OwnA w base v0 v1 v2 v3 P B F n f) (hb : base' ≤ base) : OwnA w base' v0 v1 v2 v3 P B F n f := by
  obtain ⟨⟨h0, h1, h2⟩, hp, Q, q1, q2, q3, q4, q5⟩ := h
  exact ⟨⟨own_mono h0 hb, own_mono h1 hb, own_mono h2 hb⟩, hp, Q, q1, own_mono q2 hb, fun j hj => own_mono (q3 j hj) hb, q4, q5⟩
/-- .. where it lies. -/
theorem OwnA.form {w : World} {base : Nat} {v0 v1 v2 v3 : Value} {P B F : List Int} {R : Rw} (h : OwnA w base v0 v1 v2 v3 P B F R.length (rw_ R)) :
    ∃ a b c e ca cb cc ce, v0 = .slice a P.length ca ∧ v1 = .slice b B.length cb ∧ v2 = .slice c F.length cc ∧ v3 = .slice e R.length ce ∧ IntsAt w a P ∧ IntsAt w b B ∧ IntsAt w c F ∧ RowsAt w e R := by
  obtain ⟨e, ce, e3, i3⟩ := OwnR.rows h.rows
  obtain ⟨-, a, ca, e0, i0⟩ := ints_of_own h.1.1
  obtain ⟨-, b, cb, e1, i1⟩ := ints_of_own h.1.2.1
  obtain ⟨-, c, cc, e2, i2⟩ := ints_of_own h.1.2.2
  exact ⟨a, b, c, e, ca, cb, cc, ce, e0, e1, e2, e3, i0, i1, i2, i3⟩
set_option maxRecDepth 100000 in
set_option maxHeartbeats 4000000 in
theorem toAho_any (P B F : List Int) (R : Rw) (a b c e : Option Addr) (ca cb cc ce : Nat) (w : World) (hl : szA P B F R ≤ 1048576) (hA : IntsAt w a P) (hB : IntsAt w b B) (hC : IntsAt w c F) (hE : RowsAt w e R) :
    Calls Try.prog 29 #[.agg #[.slice a P.length ca, .slice b B.length cb, .slice c F.length cc, .slice e R.length ce]] w fun r w' => ∃ v0 v1 v2 v3, r = .returned (.agg #[v0, v1, v2, v3]) ∧ OwnA w' w.heap.size v0 v1 v2 v3 P B F R.length (rw_ R) ∧ Below w.heap.size w w' := by
  have H0 : Hid _ := hA
  have H1 : Hid _ := hB
  have H2 : Hid _ := hC
  have H3 : Hid _ := hE
  have hl0 : P.length ≤ 1048576 := by unfold szA at hl; omega
  have hl1 : B.length ≤ 1048576 := by unfold szA at hl; omega
  have hl2 : F.length ≤ 1048576 := by unfold szA at hl; omega
  have hl3 : Hid (szR R ≤ 1048576) := by unfold szA at hl; exact (by omega : szR R ≤ 1048576)
  clear hA hB hC hE hl
  go_enter Try.func29, Try.ntmps29
  go_wp2_with fail
  have A3 : ∀ o p q, Below w.heap.size w (((w.alloc o).alloc p).alloc q) := fun o p q => (((Below.refl _ _).alloc (Nat.le_refl _) o).alloc (by simp) p).alloc (by simp; omega) q
  refine (toI_any P a ca _ hl0 (IntsAt.keepB H0.out (A3 _ _ _))).mono ?_
  rintro r w2 ⟨v0, rfl, o0, b2⟩
  have hs2 : w.heap.size + 1 + 1 < w2.heap.size := Nat.lt_of_lt_of_le (by simp) b2.size
  have hb0 : w2.heap[w.heap.size]? = some (.cells #[.slice a P.length ca, .slice b B.length cb, .slice c F.length cc, .slice e R.length ce] 52) := (b2.block w.heap.size (by simp; omega)).trans ((heap_prev _ _ _ (by simp; omega)).trans ((heap_prev _ _ _ (by simp)).trans (heap_last2 _ _ _ rfl)))
  have hb1 : w2.heap[w.heap.size + 1]? = some (.cells #[.slice none 0 0, .slice none 0 0, .slice none 0 0, .slice none 0 0] 28) := (b2.block (w.heap.size + 1) (by simp)).trans ((heap_prev _ _ _ (by simp)).trans (heap_last2 _ _ _ (by simp)))
  have hb2 : w2.heap[w.heap.size + 1 + 1]? = some (.cells #[.slice none 0 0, .slice none 0 0, .slice none 0 0, .slice none 0 0] 28) := (b2.block (w.heap.size + 1 + 1) (by simp)).trans (heap_last2 _ _ _ (by simp))
  have Q0 : Hid (w2.ownsRow (w.heap.size + 1 + 1 + 1) 3 1 v0 P.length (ints P)) := own_mono o0 (by simp)
  have L2 : Hid (Below w.heap.size w w2) := (A3 _ _ _).trans (b2.mono (A3 _ _ _).size)
  obtain ⟨-, va, vca, rfl, -⟩ := ints_of_own o0
  have T0 : Hid (∀ g, (Value.slice va P.length vca).ownBlock = some g → g < w2.heap.size) := fun g e => (World.ownsRow.lt Q0.out g e).2
  clear b2 o0 A3
  have c20 : w2.cell? ⟨w.heap.size + 1 + 1, 0, none⟩ = some (.slice none 0 0) := cell_of hb2 0
  have f20 : w2.frozen? ⟨w.heap.size + 1 + 1, 0, none⟩ = false := frozen_of_row w2 _ _ _ _ hb2
  have kb0 := (blk_oth w2 (w.heap.size + 1 + 1) 0 w.heap.size (.slice va P.length vca) (by omega)).trans hb0
  have kb1 := (blk_oth w2 (w.heap.size + 1 + 1) 0 (w.heap.size + 1) (.slice va P.length vca) (by omega)).trans hb1
  have kb2 : (w2.setCell ⟨w.heap.size + 1 + 1, 0, none⟩ (.slice va P.length vca)).heap[w.heap.size + 1 + 1]? = some (.cells #[.slice va P.length vca, .slice none 0 0, .slice none 0 0, .slice none 0 0] 28) := blk_same hb2 0 _
  have c01 : (w2.setCell ⟨w.heap.size + 1 + 1, 0, none⟩ (.slice va P.length vca)).cell? ⟨w.heap.size, 1, none⟩ = some (.slice b B.length cb) := cell_of kb0 1
  have P0 : Hid _ := own_set Q0.out (show w.heap.size + 1 + 1 < _ by omega) 0 (.slice va P.length vca)
  have hsz2 : (w2.setCell ⟨w.heap.size + 1 + 1, 0, none⟩ (.slice va P.length vca)).heap.size = w2.heap.size := by simp [World.setCell]
  have K2 : Hid (Below w.heap.size w (w2.setCell ⟨w.heap.size + 1 + 1, 0, none⟩ (.slice va P.length vca))) := Below.grown L2.out (grown_set w2 _ _ _) L2.out.size (fun g e => by have := Option.some.inj e; omega)
  clear hb0 hb1 hb2 L2 Q0
  go_wp2_with fail
  refine (toI_any B b cb _ hl1 (IntsAt.keepB H1.out K2.out)).mono ?_
  rintro r w3 ⟨v1, rfl, o1, b3⟩
  have hs3 : w2.heap.size ≤ w3.heap.size := by have := b3.size; omega
  have hb0 := (b3.block (w.heap.size) (by omega)).trans kb0
  have hb1 := (b3.block (w.heap.size + 1) (by omega)).trans kb1
  have hb2 := (b3.block (w.heap.size + 1 + 1) (by omega)).trans kb2
  have Q0 : Hid _ := World.ownsRow.keepB P0.out b3
  have Q1 : Hid (w3.ownsRow w2.heap.size 3 1 v1 B.length (ints B)) := by rw [← hsz2]; exact o1
  have L3 : Hid (Below w.heap.size w w3) := K2.out.trans (b3.mono K2.out.size)
  obtain ⟨-, vb, vcb, rfl, -⟩ := ints_of_own o1
  have T1 : Hid (∀ g, (Value.slice vb B.length vcb).ownBlock = some g → g < w3.heap.size) := fun g e => (World.ownsRow.lt Q1.out g e).2
  clear b3 o1 kb0 kb1 kb2 c20 f20 c01 K2 hsz2 P0
  have c21 : w3.cell? ⟨w.heap.size + 1 + 1, 1, none⟩ = some (.slice none 0 0) := cell_of hb2 1
  have f21 : w3.frozen? ⟨w.heap.size + 1 + 1, 1, none⟩ = false := frozen_of_row w3 _ _ _ _ hb2
  have kb0 := (blk_oth w3 (w.heap.size + 1 + 1) 1 w.heap.size (.slice vb B.length vcb) (by omega)).trans hb0
  have kb1 := (blk_oth w3 (w.heap.size + 1 + 1) 1 (w.heap.size + 1) (.slice vb B.length vcb) (by omega)).trans hb1
  have kb2 : (w3.setCell ⟨w.heap.size + 1 + 1, 1, none⟩ (.slice vb B.length vcb)).heap[w.heap.size + 1 + 1]? = some (.cells #[.slice va P.length vca, .slice vb B.length vcb, .slice none 0 0, .slice none 0 0] 28) := blk_same hb2 1 _
  have c02 : (w3.setCell ⟨w.heap.size + 1 + 1, 1, none⟩ (.slice vb B.length vcb)).cell? ⟨w.heap.size, 2, none⟩ = some (.slice c F.length cc) := cell_of kb0 2
  have P0 : Hid _ := own_set Q0.out (show w.heap.size + 1 + 1 < _ by omega) 1 (.slice vb B.length vcb)
  have P1 : Hid _ := own_set Q1.out (show w.heap.size + 1 + 1 < _ by omega) 1 (.slice vb B.length vcb)
  have hsz3 : (w3.setCell ⟨w.heap.size + 1 + 1, 1, none⟩ (.slice vb B.length vcb)).heap.size = w3.heap.size := by simp [World.setCell]
  have K3 : Hid (Below w.heap.size w (w3.setCell ⟨w.heap.size + 1 + 1, 1, none⟩ (.slice vb B.length vcb))) := Below.grown L3.out (grown_set w3 _ _ _) L3.out.size (fun g e => by have := Option.some.inj e; omega)
  clear hb0 hb1 hb2 L3 Q0 Q1
  go_wp2_with fail
  refine (toI_any F c cc _ hl2 (IntsAt.keepB H2.out K3.out)).mono ?_
  rintro r w4 ⟨v2, rfl, o2, b4⟩
  have hs4 : w3.heap.size ≤ w4.heap.size := by have := b4.size; omega
  have hb0 := (b4.block (w.heap.size) (by omega)).trans kb0
  have hb1 := (b4.block (w.heap.size + 1) (by omega)).trans kb1
  have hb2 := (b4.block (w.heap.size + 1 + 1) (by omega)).trans kb2
  have Q0 : Hid _ := World.ownsRow.keepB P0.out b4
  have Q1 : Hid _ := World.ownsRow.keepB P1.out b4
  have Q2 : Hid (w4.ownsRow w3.heap.size 3 1 v2 F.length (ints F)) := by rw [← hsz3]; exact o2
  have L4 : Hid (Below w.heap.size w w4) := K3.out.trans (b4.mono K3.out.size)
  obtain ⟨-, vc, vcc, rfl, -⟩ := ints_of_own o2
  have T2 : Hid (∀ g, (Value.slice vc F.length vcc).ownBlock = some g → g < w4.heap.size) := fun g e => (World.ownsRow.lt Q2.out g e).2
  clear b4 o2 kb0 kb1 kb2 c21 f21 c02 K3 hsz3 P0 P1
  have c22 : w4.cell? ⟨w.heap.size + 1 + 1, 2, none⟩ = some (.slice none 0 0) := cell_of hb2 2
  have f22 : w4.frozen? ⟨w.heap.size + 1 + 1, 2, none⟩ = false := frozen_of_row w4 _ _ _ _ hb2
  have kb0 := (blk_oth w4 (w.heap.size + 1 + 1) 2 w.heap.size (.slice vc F.length vcc) (by omega)).trans hb0
  have kb1 := (blk_oth w4 (w.heap.size + 1 + 1) 2 (w.heap.size + 1) (.slice vc F.length vcc) (by omega)).trans hb1
  have kb2 : (w4.setCell ⟨w.heap.size + 1 + 1, 2, none⟩ (.slice vc F.length vcc)).heap[w.heap.size + 1 + 1]? = some (.cells #[.slice va P.length vca, .slice vb B.length vcb, .slice vc F.length vcc, .slice none 0 0] 28) := blk_same hb2 2 _
  have c03 : (w4.setCell ⟨w.heap.size + 1 + 1, 2, none⟩ (.slice vc F.length vcc)).cell? ⟨w.heap.size, 3, none⟩ = some (.slice e R.length ce) := cell_of kb0 3
  have P0 : Hid _ := own_set Q0.out (show w.heap.size + 1 + 1 < _ by omega) 2 (.slice vc F.length vcc)
  have P1 : Hid _ := own_set Q1.out (show w.heap.size + 1 + 1 < _ by omega) 2 (.slice vc F.length vcc)
  have P2 : Hid _ := own_set Q2.out (show w.heap.size + 1 + 1 < _ by omega) 2 (.slice vc F.length vcc)
  have hsz4 : (w4.setCell ⟨w.heap.size + 1 + 1, 2, none⟩ (.slice vc F.length vcc)).heap.size = w4.heap.size := by simp [World.setCell]
  have K4 : Hid (Below w.heap.size w (w4.setCell ⟨w.heap.size + 1 + 1, 2, none⟩ (.slice vc F.length vcc))) := Below.grown L4.out (grown_set w4 _ _ _) L4.out.size (fun g e => by have := Option.some.inj e; omega)
  clear hb0 hb1 hb2 L4 Q0 Q1 Q2
  go_wp2_with fail
  refine (toIntSS_any R e ce _ hl3.out (RowsAt.keepB H3.out K4.out)).mono ?_
  rintro r w5 ⟨v3, rfl, o3, b5⟩
  have hs5 : w4.heap.size ≤ w5.heap.size := by have := b5.size; omega
  have hb0 := (b5.block (w.heap.size) (by omega)).trans kb0
  have hb1 := (b5.block (w.heap.size + 1) (by omega)).trans kb1
  have hb2 := (b5.block (w.heap.size + 1 + 1) (by omega)).trans kb2
  have Q0 : Hid _ := World.ownsRow.keepB P0.out b5
  have Q1 : Hid _ := World.ownsRow.keepB P1.out b5
  have Q2 : Hid _ := World.ownsRow.keepB P2.out b5
  have Q3 : Hid (OwnR w5 w4.heap.size v3 R.length R.length (rw_ R)) := by rw [← hsz4]; exact o3
  have L5 : Hid (Below w.heap.size w w5) := K4.out.trans (b5.mono K4.out.size)
  obtain ⟨ve, vce, rfl, -⟩ := OwnR.rows o3
  clear b5 o3 kb0 kb1 kb2 c22 f22 c03 K4 hsz4 P0 P1 P2
  have c23 : w5.cell? ⟨w.heap.size + 1 + 1, 3, none⟩ = some (.slice none 0 0) := cell_of hb2 3
  have f23 : w5.frozen? ⟨w.heap.size + 1 + 1, 3, none⟩ = false := frozen_of_row w5 _ _ _ _ hb2
  have g0 : w5.cell? ⟨w.heap.size + 1 + 1, 0, none⟩ = some (.slice va P.length vca) := cell_of hb2 0
  have g1 : w5.cell? ⟨w.heap.size + 1 + 1, 1, none⟩ = some (.slice vb B.length vcb) := cell_of hb2 1
  have g2 : w5.cell? ⟨w.heap.size + 1 + 1, 2, none⟩ = some (.slice vc F.length vcc) := cell_of hb2 2
  have d0 : w5.cell? ⟨w.heap.size + 1, 0, none⟩ = some (.slice none 0 0) := cell_of hb1 0
  have z0 : w5.frozen? ⟨w.heap.size + 1, 0, none⟩ = false := frozen_of_row w5 _ _ _ _ hb1
  have d1 : w5.cell? ⟨w.heap.size + 1, 1, none⟩ = some (.slice none 0 0) := cell_of hb1 1
  have z1 : w5.frozen? ⟨w.heap.size + 1, 1, none⟩ = false := frozen_of_row w5 _ _ _ _ hb1
  have d2 : w5.cell? ⟨w.heap.size + 1, 2, none⟩ = some (.slice none 0 0) := cell_of hb1 2
  have z2 : w5.frozen? ⟨w.heap.size + 1, 2, none⟩ = false := frozen_of_row w5 _ _ _ _ hb1
  have d3 : w5.cell? ⟨w.heap.size + 1, 3, none⟩ = some (.slice none 0 0) := cell_of hb1 3
  have z3 : w5.frozen? ⟨w.heap.size + 1, 3, none⟩ = false := frozen_of_row w5 _ _ _ _ hb1
  have HB1 : Hid _ := hb1
  clear hb0 hb1 hb2
  go_wp2
  obtain ⟨w9, hw9⟩ : ∃ w9, w9 = (((((w5.setCell ⟨w.heap.size + 1 + 1, 3, none⟩ (.slice ve R.length vce)).setCell ⟨w.heap.size + 1, 0, none⟩ (.slice va P.length vca)).setCell ⟨w.heap.size + 1, 1, none⟩ (.slice vb B.length vcb)).setCell ⟨w.heap.size + 1, 2, none⟩ (.slice vc F.length vcc)).setCell ⟨w.heap.size + 1, 3, none⟩ (.slice ve R.length vce)) := ⟨_, rfl⟩
  have hb9 : w9.heap[w.heap.size + 1]? = some (.cells #[.slice va P.length vca, .slice vb B.length vcb, .slice vc F.length vcc, .slice ve R.length vce] 28) := by
    rw [hw9]
    exact blk_same (blk_same (blk_same (blk_same ((blk_oth w5 (w.heap.size + 1 + 1) 3 (w.heap.size + 1) (.slice ve R.length vce) (by omega)).trans HB1.out) 0 _) 1 _) 2 _) 3 _
  have ow : ∀ {t : TypeId} {v : Value} {n bs : Nat} {xs : List Value}, w.heap.size + 1 + 1 < bs → w5.ownsRow bs t 1 v n xs → w9.ownsRow bs t 1 v n xs := fun hbs ho => by
    rw [hw9]
    exact own_set (own_set (own_set (own_set (own_set ho (by omega) _ _) (by omega) _ _) (by omega) _ _) (by omega) _ _) (by omega) _ _
  have q3 : OwnR w9 w4.heap.size (.slice ve R.length vce) R.length R.length (rw_ R) := by
    obtain ⟨Q, y1, y2, y3, y4⟩ := Q3.out
    exact ⟨Q, y1, ow (by omega) y2, fun j hj => ow (by omega) (y3 j hj), y4⟩
  have bel : Below w.heap.size w w9 := by
    rw [hw9]
    have hz := L5.out.size
    have hn : ∀ (g : Nat), some (w.heap.size + 1) = some g → w.heap.size ≤ g := fun g e => by have := Option.some.inj e; omega
    have hn2 : ∀ (g : Nat), some (w.heap.size + 1 + 1) = some g → w.heap.size ≤ g := fun g e => by have := Option.some.inj e; omega
    have q1 := Below.grown L5.out (grown_set w5 (w.heap.size + 1 + 1) 3 (.slice ve R.length vce)) hz hn2
    have q2 := Below.grown q1 (grown_set _ (w.heap.size + 1) 0 (.slice va P.length vca)) q1.size hn
    have q3 := Below.grown q2 (grown_set _ (w.heap.size + 1) 1 (.slice vb B.length vcb)) q2.size hn
    have q4 := Below.grown q3 (grown_set _ (w.heap.size + 1) 2 (.slice vc F.length vcc)) q3.size hn
    have q5 := Below.grown q4 (grown_set _ (w.heap.size + 1) 3 (.slice ve R.length vce)) q4.size hn
    exact q5
  rw [← hw9]
  have r0 : w9.cell? ⟨w.heap.size + 1, 0, none⟩ = some (.slice va P.length vca) := cell_of hb9 0
  have r1 : w9.cell? ⟨w.heap.size + 1, 1, none⟩ = some (.slice vb B.length vcb) := cell_of hb9 1
  have r2 : w9.cell? ⟨w.heap.size + 1, 2, none⟩ = some (.slice vc F.length vcc) := cell_of hb9 2
  have r3 : w9.cell? ⟨w.heap.size + 1, 3, none⟩ = some (.slice ve R.length vce) := cell_of hb9 3
  exact bodyPost_ret (v := .agg #[.slice va P.length vca, .slice vb B.length vcb, .slice vc F.length vcc, .slice ve R.length vce]) (by simp [results, Try.results29, go_sem, r0, r1, r2, r3]) rfl
    ⟨_, _, _, _, rfl, OwnA.mk (ow (by omega) Q0.out) T0.out (ow (by omega) Q1.out) T1.out (ow (by omega) Q2.out) T2.out q3 (by omega) (by omega) (by omega) (by omega), bel⟩
end Go.Proofs.Ytdhppigjlldfmaa
