/-
  The program's reading of a node, over a pile of trees.
-/
import Derived.Test.YtendikiflikobaaT5B
import Derived.Test.YtendikiflikobaaR5B
namespace Go.Proofs.Ytendikiflikobaa
open Go.ChangeShapes Go.WideShapes Go.ChangeAt Go.RowKit
theorem nodeBT_plain {op : Int} {s : List Int} (h : 0 ≤ arity op) (h2 : op ≠ 2) : nodeB (op, s) = s.isEmpty := by
  cases s with
  | nil => exact nodeB_of_empty h
  | cons x r => simp [nodeB, h2]
/-- What nodeOf answers at a pile of trees. -/
def NodeT (x : Nd) (pb : Nat) (ts : List Tr) (w w' : World) (e : Ending) : Prop :=
  (∃ t r, stepT x ts = some (t :: r) ∧ ∃ y U, e = .returned (.tuple #[.pointer (some ⟨y, 0, none⟩), .bool true]) ∧ PileT w' pb U r ∧ TreeAt pb w'.heap.size w' (some t) (some ⟨y, 0, none⟩) ∧ w.grownBy w' (some pb)) ∨
  (stepT x ts = none ∧ ∃ p, e = .returned (.tuple #[p, .bool false]) ∧ w.grownBy w' (some pb))
theorem grown_of_belowT {w w' : World} (hb : Below w.heap.size w w') (row : Option Nat) : w.grownBy w' row := ⟨hb.os, hb.tape, hb.output, hb.size, fun k hk _ => hb.block k hk⟩
theorem grown_transT {a b c : World} {row : Option Nat} (h : a.grownBy b row) (k : b.grownBy c row) : a.grownBy c row :=
  ⟨k.os.trans h.os, k.tape.trans h.tape, k.output.trans h.output, Nat.le_trans h.size k.size, fun i hi hn => (k.block i (Nat.lt_of_lt_of_le hi h.size) hn).trans (h.block i hi hn)⟩
/-- A block that is new has turned. -/
theorem grown_freshT {a b : World} {row : Option Nat} (h : a.grownBy b row) (R o : Nat) (u : Value) (hR : a.heap.size ≤ R) : a.grownBy (b.setCell ⟨R, o, none⟩ u) row :=
  ⟨h.os, h.tape, h.output, Nat.le_trans h.size (grown_set b R o u).size, fun i hi hn => ((grown_set b R o u).block i (Nat.lt_of_lt_of_le hi h.size) (fun e => by have := Option.some.inj e; omega)).trans (h.block i hi hn)⟩
theorem grown_drewT {a b : World} {row : Option Nat} (h : a.grownBy b row) (n : Nat) : a.grownBy (b.drewN n) row := grown_transT h (grown_of_belowT (below_drewN (Below.refl _ _) _) row)
theorem TreeAt.drewN {B U : Nat} {w : World} {t : Option Tr} {p : Option Addr} (h : TreeAt B U w t p) (n : Nat) : TreeAt B U (w.drewN n) t p := h.keepB (below_drewN (Below.refl _ _) _)
theorem heap_drewN (w : World) (n i : Nat) (h : i < w.heap.size) : (w.drewN n).heap[i]? = w.heap[i]? := (below_drewN (Below.refl w.heap.size w) n).block i h
theorem lt_of_heap {w : World} {i : Nat} {o : Obj} (h : w.heap[i]? = some o) : i < w.heap.size := (Array.getElem?_eq_some_iff.1 h).1
section
variable (op : Int) (s : List Int) (sa : Option Addr) (sc pb U : Nat) (ts : List Tr) (w : World)
set_option maxRecDepth 100000 in
set_option maxHeartbeats 4000000 in
theorem nodeT_two (hop : op = 3 ∨ op = 4 ∨ op = 5) (hn : ts.length ≤ 1000) (hP : PileT w pb U ts) :
    Calls Try.prog 85 #[.pointer (some ⟨pb, 0, none⟩), .agg #[.int .i64 op, .slice sa s.length sc]] w fun e w' => NodeT (op, s) pb ts w w' e := by
  have HP : Hid _ := hP
  have A2 : ∀ o p, Below w.heap.size w ((w.alloc o).alloc p) := fun o p => ((Below.refl _ _).alloc (Nat.le_refl _) o).alloc (by simp) p
  have har : arity op = 2 := by rcases hop with rfl | rfl | rfl <;> rfl
  have HAR : Hid _ := har
  have HNB : Hid (nodeB (op, s) = s.isEmpty) := nodeBT_plain (by omega) (by omega)
  have hpw : pb < w.heap.size := Nat.lt_of_lt_of_le hP.lt hP.le
  have hUw : U ≤ w.heap.size := hP.le
  have ne0 : ¬ w.heap.size = pb := by omega
  have ne1 : ¬ w.heap.size + 1 = pb := by omega
  have L2 : ∀ o p, ((w.alloc o).alloc p).heap.size = w.heap.size + 2 := fun o p => by simp
  have K0 : ∀ o p, ((w.alloc o).alloc p).heap[w.heap.size]? = some o := fun o p => (heap_prev _ _ _ (by simp)).trans (heap_last2 _ _ _ rfl)
  have K1 : ∀ o p, ((w.alloc o).alloc p).heap[w.heap.size + 1]? = some p := fun o p => heap_last2 _ _ _ (by simp)
  clear hP har
  rcases ts with _ | ⟨t1, _ | ⟨t2, r⟩⟩
  · rcases hop with rfl | rfl | rfl
    · go_enter Try.func85, Try.ntmps85
      go_wp2_with fail
      refine (takeT_none pb U _ (HP.out.below (A2 _ _))).mono ?_
      rintro e w1 ⟨rfl, rfl⟩
      go_wp2_with fail
      refine (takeT_none pb U _ (HP.out.below (A2 _ _))).mono ?_
      rintro e w1 ⟨rfl, rfl⟩

      go_wp2
      go_quiet (fail)
      go_wp2
      go_ret2
      exact .inr ⟨step2_no HAR.out _, _, rfl, grown_drewT (grown_of_belowT (A2 _ _) _) _⟩
    · go_enter Try.func85, Try.ntmps85
      go_wp2_with fail
      refine (takeT_none pb U _ (HP.out.below (A2 _ _))).mono ?_
      rintro e w1 ⟨rfl, rfl⟩
      go_wp2_with fail
      refine (takeT_none pb U _ (HP.out.below (A2 _ _))).mono ?_
      rintro e w1 ⟨rfl, rfl⟩

      go_wp2
      go_quiet (fail)
      go_wp2
      go_ret2
      exact .inr ⟨step2_no HAR.out _, _, rfl, grown_drewT (grown_of_belowT (A2 _ _) _) _⟩
    · go_enter Try.func85, Try.ntmps85
      go_wp2_with fail
      refine (takeT_none pb U _ (HP.out.below (A2 _ _))).mono ?_
      rintro e w1 ⟨rfl, rfl⟩
      go_wp2_with fail
      refine (takeT_none pb U _ (HP.out.below (A2 _ _))).mono ?_
      rintro e w1 ⟨rfl, rfl⟩

      go_wp2
      go_quiet (fail)
      go_wp2
      go_ret2
      exact .inr ⟨step2_no HAR.out _, _, rfl, grown_drewT (grown_of_belowT (A2 _ _) _) _⟩
  · rcases hop with rfl | rfl | rfl
    · go_enter Try.func85, Try.ntmps85
      go_wp2_with fail
      refine (takeT_some pb U t1 [] _ (by simp) (HP.out.below (A2 _ _))).mono ?_
      rintro e w1 ⟨x1, rfl, p1, q1, g1⟩
      have P1 : Hid _ := p1
      have Q1 : Hid _ := q1
      have hs1 : w.heap.size + 2 ≤ w1.heap.size := by have := g1.size; rw [L2] at this; exact this
      have G1 : Hid (w.grownBy w1 (some pb)) := grown_transT (grown_of_belowT (A2 _ _) _) g1
      have c01 : w1.cell? ⟨w.heap.size, 1, none⟩ = some (.slice sa s.length sc) := (cell_kept g1 (by rw [L2]; omega) ne0 1).trans (cell_of (K0 _ _) 1)
      have N1 : Hid (w1.heap[w.heap.size + 1]? = some (.cells #[.int .i64 3, .slice sa s.length sc, .pointer none, .pointer none] 108)) := (g1.block _ (by rw [L2]; omega) (fun e => ne1 (Option.some.inj e))).trans (K1 _ _)
      have c12 : w1.cell? ⟨w.heap.size + 1, 2, none⟩ = some (.pointer none) := cell_of N1.out 2
      have c13 : w1.cell? ⟨w.heap.size + 1, 3, none⟩ = some (.pointer none) := cell_of N1.out 3
      have f12 : w1.frozen? ⟨w.heap.size + 1, 2, none⟩ = false := frozen_of_row _ _ _ _ _ N1.out
      have f13 : w1.frozen? ⟨w.heap.size + 1, 3, none⟩ = false := frozen_of_row _ _ _ _ _ N1.out
      clear p1 q1 g1
      go_wp2_with fail
      refine (takeT_none pb U _ (P1.out.set _ _ _ (by omega))).mono ?_
      rintro e w2 ⟨rfl, rfl⟩

      go_wp2
      go_quiet (fail)
      go_wp2
      go_ret2
      exact .inr ⟨step2_no1 HAR.out _ _, _, rfl, grown_drewT (grown_freshT (grown_freshT G1.out _ _ _ (by omega)) _ _ _ (by omega)) _⟩
    · go_enter Try.func85, Try.ntmps85
      go_wp2_with fail
      refine (takeT_some pb U t1 [] _ (by simp) (HP.out.below (A2 _ _))).mono ?_
      rintro e w1 ⟨x1, rfl, p1, q1, g1⟩
      have P1 : Hid _ := p1
      have Q1 : Hid _ := q1
      have hs1 : w.heap.size + 2 ≤ w1.heap.size := by have := g1.size; rw [L2] at this; exact this
      have G1 : Hid (w.grownBy w1 (some pb)) := grown_transT (grown_of_belowT (A2 _ _) _) g1
      have c01 : w1.cell? ⟨w.heap.size, 1, none⟩ = some (.slice sa s.length sc) := (cell_kept g1 (by rw [L2]; omega) ne0 1).trans (cell_of (K0 _ _) 1)
      have N1 : Hid (w1.heap[w.heap.size + 1]? = some (.cells #[.int .i64 4, .slice sa s.length sc, .pointer none, .pointer none] 108)) := (g1.block _ (by rw [L2]; omega) (fun e => ne1 (Option.some.inj e))).trans (K1 _ _)
      have c12 : w1.cell? ⟨w.heap.size + 1, 2, none⟩ = some (.pointer none) := cell_of N1.out 2
      have c13 : w1.cell? ⟨w.heap.size + 1, 3, none⟩ = some (.pointer none) := cell_of N1.out 3
      have f12 : w1.frozen? ⟨w.heap.size + 1, 2, none⟩ = false := frozen_of_row _ _ _ _ _ N1.out
      have f13 : w1.frozen? ⟨w.heap.size + 1, 3, none⟩ = false := frozen_of_row _ _ _ _ _ N1.out
      clear p1 q1 g1
      go_wp2_with fail
      refine (takeT_none pb U _ (P1.out.set _ _ _ (by omega))).mono ?_
      rintro e w2 ⟨rfl, rfl⟩

      go_wp2
      go_quiet (fail)
      go_wp2
      go_ret2
      exact .inr ⟨step2_no1 HAR.out _ _, _, rfl, grown_drewT (grown_freshT (grown_freshT G1.out _ _ _ (by omega)) _ _ _ (by omega)) _⟩
    · go_enter Try.func85, Try.ntmps85
      go_wp2_with fail
      refine (takeT_some pb U t1 [] _ (by simp) (HP.out.below (A2 _ _))).mono ?_
      rintro e w1 ⟨x1, rfl, p1, q1, g1⟩
      have P1 : Hid _ := p1
      have Q1 : Hid _ := q1
      have hs1 : w.heap.size + 2 ≤ w1.heap.size := by have := g1.size; rw [L2] at this; exact this
      have G1 : Hid (w.grownBy w1 (some pb)) := grown_transT (grown_of_belowT (A2 _ _) _) g1
      have c01 : w1.cell? ⟨w.heap.size, 1, none⟩ = some (.slice sa s.length sc) := (cell_kept g1 (by rw [L2]; omega) ne0 1).trans (cell_of (K0 _ _) 1)
      have N1 : Hid (w1.heap[w.heap.size + 1]? = some (.cells #[.int .i64 5, .slice sa s.length sc, .pointer none, .pointer none] 108)) := (g1.block _ (by rw [L2]; omega) (fun e => ne1 (Option.some.inj e))).trans (K1 _ _)
      have c12 : w1.cell? ⟨w.heap.size + 1, 2, none⟩ = some (.pointer none) := cell_of N1.out 2
      have c13 : w1.cell? ⟨w.heap.size + 1, 3, none⟩ = some (.pointer none) := cell_of N1.out 3
      have f12 : w1.frozen? ⟨w.heap.size + 1, 2, none⟩ = false := frozen_of_row _ _ _ _ _ N1.out
      have f13 : w1.frozen? ⟨w.heap.size + 1, 3, none⟩ = false := frozen_of_row _ _ _ _ _ N1.out
      clear p1 q1 g1
      go_wp2_with fail
      refine (takeT_none pb U _ (P1.out.set _ _ _ (by omega))).mono ?_
      rintro e w2 ⟨rfl, rfl⟩

      go_wp2
      go_quiet (fail)
      go_wp2
      go_ret2
      exact .inr ⟨step2_no1 HAR.out _ _, _, rfl, grown_drewT (grown_freshT (grown_freshT G1.out _ _ _ (by omega)) _ _ _ (by omega)) _⟩
  · have hn1 : (t2 :: r).length ≤ 1000 := by simp at hn ⊢; omega
    have hn2 : r.length ≤ 1000 := by simp at hn ⊢; omega
    clear hn
    rcases s with _ | ⟨z, s⟩
    · rcases hop with rfl | rfl | rfl
      · go_enter Try.func85, Try.ntmps85
        go_wp2_with fail
        refine (takeT_some pb U t1 (t2 :: r) _ hn1 (HP.out.below (A2 _ _))).mono ?_
        rintro e w1 ⟨x1, rfl, p1, q1, g1⟩
        have P1 : Hid _ := p1
        have Q1 : Hid _ := q1
        have hs1 : w.heap.size + 2 ≤ w1.heap.size := by have := g1.size; rw [L2] at this; exact this
        have G1 : Hid (w.grownBy w1 (some pb)) := grown_transT (grown_of_belowT (A2 _ _) _) g1
        have c01 : w1.cell? ⟨w.heap.size, 1, none⟩ = some (.slice sa 0 sc) := (cell_kept g1 (by rw [L2]; omega) ne0 1).trans (cell_of (K0 _ _) 1)
        have N1 : Hid (w1.heap[w.heap.size + 1]? = some (.cells #[.int .i64 3, .slice sa 0 sc, .pointer none, .pointer none] 108)) := (g1.block _ (by rw [L2]; omega) (fun e => ne1 (Option.some.inj e))).trans (K1 _ _)
        have c12 : w1.cell? ⟨w.heap.size + 1, 2, none⟩ = some (.pointer none) := cell_of N1.out 2
        have c13 : w1.cell? ⟨w.heap.size + 1, 3, none⟩ = some (.pointer none) := cell_of N1.out 3
        have f12 : w1.frozen? ⟨w.heap.size + 1, 2, none⟩ = false := frozen_of_row _ _ _ _ _ N1.out
        have f13 : w1.frozen? ⟨w.heap.size + 1, 3, none⟩ = false := frozen_of_row _ _ _ _ _ N1.out
        clear p1 q1 g1

        go_wp2_with fail
        refine (takeT_some pb U t2 r _ hn2 (P1.out.set _ _ _ (by omega))).mono ?_
        rintro e w2 ⟨x2, rfl, p2, q2, g2⟩
        have P2 : Hid _ := p2
        have Q2 : Hid _ := q2
        have hs2 : w.heap.size + 2 ≤ w2.heap.size := Nat.le_trans hs1 (Nat.le_trans (by simp [World.setCell]) g2.size)
        have G2 : Hid (w.grownBy w2 (some pb)) := grown_transT (grown_freshT G1.out _ _ _ (by omega)) g2
        have lt0 : w.heap.size < (w1.setCell ⟨w.heap.size + 1, 3, none⟩ (.pointer (some ⟨x1, 0, none⟩))).heap.size := by simp [World.setCell]; omega
        have lt1 : w.heap.size + 1 < (w1.setCell ⟨w.heap.size + 1, 3, none⟩ (.pointer (some ⟨x1, 0, none⟩))).heap.size := by simp [World.setCell]; omega
        have d01 : w2.cell? ⟨w.heap.size, 1, none⟩ = some (.slice sa 0 sc) := (cell_kept g2 lt0 ne0 1).trans ((set_other _ _ _ _ _ _ (by omega)).trans c01)
        have N2 : Hid (w2.heap[w.heap.size + 1]? = some (.cells #[.int .i64 3, .slice sa 0 sc, .pointer none, .pointer (some ⟨x1, 0, none⟩)] 108)) := (g2.block _ lt1 (fun e => ne1 (Option.some.inj e))).trans (heap_put N1.out _).1
        have d12 : w2.cell? ⟨w.heap.size + 1, 2, none⟩ = some (.pointer none) := cell_of N2.out 2
        have e12 : w2.frozen? ⟨w.heap.size + 1, 2, none⟩ = false := frozen_of_row _ _ _ _ _ N2.out
        have Q1b : Hid _ := TreeAt.grown g2 (fun g e => .inl (Option.some.inj e).symm) _ _ (TreeAt.grown (grown_set w1 (w.heap.size + 1) 3 (.pointer (some ⟨x1, 0, none⟩))) (fun g e => .inr (by have := Option.some.inj e; omega)) _ _ Q1.out)
        clear p2 q2 g2 P1 Q1 G1 N1 c01 c12 c13 f12 f13 lt0 lt1

        go_wp2
        go_quiet (fail)
        go_wp2
        go_ret2
        have hx : ∀ g, (some (w.heap.size + 1) : Option Nat) = some g → g = pb ∨ (pb < g ∧ (U ≤ g ∨ ∀ cs, w2.heap[g]? ≠ some (.cells cs 108))) := fun g e => .inr (by have := Option.some.inj e; omega)
        have hN3 : (w2.setCell ⟨w.heap.size + 1, 2, none⟩ (.pointer (some ⟨x2, 0, none⟩))).heap[w.heap.size + 1]? = _ := (heap_put N2.out _).2
        have hs3 : w2.heap.size ≤ (w2.setCell ⟨w.heap.size + 1, 2, none⟩ (.pointer (some ⟨x2, 0, none⟩))).heap.size := by simp [World.setCell]
        have T1 := TreeAt.mono (V := (w2.setCell ⟨w.heap.size + 1, 2, none⟩ (.pointer (some ⟨x2, 0, none⟩))).heap.size) (by omega) _ _ (TreeAt.grown (grown_set w2 (w.heap.size + 1) 2 (.pointer (some ⟨x2, 0, none⟩))) hx _ _ Q1b.out)
        have T2 := TreeAt.mono (V := (w2.setCell ⟨w.heap.size + 1, 2, none⟩ (.pointer (some ⟨x2, 0, none⟩))).heap.size) (by omega) _ _ (TreeAt.grown (grown_set w2 (w.heap.size + 1) 2 (.pointer (some ⟨x2, 0, none⟩))) hx _ _ Q2.out)
        have TT := TreeAt.mk' (by omega) (by omega) hN3 (IntsB.nil pb _ sa) T2 T1
        exact .inl ⟨_, r, step2 HAR.out t1 t2 r, _, U, rfl, (P2.out.set _ _ _ (by omega)).below (below_drewN (Below.refl _ _) _), (TT.drewN _).top, grown_drewT (grown_freshT G2.out _ _ _ (by omega)) _⟩
      · go_enter Try.func85, Try.ntmps85
        go_wp2_with fail
        refine (takeT_some pb U t1 (t2 :: r) _ hn1 (HP.out.below (A2 _ _))).mono ?_
        rintro e w1 ⟨x1, rfl, p1, q1, g1⟩
        have P1 : Hid _ := p1
        have Q1 : Hid _ := q1
        have hs1 : w.heap.size + 2 ≤ w1.heap.size := by have := g1.size; rw [L2] at this; exact this
        have G1 : Hid (w.grownBy w1 (some pb)) := grown_transT (grown_of_belowT (A2 _ _) _) g1
        have c01 : w1.cell? ⟨w.heap.size, 1, none⟩ = some (.slice sa 0 sc) := (cell_kept g1 (by rw [L2]; omega) ne0 1).trans (cell_of (K0 _ _) 1)
        have N1 : Hid (w1.heap[w.heap.size + 1]? = some (.cells #[.int .i64 4, .slice sa 0 sc, .pointer none, .pointer none] 108)) := (g1.block _ (by rw [L2]; omega) (fun e => ne1 (Option.some.inj e))).trans (K1 _ _)
        have c12 : w1.cell? ⟨w.heap.size + 1, 2, none⟩ = some (.pointer none) := cell_of N1.out 2
        have c13 : w1.cell? ⟨w.heap.size + 1, 3, none⟩ = some (.pointer none) := cell_of N1.out 3
        have f12 : w1.frozen? ⟨w.heap.size + 1, 2, none⟩ = false := frozen_of_row _ _ _ _ _ N1.out
        have f13 : w1.frozen? ⟨w.heap.size + 1, 3, none⟩ = false := frozen_of_row _ _ _ _ _ N1.out
        clear p1 q1 g1

        go_wp2_with fail
        refine (takeT_some pb U t2 r _ hn2 (P1.out.set _ _ _ (by omega))).mono ?_
        rintro e w2 ⟨x2, rfl, p2, q2, g2⟩
        have P2 : Hid _ := p2
        have Q2 : Hid _ := q2
        have hs2 : w.heap.size + 2 ≤ w2.heap.size := Nat.le_trans hs1 (Nat.le_trans (by simp [World.setCell]) g2.size)
        have G2 : Hid (w.grownBy w2 (some pb)) := grown_transT (grown_freshT G1.out _ _ _ (by omega)) g2
        have lt0 : w.heap.size < (w1.setCell ⟨w.heap.size + 1, 3, none⟩ (.pointer (some ⟨x1, 0, none⟩))).heap.size := by simp [World.setCell]; omega
        have lt1 : w.heap.size + 1 < (w1.setCell ⟨w.heap.size + 1, 3, none⟩ (.pointer (some ⟨x1, 0, none⟩))).heap.size := by simp [World.setCell]; omega
        have d01 : w2.cell? ⟨w.heap.size, 1, none⟩ = some (.slice sa 0 sc) := (cell_kept g2 lt0 ne0 1).trans ((set_other _ _ _ _ _ _ (by omega)).trans c01)
        have N2 : Hid (w2.heap[w.heap.size + 1]? = some (.cells #[.int .i64 4, .slice sa 0 sc, .pointer none, .pointer (some ⟨x1, 0, none⟩)] 108)) := (g2.block _ lt1 (fun e => ne1 (Option.some.inj e))).trans (heap_put N1.out _).1
        have d12 : w2.cell? ⟨w.heap.size + 1, 2, none⟩ = some (.pointer none) := cell_of N2.out 2
        have e12 : w2.frozen? ⟨w.heap.size + 1, 2, none⟩ = false := frozen_of_row _ _ _ _ _ N2.out
        have Q1b : Hid _ := TreeAt.grown g2 (fun g e => .inl (Option.some.inj e).symm) _ _ (TreeAt.grown (grown_set w1 (w.heap.size + 1) 3 (.pointer (some ⟨x1, 0, none⟩))) (fun g e => .inr (by have := Option.some.inj e; omega)) _ _ Q1.out)
        clear p2 q2 g2 P1 Q1 G1 N1 c01 c12 c13 f12 f13 lt0 lt1

        go_wp2
        go_quiet (fail)
        go_wp2
        go_ret2
        have hx : ∀ g, (some (w.heap.size + 1) : Option Nat) = some g → g = pb ∨ (pb < g ∧ (U ≤ g ∨ ∀ cs, w2.heap[g]? ≠ some (.cells cs 108))) := fun g e => .inr (by have := Option.some.inj e; omega)
        have hN3 : (w2.setCell ⟨w.heap.size + 1, 2, none⟩ (.pointer (some ⟨x2, 0, none⟩))).heap[w.heap.size + 1]? = _ := (heap_put N2.out _).2
        have hs3 : w2.heap.size ≤ (w2.setCell ⟨w.heap.size + 1, 2, none⟩ (.pointer (some ⟨x2, 0, none⟩))).heap.size := by simp [World.setCell]
        have T1 := TreeAt.mono (V := (w2.setCell ⟨w.heap.size + 1, 2, none⟩ (.pointer (some ⟨x2, 0, none⟩))).heap.size) (by omega) _ _ (TreeAt.grown (grown_set w2 (w.heap.size + 1) 2 (.pointer (some ⟨x2, 0, none⟩))) hx _ _ Q1b.out)
        have T2 := TreeAt.mono (V := (w2.setCell ⟨w.heap.size + 1, 2, none⟩ (.pointer (some ⟨x2, 0, none⟩))).heap.size) (by omega) _ _ (TreeAt.grown (grown_set w2 (w.heap.size + 1) 2 (.pointer (some ⟨x2, 0, none⟩))) hx _ _ Q2.out)
        have TT := TreeAt.mk' (by omega) (by omega) hN3 (IntsB.nil pb _ sa) T2 T1
        exact .inl ⟨_, r, step2 HAR.out t1 t2 r, _, U, rfl, (P2.out.set _ _ _ (by omega)).below (below_drewN (Below.refl _ _) _), (TT.drewN _).top, grown_drewT (grown_freshT G2.out _ _ _ (by omega)) _⟩
      · go_enter Try.func85, Try.ntmps85
        go_wp2_with fail
        refine (takeT_some pb U t1 (t2 :: r) _ hn1 (HP.out.below (A2 _ _))).mono ?_
        rintro e w1 ⟨x1, rfl, p1, q1, g1⟩
        have P1 : Hid _ := p1
        have Q1 : Hid _ := q1
        have hs1 : w.heap.size + 2 ≤ w1.heap.size := by have := g1.size; rw [L2] at this; exact this
        have G1 : Hid (w.grownBy w1 (some pb)) := grown_transT (grown_of_belowT (A2 _ _) _) g1
        have c01 : w1.cell? ⟨w.heap.size, 1, none⟩ = some (.slice sa 0 sc) := (cell_kept g1 (by rw [L2]; omega) ne0 1).trans (cell_of (K0 _ _) 1)
        have N1 : Hid (w1.heap[w.heap.size + 1]? = some (.cells #[.int .i64 5, .slice sa 0 sc, .pointer none, .pointer none] 108)) := (g1.block _ (by rw [L2]; omega) (fun e => ne1 (Option.some.inj e))).trans (K1 _ _)
        have c12 : w1.cell? ⟨w.heap.size + 1, 2, none⟩ = some (.pointer none) := cell_of N1.out 2
        have c13 : w1.cell? ⟨w.heap.size + 1, 3, none⟩ = some (.pointer none) := cell_of N1.out 3
        have f12 : w1.frozen? ⟨w.heap.size + 1, 2, none⟩ = false := frozen_of_row _ _ _ _ _ N1.out
        have f13 : w1.frozen? ⟨w.heap.size + 1, 3, none⟩ = false := frozen_of_row _ _ _ _ _ N1.out
        clear p1 q1 g1

        go_wp2_with fail
        refine (takeT_some pb U t2 r _ hn2 (P1.out.set _ _ _ (by omega))).mono ?_
        rintro e w2 ⟨x2, rfl, p2, q2, g2⟩
        have P2 : Hid _ := p2
        have Q2 : Hid _ := q2
        have hs2 : w.heap.size + 2 ≤ w2.heap.size := Nat.le_trans hs1 (Nat.le_trans (by simp [World.setCell]) g2.size)
        have G2 : Hid (w.grownBy w2 (some pb)) := grown_transT (grown_freshT G1.out _ _ _ (by omega)) g2
        have lt0 : w.heap.size < (w1.setCell ⟨w.heap.size + 1, 3, none⟩ (.pointer (some ⟨x1, 0, none⟩))).heap.size := by simp [World.setCell]; omega
        have lt1 : w.heap.size + 1 < (w1.setCell ⟨w.heap.size + 1, 3, none⟩ (.pointer (some ⟨x1, 0, none⟩))).heap.size := by simp [World.setCell]; omega
        have d01 : w2.cell? ⟨w.heap.size, 1, none⟩ = some (.slice sa 0 sc) := (cell_kept g2 lt0 ne0 1).trans ((set_other _ _ _ _ _ _ (by omega)).trans c01)
        have N2 : Hid (w2.heap[w.heap.size + 1]? = some (.cells #[.int .i64 5, .slice sa 0 sc, .pointer none, .pointer (some ⟨x1, 0, none⟩)] 108)) := (g2.block _ lt1 (fun e => ne1 (Option.some.inj e))).trans (heap_put N1.out _).1
        have d12 : w2.cell? ⟨w.heap.size + 1, 2, none⟩ = some (.pointer none) := cell_of N2.out 2
        have e12 : w2.frozen? ⟨w.heap.size + 1, 2, none⟩ = false := frozen_of_row _ _ _ _ _ N2.out
        have Q1b : Hid _ := TreeAt.grown g2 (fun g e => .inl (Option.some.inj e).symm) _ _ (TreeAt.grown (grown_set w1 (w.heap.size + 1) 3 (.pointer (some ⟨x1, 0, none⟩))) (fun g e => .inr (by have := Option.some.inj e; omega)) _ _ Q1.out)
        clear p2 q2 g2 P1 Q1 G1 N1 c01 c12 c13 f12 f13 lt0 lt1

        go_wp2
        go_quiet (fail)
        go_wp2
        go_ret2
        have hx : ∀ g, (some (w.heap.size + 1) : Option Nat) = some g → g = pb ∨ (pb < g ∧ (U ≤ g ∨ ∀ cs, w2.heap[g]? ≠ some (.cells cs 108))) := fun g e => .inr (by have := Option.some.inj e; omega)
        have hN3 : (w2.setCell ⟨w.heap.size + 1, 2, none⟩ (.pointer (some ⟨x2, 0, none⟩))).heap[w.heap.size + 1]? = _ := (heap_put N2.out _).2
        have hs3 : w2.heap.size ≤ (w2.setCell ⟨w.heap.size + 1, 2, none⟩ (.pointer (some ⟨x2, 0, none⟩))).heap.size := by simp [World.setCell]
        have T1 := TreeAt.mono (V := (w2.setCell ⟨w.heap.size + 1, 2, none⟩ (.pointer (some ⟨x2, 0, none⟩))).heap.size) (by omega) _ _ (TreeAt.grown (grown_set w2 (w.heap.size + 1) 2 (.pointer (some ⟨x2, 0, none⟩))) hx _ _ Q1b.out)
        have T2 := TreeAt.mono (V := (w2.setCell ⟨w.heap.size + 1, 2, none⟩ (.pointer (some ⟨x2, 0, none⟩))).heap.size) (by omega) _ _ (TreeAt.grown (grown_set w2 (w.heap.size + 1) 2 (.pointer (some ⟨x2, 0, none⟩))) hx _ _ Q2.out)
        have TT := TreeAt.mk' (by omega) (by omega) hN3 (IntsB.nil pb _ sa) T2 T1
        exact .inl ⟨_, r, step2 HAR.out t1 t2 r, _, U, rfl, (P2.out.set _ _ _ (by omega)).below (below_drewN (Below.refl _ _) _), (TT.drewN _).top, grown_drewT (grown_freshT G2.out _ _ _ (by omega)) _⟩
    · have hz : ¬ ((s.length : Int) + 1 = 0) := by omega
      rcases hop with rfl | rfl | rfl
      · go_enter Try.func85, Try.ntmps85
        go_wp2_with fail
        refine (takeT_some pb U t1 (t2 :: r) _ hn1 (HP.out.below (A2 _ _))).mono ?_
        rintro e w1 ⟨x1, rfl, p1, q1, g1⟩
        have P1 : Hid _ := p1
        have Q1 : Hid _ := q1
        have hs1 : w.heap.size + 2 ≤ w1.heap.size := by have := g1.size; rw [L2] at this; exact this
        have G1 : Hid (w.grownBy w1 (some pb)) := grown_transT (grown_of_belowT (A2 _ _) _) g1
        have c01 : w1.cell? ⟨w.heap.size, 1, none⟩ = some (.slice sa (z :: s).length sc) := (cell_kept g1 (by rw [L2]; omega) ne0 1).trans (cell_of (K0 _ _) 1)
        have N1 : Hid (w1.heap[w.heap.size + 1]? = some (.cells #[.int .i64 3, .slice sa (z :: s).length sc, .pointer none, .pointer none] 108)) := (g1.block _ (by rw [L2]; omega) (fun e => ne1 (Option.some.inj e))).trans (K1 _ _)
        have c12 : w1.cell? ⟨w.heap.size + 1, 2, none⟩ = some (.pointer none) := cell_of N1.out 2
        have c13 : w1.cell? ⟨w.heap.size + 1, 3, none⟩ = some (.pointer none) := cell_of N1.out 3
        have f12 : w1.frozen? ⟨w.heap.size + 1, 2, none⟩ = false := frozen_of_row _ _ _ _ _ N1.out
        have f13 : w1.frozen? ⟨w.heap.size + 1, 3, none⟩ = false := frozen_of_row _ _ _ _ _ N1.out
        clear p1 q1 g1

        go_wp2_with fail
        refine (takeT_some pb U t2 r _ hn2 (P1.out.set _ _ _ (by omega))).mono ?_
        rintro e w2 ⟨x2, rfl, p2, q2, g2⟩
        have P2 : Hid _ := p2
        have Q2 : Hid _ := q2
        have hs2 : w.heap.size + 2 ≤ w2.heap.size := Nat.le_trans hs1 (Nat.le_trans (by simp [World.setCell]) g2.size)
        have G2 : Hid (w.grownBy w2 (some pb)) := grown_transT (grown_freshT G1.out _ _ _ (by omega)) g2
        have lt0 : w.heap.size < (w1.setCell ⟨w.heap.size + 1, 3, none⟩ (.pointer (some ⟨x1, 0, none⟩))).heap.size := by simp [World.setCell]; omega
        have lt1 : w.heap.size + 1 < (w1.setCell ⟨w.heap.size + 1, 3, none⟩ (.pointer (some ⟨x1, 0, none⟩))).heap.size := by simp [World.setCell]; omega
        have d01 : w2.cell? ⟨w.heap.size, 1, none⟩ = some (.slice sa (z :: s).length sc) := (cell_kept g2 lt0 ne0 1).trans ((set_other _ _ _ _ _ _ (by omega)).trans c01)
        have N2 : Hid (w2.heap[w.heap.size + 1]? = some (.cells #[.int .i64 3, .slice sa (z :: s).length sc, .pointer none, .pointer (some ⟨x1, 0, none⟩)] 108)) := (g2.block _ lt1 (fun e => ne1 (Option.some.inj e))).trans (heap_put N1.out _).1
        have d12 : w2.cell? ⟨w.heap.size + 1, 2, none⟩ = some (.pointer none) := cell_of N2.out 2
        have e12 : w2.frozen? ⟨w.heap.size + 1, 2, none⟩ = false := frozen_of_row _ _ _ _ _ N2.out
        have Q1b : Hid _ := TreeAt.grown g2 (fun g e => .inl (Option.some.inj e).symm) _ _ (TreeAt.grown (grown_set w1 (w.heap.size + 1) 3 (.pointer (some ⟨x1, 0, none⟩))) (fun g e => .inr (by have := Option.some.inj e; omega)) _ _ Q1.out)
        clear p2 q2 g2 P1 Q1 G1 N1 c01 c12 c13 f12 f13 lt0 lt1

        go_wp2
        go_quiet (fail)
        go_wp2
        go_ret2
        exact .inr ⟨step_bad (by rw [HNB.out]; rfl) _, _, rfl, grown_drewT (grown_freshT G2.out _ _ _ (by omega)) _⟩
      · go_enter Try.func85, Try.ntmps85
        go_wp2_with fail
        refine (takeT_some pb U t1 (t2 :: r) _ hn1 (HP.out.below (A2 _ _))).mono ?_
        rintro e w1 ⟨x1, rfl, p1, q1, g1⟩
        have P1 : Hid _ := p1
        have Q1 : Hid _ := q1
        have hs1 : w.heap.size + 2 ≤ w1.heap.size := by have := g1.size; rw [L2] at this; exact this
        have G1 : Hid (w.grownBy w1 (some pb)) := grown_transT (grown_of_belowT (A2 _ _) _) g1
        have c01 : w1.cell? ⟨w.heap.size, 1, none⟩ = some (.slice sa (z :: s).length sc) := (cell_kept g1 (by rw [L2]; omega) ne0 1).trans (cell_of (K0 _ _) 1)
        have N1 : Hid (w1.heap[w.heap.size + 1]? = some (.cells #[.int .i64 4, .slice sa (z :: s).length sc, .pointer none, .pointer none] 108)) := (g1.block _ (by rw [L2]; omega) (fun e => ne1 (Option.some.inj e))).trans (K1 _ _)
        have c12 : w1.cell? ⟨w.heap.size + 1, 2, none⟩ = some (.pointer none) := cell_of N1.out 2
        have c13 : w1.cell? ⟨w.heap.size + 1, 3, none⟩ = some (.pointer none) := cell_of N1.out 3
        have f12 : w1.frozen? ⟨w.heap.size + 1, 2, none⟩ = false := frozen_of_row _ _ _ _ _ N1.out
        have f13 : w1.frozen? ⟨w.heap.size + 1, 3, none⟩ = false := frozen_of_row _ _ _ _ _ N1.out
        clear p1 q1 g1

        go_wp2_with fail
        refine (takeT_some pb U t2 r _ hn2 (P1.out.set _ _ _ (by omega))).mono ?_
        rintro e w2 ⟨x2, rfl, p2, q2, g2⟩
        have P2 : Hid _ := p2
        have Q2 : Hid _ := q2
        have hs2 : w.heap.size + 2 ≤ w2.heap.size := Nat.le_trans hs1 (Nat.le_trans (by simp [World.setCell]) g2.size)
        have G2 : Hid (w.grownBy w2 (some pb)) := grown_transT (grown_freshT G1.out _ _ _ (by omega)) g2
        have lt0 : w.heap.size < (w1.setCell ⟨w.heap.size + 1, 3, none⟩ (.pointer (some ⟨x1, 0, none⟩))).heap.size := by simp [World.setCell]; omega
        have lt1 : w.heap.size + 1 < (w1.setCell ⟨w.heap.size + 1, 3, none⟩ (.pointer (some ⟨x1, 0, none⟩))).heap.size := by simp [World.setCell]; omega
        have d01 : w2.cell? ⟨w.heap.size, 1, none⟩ = some (.slice sa (z :: s).length sc) := (cell_kept g2 lt0 ne0 1).trans ((set_other _ _ _ _ _ _ (by omega)).trans c01)
        have N2 : Hid (w2.heap[w.heap.size + 1]? = some (.cells #[.int .i64 4, .slice sa (z :: s).length sc, .pointer none, .pointer (some ⟨x1, 0, none⟩)] 108)) := (g2.block _ lt1 (fun e => ne1 (Option.some.inj e))).trans (heap_put N1.out _).1
        have d12 : w2.cell? ⟨w.heap.size + 1, 2, none⟩ = some (.pointer none) := cell_of N2.out 2
        have e12 : w2.frozen? ⟨w.heap.size + 1, 2, none⟩ = false := frozen_of_row _ _ _ _ _ N2.out
        have Q1b : Hid _ := TreeAt.grown g2 (fun g e => .inl (Option.some.inj e).symm) _ _ (TreeAt.grown (grown_set w1 (w.heap.size + 1) 3 (.pointer (some ⟨x1, 0, none⟩))) (fun g e => .inr (by have := Option.some.inj e; omega)) _ _ Q1.out)
        clear p2 q2 g2 P1 Q1 G1 N1 c01 c12 c13 f12 f13 lt0 lt1

        go_wp2
        go_quiet (fail)
        go_wp2
        go_ret2
        exact .inr ⟨step_bad (by rw [HNB.out]; rfl) _, _, rfl, grown_drewT (grown_freshT G2.out _ _ _ (by omega)) _⟩
      · go_enter Try.func85, Try.ntmps85
        go_wp2_with fail
        refine (takeT_some pb U t1 (t2 :: r) _ hn1 (HP.out.below (A2 _ _))).mono ?_
        rintro e w1 ⟨x1, rfl, p1, q1, g1⟩
        have P1 : Hid _ := p1
        have Q1 : Hid _ := q1
        have hs1 : w.heap.size + 2 ≤ w1.heap.size := by have := g1.size; rw [L2] at this; exact this
        have G1 : Hid (w.grownBy w1 (some pb)) := grown_transT (grown_of_belowT (A2 _ _) _) g1
        have c01 : w1.cell? ⟨w.heap.size, 1, none⟩ = some (.slice sa (z :: s).length sc) := (cell_kept g1 (by rw [L2]; omega) ne0 1).trans (cell_of (K0 _ _) 1)
        have N1 : Hid (w1.heap[w.heap.size + 1]? = some (.cells #[.int .i64 5, .slice sa (z :: s).length sc, .pointer none, .pointer none] 108)) := (g1.block _ (by rw [L2]; omega) (fun e => ne1 (Option.some.inj e))).trans (K1 _ _)
        have c12 : w1.cell? ⟨w.heap.size + 1, 2, none⟩ = some (.pointer none) := cell_of N1.out 2
        have c13 : w1.cell? ⟨w.heap.size + 1, 3, none⟩ = some (.pointer none) := cell_of N1.out 3
        have f12 : w1.frozen? ⟨w.heap.size + 1, 2, none⟩ = false := frozen_of_row _ _ _ _ _ N1.out
        have f13 : w1.frozen? ⟨w.heap.size + 1, 3, none⟩ = false := frozen_of_row _ _ _ _ _ N1.out
        clear p1 q1 g1

        go_wp2_with fail
        refine (takeT_some pb U t2 r _ hn2 (P1.out.set _ _ _ (by omega))).mono ?_
        rintro e w2 ⟨x2, rfl, p2, q2, g2⟩
        have P2 : Hid _ := p2
        have Q2 : Hid _ := q2
        have hs2 : w.heap.size + 2 ≤ w2.heap.size := Nat.le_trans hs1 (Nat.le_trans (by simp [World.setCell]) g2.size)
        have G2 : Hid (w.grownBy w2 (some pb)) := grown_transT (grown_freshT G1.out _ _ _ (by omega)) g2
        have lt0 : w.heap.size < (w1.setCell ⟨w.heap.size + 1, 3, none⟩ (.pointer (some ⟨x1, 0, none⟩))).heap.size := by simp [World.setCell]; omega
        have lt1 : w.heap.size + 1 < (w1.setCell ⟨w.heap.size + 1, 3, none⟩ (.pointer (some ⟨x1, 0, none⟩))).heap.size := by simp [World.setCell]; omega
        have d01 : w2.cell? ⟨w.heap.size, 1, none⟩ = some (.slice sa (z :: s).length sc) := (cell_kept g2 lt0 ne0 1).trans ((set_other _ _ _ _ _ _ (by omega)).trans c01)
        have N2 : Hid (w2.heap[w.heap.size + 1]? = some (.cells #[.int .i64 5, .slice sa (z :: s).length sc, .pointer none, .pointer (some ⟨x1, 0, none⟩)] 108)) := (g2.block _ lt1 (fun e => ne1 (Option.some.inj e))).trans (heap_put N1.out _).1
        have d12 : w2.cell? ⟨w.heap.size + 1, 2, none⟩ = some (.pointer none) := cell_of N2.out 2
        have e12 : w2.frozen? ⟨w.heap.size + 1, 2, none⟩ = false := frozen_of_row _ _ _ _ _ N2.out
        have Q1b : Hid _ := TreeAt.grown g2 (fun g e => .inl (Option.some.inj e).symm) _ _ (TreeAt.grown (grown_set w1 (w.heap.size + 1) 3 (.pointer (some ⟨x1, 0, none⟩))) (fun g e => .inr (by have := Option.some.inj e; omega)) _ _ Q1.out)
        clear p2 q2 g2 P1 Q1 G1 N1 c01 c12 c13 f12 f13 lt0 lt1

        go_wp2
        go_quiet (fail)
        go_wp2
        go_ret2
        exact .inr ⟨step_bad (by rw [HNB.out]; rfl) _, _, rfl, grown_drewT (grown_freshT G2.out _ _ _ (by omega)) _⟩
set_option maxRecDepth 100000 in
set_option maxHeartbeats 4000000 in
theorem nodeT_one (hop : op = 6 ∨ op = 7) (hn : ts.length ≤ 1000) (hP : PileT w pb U ts) :
    Calls Try.prog 85 #[.pointer (some ⟨pb, 0, none⟩), .agg #[.int .i64 op, .slice sa s.length sc]] w fun e w' => NodeT (op, s) pb ts w w' e := by
  have HP : Hid _ := hP
  have A2 : ∀ o p, Below w.heap.size w ((w.alloc o).alloc p) := fun o p => ((Below.refl _ _).alloc (Nat.le_refl _) o).alloc (by simp) p
  have har : arity op = 1 := by rcases hop with rfl | rfl <;> rfl
  have HAR : Hid _ := har
  have HNB : Hid (nodeB (op, s) = s.isEmpty) := nodeBT_plain (by omega) (by omega)
  have hpw : pb < w.heap.size := Nat.lt_of_lt_of_le hP.lt hP.le
  have hUw : U ≤ w.heap.size := hP.le
  have ne0 : ¬ w.heap.size = pb := by omega
  have ne1 : ¬ w.heap.size + 1 = pb := by omega
  have L2 : ∀ o p, ((w.alloc o).alloc p).heap.size = w.heap.size + 2 := fun o p => by simp
  have K0 : ∀ o p, ((w.alloc o).alloc p).heap[w.heap.size]? = some o := fun o p => (heap_prev _ _ _ (by simp)).trans (heap_last2 _ _ _ rfl)
  have K1 : ∀ o p, ((w.alloc o).alloc p).heap[w.heap.size + 1]? = some p := fun o p => heap_last2 _ _ _ (by simp)
  clear hP har
  rcases ts with _ | ⟨t1, r⟩
  · rcases hop with rfl | rfl
    · go_enter Try.func85, Try.ntmps85
      go_wp2_with fail
      refine (takeT_none pb U _ (HP.out.below (A2 _ _))).mono ?_
      rintro e w1 ⟨rfl, rfl⟩

      go_wp2
      go_quiet (fail)
      go_wp2
      go_ret2
      exact .inr ⟨step1_no HAR.out _, _, rfl, grown_drewT (grown_of_belowT (A2 _ _) _) _⟩
    · go_enter Try.func85, Try.ntmps85
      go_wp2_with fail
      refine (takeT_none pb U _ (HP.out.below (A2 _ _))).mono ?_
      rintro e w1 ⟨rfl, rfl⟩

      go_wp2
      go_quiet (fail)
      go_wp2
      go_ret2
      exact .inr ⟨step1_no HAR.out _, _, rfl, grown_drewT (grown_of_belowT (A2 _ _) _) _⟩
  · have hn1 : r.length ≤ 1000 := by simp at hn ⊢; omega
    clear hn
    rcases s with _ | ⟨z, s⟩
    · rcases hop with rfl | rfl
      · go_enter Try.func85, Try.ntmps85
        go_wp2_with fail
        refine (takeT_some pb U t1 r _ hn1 (HP.out.below (A2 _ _))).mono ?_
        rintro e w1 ⟨x1, rfl, p1, q1, g1⟩
        have P1 : Hid _ := p1
        have Q1 : Hid _ := q1
        have hs1 : w.heap.size + 2 ≤ w1.heap.size := by have := g1.size; rw [L2] at this; exact this
        have G1 : Hid (w.grownBy w1 (some pb)) := grown_transT (grown_of_belowT (A2 _ _) _) g1
        have c01 : w1.cell? ⟨w.heap.size, 1, none⟩ = some (.slice sa 0 sc) := (cell_kept g1 (by rw [L2]; omega) ne0 1).trans (cell_of (K0 _ _) 1)
        have N1 : Hid (w1.heap[w.heap.size + 1]? = some (.cells #[.int .i64 6, .slice sa 0 sc, .pointer none, .pointer none] 108)) := (g1.block _ (by rw [L2]; omega) (fun e => ne1 (Option.some.inj e))).trans (K1 _ _)
        have c12 : w1.cell? ⟨w.heap.size + 1, 2, none⟩ = some (.pointer none) := cell_of N1.out 2
        have c13 : w1.cell? ⟨w.heap.size + 1, 3, none⟩ = some (.pointer none) := cell_of N1.out 3
        have f12 : w1.frozen? ⟨w.heap.size + 1, 2, none⟩ = false := frozen_of_row _ _ _ _ _ N1.out
        have f13 : w1.frozen? ⟨w.heap.size + 1, 3, none⟩ = false := frozen_of_row _ _ _ _ _ N1.out
        clear p1 q1 g1

        go_wp2
        go_quiet (fail)
        go_wp2
        go_ret2
        have hx : ∀ g, (some (w.heap.size + 1) : Option Nat) = some g → g = pb ∨ (pb < g ∧ (U ≤ g ∨ ∀ cs, w1.heap[g]? ≠ some (.cells cs 108))) := fun g e => .inr (by have := Option.some.inj e; omega)
        have hN3 : (w1.setCell ⟨w.heap.size + 1, 2, none⟩ (.pointer (some ⟨x1, 0, none⟩))).heap[w.heap.size + 1]? = _ := (heap_put N1.out _).2
        have hs3 : w1.heap.size ≤ (w1.setCell ⟨w.heap.size + 1, 2, none⟩ (.pointer (some ⟨x1, 0, none⟩))).heap.size := by simp [World.setCell]
        have T1 := TreeAt.mono (V := (w1.setCell ⟨w.heap.size + 1, 2, none⟩ (.pointer (some ⟨x1, 0, none⟩))).heap.size) (by omega) _ _ (TreeAt.grown (grown_set w1 (w.heap.size + 1) 2 (.pointer (some ⟨x1, 0, none⟩))) hx _ _ Q1.out)
        have TT := TreeAt.mk' (by omega) (by omega) hN3 (IntsB.nil pb _ sa) T1 (by rw [TreeAt])
        exact .inl ⟨_, r, step1 HAR.out t1 r, _, U, rfl, (P1.out.set _ _ _ (by omega)).below (below_drewN (Below.refl _ _) _), (TT.drewN _).top, grown_drewT (grown_freshT G1.out _ _ _ (by omega)) _⟩
      · go_enter Try.func85, Try.ntmps85
        go_wp2_with fail
        refine (takeT_some pb U t1 r _ hn1 (HP.out.below (A2 _ _))).mono ?_
        rintro e w1 ⟨x1, rfl, p1, q1, g1⟩
        have P1 : Hid _ := p1
        have Q1 : Hid _ := q1
        have hs1 : w.heap.size + 2 ≤ w1.heap.size := by have := g1.size; rw [L2] at this; exact this
        have G1 : Hid (w.grownBy w1 (some pb)) := grown_transT (grown_of_belowT (A2 _ _) _) g1
        have c01 : w1.cell? ⟨w.heap.size, 1, none⟩ = some (.slice sa 0 sc) := (cell_kept g1 (by rw [L2]; omega) ne0 1).trans (cell_of (K0 _ _) 1)
        have N1 : Hid (w1.heap[w.heap.size + 1]? = some (.cells #[.int .i64 7, .slice sa 0 sc, .pointer none, .pointer none] 108)) := (g1.block _ (by rw [L2]; omega) (fun e => ne1 (Option.some.inj e))).trans (K1 _ _)
        have c12 : w1.cell? ⟨w.heap.size + 1, 2, none⟩ = some (.pointer none) := cell_of N1.out 2
        have c13 : w1.cell? ⟨w.heap.size + 1, 3, none⟩ = some (.pointer none) := cell_of N1.out 3
        have f12 : w1.frozen? ⟨w.heap.size + 1, 2, none⟩ = false := frozen_of_row _ _ _ _ _ N1.out
        have f13 : w1.frozen? ⟨w.heap.size + 1, 3, none⟩ = false := frozen_of_row _ _ _ _ _ N1.out
        clear p1 q1 g1

        go_wp2
        go_quiet (fail)
        go_wp2
        go_ret2
        have hx : ∀ g, (some (w.heap.size + 1) : Option Nat) = some g → g = pb ∨ (pb < g ∧ (U ≤ g ∨ ∀ cs, w1.heap[g]? ≠ some (.cells cs 108))) := fun g e => .inr (by have := Option.some.inj e; omega)
        have hN3 : (w1.setCell ⟨w.heap.size + 1, 2, none⟩ (.pointer (some ⟨x1, 0, none⟩))).heap[w.heap.size + 1]? = _ := (heap_put N1.out _).2
        have hs3 : w1.heap.size ≤ (w1.setCell ⟨w.heap.size + 1, 2, none⟩ (.pointer (some ⟨x1, 0, none⟩))).heap.size := by simp [World.setCell]
        have T1 := TreeAt.mono (V := (w1.setCell ⟨w.heap.size + 1, 2, none⟩ (.pointer (some ⟨x1, 0, none⟩))).heap.size) (by omega) _ _ (TreeAt.grown (grown_set w1 (w.heap.size + 1) 2 (.pointer (some ⟨x1, 0, none⟩))) hx _ _ Q1.out)
        have TT := TreeAt.mk' (by omega) (by omega) hN3 (IntsB.nil pb _ sa) T1 (by rw [TreeAt])
        exact .inl ⟨_, r, step1 HAR.out t1 r, _, U, rfl, (P1.out.set _ _ _ (by omega)).below (below_drewN (Below.refl _ _) _), (TT.drewN _).top, grown_drewT (grown_freshT G1.out _ _ _ (by omega)) _⟩
    · have hz : ¬ ((s.length : Int) + 1 = 0) := by omega
      rcases hop with rfl | rfl
      · go_enter Try.func85, Try.ntmps85
        go_wp2_with fail
        refine (takeT_some pb U t1 r _ hn1 (HP.out.below (A2 _ _))).mono ?_
        rintro e w1 ⟨x1, rfl, p1, q1, g1⟩
        have P1 : Hid _ := p1
        have Q1 : Hid _ := q1
        have hs1 : w.heap.size + 2 ≤ w1.heap.size := by have := g1.size; rw [L2] at this; exact this
        have G1 : Hid (w.grownBy w1 (some pb)) := grown_transT (grown_of_belowT (A2 _ _) _) g1
        have c01 : w1.cell? ⟨w.heap.size, 1, none⟩ = some (.slice sa (z :: s).length sc) := (cell_kept g1 (by rw [L2]; omega) ne0 1).trans (cell_of (K0 _ _) 1)
        have N1 : Hid (w1.heap[w.heap.size + 1]? = some (.cells #[.int .i64 6, .slice sa (z :: s).length sc, .pointer none, .pointer none] 108)) := (g1.block _ (by rw [L2]; omega) (fun e => ne1 (Option.some.inj e))).trans (K1 _ _)
        have c12 : w1.cell? ⟨w.heap.size + 1, 2, none⟩ = some (.pointer none) := cell_of N1.out 2
        have c13 : w1.cell? ⟨w.heap.size + 1, 3, none⟩ = some (.pointer none) := cell_of N1.out 3
        have f12 : w1.frozen? ⟨w.heap.size + 1, 2, none⟩ = false := frozen_of_row _ _ _ _ _ N1.out
        have f13 : w1.frozen? ⟨w.heap.size + 1, 3, none⟩ = false := frozen_of_row _ _ _ _ _ N1.out
        clear p1 q1 g1

        go_wp2
        go_quiet (fail)
        go_wp2
        go_ret2
        exact .inr ⟨step_bad (by rw [HNB.out]; rfl) _, _, rfl, grown_drewT (grown_freshT G1.out _ _ _ (by omega)) _⟩
      · go_enter Try.func85, Try.ntmps85
        go_wp2_with fail
        refine (takeT_some pb U t1 r _ hn1 (HP.out.below (A2 _ _))).mono ?_
        rintro e w1 ⟨x1, rfl, p1, q1, g1⟩
        have P1 : Hid _ := p1
        have Q1 : Hid _ := q1
        have hs1 : w.heap.size + 2 ≤ w1.heap.size := by have := g1.size; rw [L2] at this; exact this
        have G1 : Hid (w.grownBy w1 (some pb)) := grown_transT (grown_of_belowT (A2 _ _) _) g1
        have c01 : w1.cell? ⟨w.heap.size, 1, none⟩ = some (.slice sa (z :: s).length sc) := (cell_kept g1 (by rw [L2]; omega) ne0 1).trans (cell_of (K0 _ _) 1)
        have N1 : Hid (w1.heap[w.heap.size + 1]? = some (.cells #[.int .i64 7, .slice sa (z :: s).length sc, .pointer none, .pointer none] 108)) := (g1.block _ (by rw [L2]; omega) (fun e => ne1 (Option.some.inj e))).trans (K1 _ _)
        have c12 : w1.cell? ⟨w.heap.size + 1, 2, none⟩ = some (.pointer none) := cell_of N1.out 2
        have c13 : w1.cell? ⟨w.heap.size + 1, 3, none⟩ = some (.pointer none) := cell_of N1.out 3
        have f12 : w1.frozen? ⟨w.heap.size + 1, 2, none⟩ = false := frozen_of_row _ _ _ _ _ N1.out
        have f13 : w1.frozen? ⟨w.heap.size + 1, 3, none⟩ = false := frozen_of_row _ _ _ _ _ N1.out
        clear p1 q1 g1

        go_wp2
        go_quiet (fail)
        go_wp2
        go_ret2
        exact .inr ⟨step_bad (by rw [HNB.out]; rfl) _, _, rfl, grown_drewT (grown_freshT G1.out _ _ _ (by omega)) _⟩
set_option maxRecDepth 100000 in
set_option maxHeartbeats 4000000 in
theorem nodeT_nil (hop : op = 1) (hP : PileT w pb U ts) :
    Calls Try.prog 85 #[.pointer (some ⟨pb, 0, none⟩), .agg #[.int .i64 op, .slice sa s.length sc]] w fun e w' => NodeT (op, s) pb ts w w' e := by
  have HP : Hid _ := hP
  have A2 : ∀ o p, Below w.heap.size w ((w.alloc o).alloc p) := fun o p => ((Below.refl _ _).alloc (Nat.le_refl _) o).alloc (by simp) p
  have har : arity op = 0 := by rw [hop]; rfl
  have HAR : Hid _ := har
  have HNB : Hid (nodeB (op, s) = s.isEmpty) := nodeBT_plain (by omega) (by omega)
  have hpw : pb < w.heap.size := Nat.lt_of_lt_of_le hP.lt hP.le
  have hUw : U ≤ w.heap.size := hP.le
  have ne0 : ¬ w.heap.size = pb := by omega
  have ne1 : ¬ w.heap.size + 1 = pb := by omega
  have L2 : ∀ o p, ((w.alloc o).alloc p).heap.size = w.heap.size + 2 := fun o p => by simp
  have K0 : ∀ o p, ((w.alloc o).alloc p).heap[w.heap.size]? = some o := fun o p => (heap_prev _ _ _ (by simp)).trans (heap_last2 _ _ _ rfl)
  have K1 : ∀ o p, ((w.alloc o).alloc p).heap[w.heap.size + 1]? = some p := fun o p => heap_last2 _ _ _ (by simp)
  clear hP har
  subst hop
  rcases s with _ | ⟨z, s⟩
  · go_enter Try.func85, Try.ntmps85
    go_wp2
    go_quiet (fail)
    go_wp2
    go_ret2
    have TT := TreeAt.mk' (B := pb) (U := w.heap.size + 2) (by omega) (by omega) (K1 (.cells #[.int .i64 1, .slice sa 0 sc] 81) (.cells #[.int .i64 1, .slice sa 0 sc, .pointer none, .pointer none] 108)) (IntsB.nil pb _ sa) (by rw [TreeAt]) (by rw [TreeAt])
    exact .inl ⟨_, ts, step0 HAR.out HNB.out ts, _, U, rfl, (HP.out.below (A2 _ _)).below (below_drewN (Below.refl _ _) _), (TT.drewN _).top, grown_drewT (grown_of_belowT (A2 _ _) _) _⟩
  · have hz : ¬ ((s.length : Int) + 1 = 0) := by omega
    go_enter Try.func85, Try.ntmps85
    go_wp2
    go_quiet (fail)
    go_wp2
    go_ret2
    exact .inr ⟨step_bad (by rw [HNB.out]; rfl) _, _, rfl, grown_drewT (grown_of_belowT (A2 _ _) _) _⟩
set_option maxRecDepth 100000 in
set_option maxHeartbeats 4000000 in
theorem nodeT_else (hop : arity op = -1) :
    Calls Try.prog 85 #[.pointer (some ⟨pb, 0, none⟩), .agg #[.int .i64 op, .slice sa s.length sc]] w fun e w' => NodeT (op, s) pb ts w w' e := by
  have A2 : ∀ o p, Below w.heap.size w ((w.alloc o).alloc p) := fun o p => ((Below.refl _ _).alloc (Nat.le_refl _) o).alloc (by simp) p
  have h1 : ¬ op = 1 := by rintro rfl; simp [arity] at hop
  have h2 : ¬ op = 2 := by rintro rfl; simp [arity] at hop
  have h3 : ¬ op = 3 := by rintro rfl; simp [arity] at hop
  have h4 : ¬ op = 4 := by rintro rfl; simp [arity] at hop
  have h5 : ¬ op = 5 := by rintro rfl; simp [arity] at hop
  have h6 : ¬ op = 6 := by rintro rfl; simp [arity] at hop
  have h7 : ¬ op = 7 := by rintro rfl; simp [arity] at hop
  have HNB : Hid (nodeB (op, s) = false) := by show nodeB (op, s) = false; simp [nodeB, hop]
  clear hop
  go_enter Try.func85, Try.ntmps85
  go_wp2
  go_ret2
  exact .inr ⟨step_bad HNB.out _, _, rfl, grown_of_belowT (A2 _ _) _⟩
end
end Go.Proofs.Ytendikiflikobaa
