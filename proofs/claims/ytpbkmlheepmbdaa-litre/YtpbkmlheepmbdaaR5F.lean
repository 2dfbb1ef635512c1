/-
  The program's reading of a node, of a list of nodes; GoodRe of the program.
-/
import Derived.Test.YtpbkmlheepmbdaaR5E
import Derived.Test.YtpbkmlheepmbdaaR5B
namespace Go.Proofs.Ytpbkmlheepmbdaa
open Go.ChangeShapes Go.WideShapes Go.ChangeAt Go.RowKit
theorem nodeB_plain {op : Int} {s : List Int} (h : 0 ≤ arity op) (h2 : op ≠ 2) : nodeB (op, s) = s.isEmpty := by
  cases s with
  | nil => simp [nodeB, h, show goodS ([] : List Int) = true by decide, show allG ([] : List Int) = true by decide]
  | cons x r => simp [nodeB, h2]
/-- What nodeOf answers at a pile of n. -/
def NodeE (x : Nd) (pb n : Nat) (w w' : World) (e : Ending) : Prop :=
  (nodeB x = true ∧ arity x.1 ≤ n ∧ ∃ y U, e = .returned (.tuple #[.pointer (some ⟨y, 0, none⟩), .bool true]) ∧ Pile w' pb U (n - (arity x.1).toNat) ∧ w.grownBy w' (some pb)) ∨
  (¬ (nodeB x = true ∧ arity x.1 ≤ n) ∧ ∃ p, e = .returned (.tuple #[p, .bool false]) ∧ w.grownBy w' (some pb))
theorem grown_of_below5 {w w' : World} (hb : Below w.heap.size w w') (row : Option Nat) : w.grownBy w' row := ⟨hb.os, hb.tape, hb.output, hb.size, fun k hk _ => hb.block k hk⟩
theorem grown_trans5 {a b c : World} {row : Option Nat} (h : a.grownBy b row) (k : b.grownBy c row) : a.grownBy c row :=
  ⟨k.os.trans h.os, k.tape.trans h.tape, k.output.trans h.output, Nat.le_trans h.size k.size, fun i hi hn => (k.block i (Nat.lt_of_lt_of_le hi h.size) hn).trans (h.block i hi hn)⟩
/-- A block that is new has turned. -/
theorem grown_fresh {a b : World} {row : Option Nat} (h : a.grownBy b row) (R o : Nat) (u : Value) (hR : a.heap.size ≤ R) : a.grownBy (b.setCell ⟨R, o, none⟩ u) row :=
  ⟨h.os, h.tape, h.output, Nat.le_trans h.size (grown_set b R o u).size, fun i hi hn => ((grown_set b R o u).block i (Nat.lt_of_lt_of_le hi h.size) (fun e => by have := Option.some.inj e; omega)).trans (h.block i hi hn)⟩
theorem grown_drew {a b : World} {row : Option Nat} (h : a.grownBy b row) (n : Nat) : a.grownBy (b.drewN n) row := grown_trans5 h (grown_of_below5 (below_drewN (Below.refl _ _) _) row)
section
variable (op : Int) (s : List Int) (sa : Option Addr) (sc pb U n : Nat) (w : World)
set_option maxRecDepth 100000 in
set_option maxHeartbeats 4000000 in
theorem node_two (hop : op = 3 ∨ op = 4 ∨ op = 5) (hn : n ≤ 1000) (hP : Pile w pb U n) :
    Calls Try.prog 78 #[.pointer (some ⟨pb, 0, none⟩), .agg #[.int .i64 op, .slice sa s.length sc]] w fun e w' => NodeE (op, s) pb n w w' e := by
  have HP : Hid _ := hP
  have A2 : ∀ o p, Below w.heap.size w ((w.alloc o).alloc p) := fun o p => ((Below.refl _ _).alloc (Nat.le_refl _) o).alloc (by simp) p
  have har : arity op = 2 := by rcases hop with rfl | rfl | rfl <;> rfl
  have HAR : Hid _ := har
  have HNB : Hid (nodeB (op, s) = s.isEmpty) := nodeB_plain (by omega) (by omega)
  have hpw : pb < w.heap.size := Nat.lt_of_lt_of_le hP.lt hP.le
  have hUw : U ≤ w.heap.size := hP.le
  have ne0 : ¬ w.heap.size = pb := by omega
  have ne1 : ¬ w.heap.size + 1 = pb := by omega
  have L2 : ∀ o p, ((w.alloc o).alloc p).heap.size = w.heap.size + 2 := fun o p => by simp
  have K0 : ∀ o p, ((w.alloc o).alloc p).heap[w.heap.size]? = some o := fun o p => (heap_prev _ _ _ (by simp)).trans (heap_last2 _ _ _ rfl)
  have K1 : ∀ o p, ((w.alloc o).alloc p).heap[w.heap.size + 1]? = some p := fun o p => heap_last2 _ _ _ (by simp)
  clear hP har
  rcases n with _ | _ | m
  · rcases hop with rfl | rfl | rfl
    all_goals
      go_enter Try.func78, Try.ntmps78
      go_wp2_with fail
      refine (take_none pb U _ (HP.out.below (A2 _ _))).mono ?_
      rintro e w1 ⟨rfl, rfl⟩
      go_wp2_with fail
      refine (take_none pb U _ (HP.out.below (A2 _ _))).mono ?_
      rintro e w1 ⟨rfl, rfl⟩

      go_wp2
      go_quiet (fail)
      go_wp2
      go_ret2
      exact .inr ⟨by rw [HAR.out]; omega, _, rfl, grown_drew (grown_of_below5 (A2 _ _) _) _⟩
  · rcases hop with rfl | rfl | rfl
    all_goals
      go_enter Try.func78, Try.ntmps78
      go_wp2_with fail
      refine (take_some pb U 0 _ (by omega) (HP.out.below (A2 _ _))).mono ?_
      rintro e w1 ⟨x1, rfl, p1, g1⟩
      have P1 : Hid _ := p1
      have hs1 : w.heap.size + 2 ≤ w1.heap.size := by have := g1.size; rw [L2] at this; exact this
      have G1 : Hid (w.grownBy w1 (some pb)) := grown_trans5 (grown_of_below5 (A2 _ _) _) g1
      have c01 : w1.cell? ⟨w.heap.size, 1, none⟩ = some (.slice sa s.length sc) := (cell_kept g1 (by rw [L2]; omega) ne0 1).trans (cell_of (K0 _ _) 1)
      have c12 : w1.cell? ⟨w.heap.size + 1, 2, none⟩ = some (.pointer none) := (cell_kept g1 (by rw [L2]; omega) ne1 2).trans (cell_of (K1 _ _) 2)
      have c13 : w1.cell? ⟨w.heap.size + 1, 3, none⟩ = some (.pointer none) := (cell_kept g1 (by rw [L2]; omega) ne1 3).trans (cell_of (K1 _ _) 3)
      have f12 : w1.frozen? ⟨w.heap.size + 1, 2, none⟩ = false := (frozen_kept g1 (by rw [L2]; omega) ne1 2).trans (frozen_of_row _ _ _ _ _ (K1 _ _))
      have f13 : w1.frozen? ⟨w.heap.size + 1, 3, none⟩ = false := (frozen_kept g1 (by rw [L2]; omega) ne1 3).trans (frozen_of_row _ _ _ _ _ (K1 _ _))
      clear p1 g1
      go_wp2_with fail
      refine (take_none pb U _ (P1.out.set _ _ _ (by omega))).mono ?_
      rintro e w2 ⟨rfl, rfl⟩

      go_wp2
      go_quiet (fail)
      go_wp2
      go_ret2
      exact .inr ⟨by rw [HAR.out]; omega, _, rfl, grown_drew (grown_fresh (grown_fresh G1.out _ _ _ (by omega)) _ _ _ (by omega)) _⟩
  · rcases s with _ | ⟨z, s⟩
    · rcases hop with rfl | rfl | rfl
      all_goals
        go_enter Try.func78, Try.ntmps78
        go_wp2_with fail
        refine (take_some pb U (m + 1) _ (by omega) (HP.out.below (A2 _ _))).mono ?_
        rintro e w1 ⟨x1, rfl, p1, g1⟩
        have P1 : Hid _ := p1
        have hs1 : w.heap.size + 2 ≤ w1.heap.size := by have := g1.size; rw [L2] at this; exact this
        have G1 : Hid (w.grownBy w1 (some pb)) := grown_trans5 (grown_of_below5 (A2 _ _) _) g1
        have c01 : w1.cell? ⟨w.heap.size, 1, none⟩ = some (.slice sa 0 sc) := (cell_kept g1 (by rw [L2]; omega) ne0 1).trans (cell_of (K0 _ _) 1)
        have c12 : w1.cell? ⟨w.heap.size + 1, 2, none⟩ = some (.pointer none) := (cell_kept g1 (by rw [L2]; omega) ne1 2).trans (cell_of (K1 _ _) 2)
        have c13 : w1.cell? ⟨w.heap.size + 1, 3, none⟩ = some (.pointer none) := (cell_kept g1 (by rw [L2]; omega) ne1 3).trans (cell_of (K1 _ _) 3)
        have f12 : w1.frozen? ⟨w.heap.size + 1, 2, none⟩ = false := (frozen_kept g1 (by rw [L2]; omega) ne1 2).trans (frozen_of_row _ _ _ _ _ (K1 _ _))
        have f13 : w1.frozen? ⟨w.heap.size + 1, 3, none⟩ = false := (frozen_kept g1 (by rw [L2]; omega) ne1 3).trans (frozen_of_row _ _ _ _ _ (K1 _ _))
        clear p1 g1

        go_wp2_with fail
        refine (take_some pb U m _ (by omega) (P1.out.set _ _ _ (by omega))).mono ?_
        rintro e w2 ⟨x2, rfl, p2, g2⟩
        have P2 : Hid _ := p2
        have hs2 : w.heap.size + 2 ≤ w2.heap.size := Nat.le_trans hs1 (Nat.le_trans (by simp [World.setCell]) g2.size)
        have G2 : Hid (w.grownBy w2 (some pb)) := grown_trans5 (grown_fresh G1.out _ _ _ (by omega)) g2
        have lt0 : w.heap.size < (w1.setCell ⟨w.heap.size + 1, 3, none⟩ (.pointer (some ⟨x1, 0, none⟩))).heap.size := by simp [World.setCell]; omega
        have lt1 : w.heap.size + 1 < (w1.setCell ⟨w.heap.size + 1, 3, none⟩ (.pointer (some ⟨x1, 0, none⟩))).heap.size := by simp [World.setCell]; omega
        have d01 : w2.cell? ⟨w.heap.size, 1, none⟩ = some (.slice sa 0 sc) := (cell_kept g2 lt0 ne0 1).trans ((set_other _ _ _ _ _ _ (by omega)).trans c01)
        have d12 : w2.cell? ⟨w.heap.size + 1, 2, none⟩ = some (.pointer none) := (cell_kept g2 lt1 ne1 2).trans ((set_other _ _ _ _ _ _ (by omega)).trans c12)
        have e12 : w2.frozen? ⟨w.heap.size + 1, 2, none⟩ = false := (frozen_kept g2 lt1 ne1 2).trans ((World.frozen?_setCell _ _ _ _).trans f12)
        clear p2 g2 P1 G1 c01 c12 c13 f12 f13 lt0 lt1

        go_wp2
        go_quiet (fail)
        go_wp2
        go_ret2
        exact .inl ⟨HNB.out, by rw [HAR.out]; omega, _, U, rfl, by rw [HAR.out]; exact (P2.out.set _ _ _ (by omega)).below (below_drewN (Below.refl _ _) _), grown_drew (grown_fresh G2.out _ _ _ (by omega)) _⟩
    · have hz : ¬ ((s.length : Int) + 1 = 0) := by omega
      rcases hop with rfl | rfl | rfl
      all_goals
        go_enter Try.func78, Try.ntmps78
        go_wp2_with fail
        refine (take_some pb U (m + 1) _ (by omega) (HP.out.below (A2 _ _))).mono ?_
        rintro e w1 ⟨x1, rfl, p1, g1⟩
        have P1 : Hid _ := p1
        have hs1 : w.heap.size + 2 ≤ w1.heap.size := by have := g1.size; rw [L2] at this; exact this
        have G1 : Hid (w.grownBy w1 (some pb)) := grown_trans5 (grown_of_below5 (A2 _ _) _) g1
        have c01 : w1.cell? ⟨w.heap.size, 1, none⟩ = some (.slice sa (z :: s).length sc) := (cell_kept g1 (by rw [L2]; omega) ne0 1).trans (cell_of (K0 _ _) 1)
        have c12 : w1.cell? ⟨w.heap.size + 1, 2, none⟩ = some (.pointer none) := (cell_kept g1 (by rw [L2]; omega) ne1 2).trans (cell_of (K1 _ _) 2)
        have c13 : w1.cell? ⟨w.heap.size + 1, 3, none⟩ = some (.pointer none) := (cell_kept g1 (by rw [L2]; omega) ne1 3).trans (cell_of (K1 _ _) 3)
        have f12 : w1.frozen? ⟨w.heap.size + 1, 2, none⟩ = false := (frozen_kept g1 (by rw [L2]; omega) ne1 2).trans (frozen_of_row _ _ _ _ _ (K1 _ _))
        have f13 : w1.frozen? ⟨w.heap.size + 1, 3, none⟩ = false := (frozen_kept g1 (by rw [L2]; omega) ne1 3).trans (frozen_of_row _ _ _ _ _ (K1 _ _))
        clear p1 g1

        go_wp2_with fail
        refine (take_some pb U m _ (by omega) (P1.out.set _ _ _ (by omega))).mono ?_
        rintro e w2 ⟨x2, rfl, p2, g2⟩
        have P2 : Hid _ := p2
        have hs2 : w.heap.size + 2 ≤ w2.heap.size := Nat.le_trans hs1 (Nat.le_trans (by simp [World.setCell]) g2.size)
        have G2 : Hid (w.grownBy w2 (some pb)) := grown_trans5 (grown_fresh G1.out _ _ _ (by omega)) g2
        have lt0 : w.heap.size < (w1.setCell ⟨w.heap.size + 1, 3, none⟩ (.pointer (some ⟨x1, 0, none⟩))).heap.size := by simp [World.setCell]; omega
        have lt1 : w.heap.size + 1 < (w1.setCell ⟨w.heap.size + 1, 3, none⟩ (.pointer (some ⟨x1, 0, none⟩))).heap.size := by simp [World.setCell]; omega
        have d01 : w2.cell? ⟨w.heap.size, 1, none⟩ = some (.slice sa (z :: s).length sc) := (cell_kept g2 lt0 ne0 1).trans ((set_other _ _ _ _ _ _ (by omega)).trans c01)
        have d12 : w2.cell? ⟨w.heap.size + 1, 2, none⟩ = some (.pointer none) := (cell_kept g2 lt1 ne1 2).trans ((set_other _ _ _ _ _ _ (by omega)).trans c12)
        have e12 : w2.frozen? ⟨w.heap.size + 1, 2, none⟩ = false := (frozen_kept g2 lt1 ne1 2).trans ((World.frozen?_setCell _ _ _ _).trans f12)
        clear p2 g2 P1 G1 c01 c12 c13 f12 f13 lt0 lt1

        go_wp2
        go_quiet (fail)
        go_wp2
        go_ret2
        exact .inr ⟨by rw [HNB.out]; simp, _, rfl, grown_drew (grown_fresh G2.out _ _ _ (by omega)) _⟩
set_option maxRecDepth 100000 in
set_option maxHeartbeats 4000000 in
theorem node_one (hop : op = 6 ∨ op = 7) (hn : n ≤ 1000) (hP : Pile w pb U n) :
    Calls Try.prog 78 #[.pointer (some ⟨pb, 0, none⟩), .agg #[.int .i64 op, .slice sa s.length sc]] w fun e w' => NodeE (op, s) pb n w w' e := by
  have HP : Hid _ := hP
  have A2 : ∀ o p, Below w.heap.size w ((w.alloc o).alloc p) := fun o p => ((Below.refl _ _).alloc (Nat.le_refl _) o).alloc (by simp) p
  have har : arity op = 1 := by rcases hop with rfl | rfl <;> rfl
  have HAR : Hid _ := har
  have HNB : Hid (nodeB (op, s) = s.isEmpty) := nodeB_plain (by omega) (by omega)
  have hpw : pb < w.heap.size := Nat.lt_of_lt_of_le hP.lt hP.le
  have hUw : U ≤ w.heap.size := hP.le
  have ne0 : ¬ w.heap.size = pb := by omega
  have ne1 : ¬ w.heap.size + 1 = pb := by omega
  have L2 : ∀ o p, ((w.alloc o).alloc p).heap.size = w.heap.size + 2 := fun o p => by simp
  have K0 : ∀ o p, ((w.alloc o).alloc p).heap[w.heap.size]? = some o := fun o p => (heap_prev _ _ _ (by simp)).trans (heap_last2 _ _ _ rfl)
  have K1 : ∀ o p, ((w.alloc o).alloc p).heap[w.heap.size + 1]? = some p := fun o p => heap_last2 _ _ _ (by simp)
  clear hP har
  rcases n with _ | m
  · rcases hop with rfl | rfl
    all_goals
      go_enter Try.func78, Try.ntmps78
      go_wp2_with fail
      refine (take_none pb U _ (HP.out.below (A2 _ _))).mono ?_
      rintro e w1 ⟨rfl, rfl⟩

      go_wp2
      go_quiet (fail)
      go_wp2
      go_ret2
      exact .inr ⟨by rw [HAR.out]; omega, _, rfl, grown_drew (grown_of_below5 (A2 _ _) _) _⟩
  · rcases s with _ | ⟨z, s⟩
    · rcases hop with rfl | rfl
      all_goals
        go_enter Try.func78, Try.ntmps78
        go_wp2_with fail
        refine (take_some pb U m _ (by omega) (HP.out.below (A2 _ _))).mono ?_
        rintro e w1 ⟨x1, rfl, p1, g1⟩
        have P1 : Hid _ := p1
        have hs1 : w.heap.size + 2 ≤ w1.heap.size := by have := g1.size; rw [L2] at this; exact this
        have G1 : Hid (w.grownBy w1 (some pb)) := grown_trans5 (grown_of_below5 (A2 _ _) _) g1
        have c01 : w1.cell? ⟨w.heap.size, 1, none⟩ = some (.slice sa 0 sc) := (cell_kept g1 (by rw [L2]; omega) ne0 1).trans (cell_of (K0 _ _) 1)
        have c12 : w1.cell? ⟨w.heap.size + 1, 2, none⟩ = some (.pointer none) := (cell_kept g1 (by rw [L2]; omega) ne1 2).trans (cell_of (K1 _ _) 2)
        have c13 : w1.cell? ⟨w.heap.size + 1, 3, none⟩ = some (.pointer none) := (cell_kept g1 (by rw [L2]; omega) ne1 3).trans (cell_of (K1 _ _) 3)
        have f12 : w1.frozen? ⟨w.heap.size + 1, 2, none⟩ = false := (frozen_kept g1 (by rw [L2]; omega) ne1 2).trans (frozen_of_row _ _ _ _ _ (K1 _ _))
        have f13 : w1.frozen? ⟨w.heap.size + 1, 3, none⟩ = false := (frozen_kept g1 (by rw [L2]; omega) ne1 3).trans (frozen_of_row _ _ _ _ _ (K1 _ _))
        clear p1 g1

        go_wp2
        go_quiet (fail)
        go_wp2
        go_ret2
        exact .inl ⟨HNB.out, by rw [HAR.out]; omega, _, U, rfl, by rw [HAR.out]; exact (P1.out.set _ _ _ (by omega)).below (below_drewN (Below.refl _ _) _), grown_drew (grown_fresh G1.out _ _ _ (by omega)) _⟩
    · have hz : ¬ ((s.length : Int) + 1 = 0) := by omega
      rcases hop with rfl | rfl
      all_goals
        go_enter Try.func78, Try.ntmps78
        go_wp2_with fail
        refine (take_some pb U m _ (by omega) (HP.out.below (A2 _ _))).mono ?_
        rintro e w1 ⟨x1, rfl, p1, g1⟩
        have P1 : Hid _ := p1
        have hs1 : w.heap.size + 2 ≤ w1.heap.size := by have := g1.size; rw [L2] at this; exact this
        have G1 : Hid (w.grownBy w1 (some pb)) := grown_trans5 (grown_of_below5 (A2 _ _) _) g1
        have c01 : w1.cell? ⟨w.heap.size, 1, none⟩ = some (.slice sa (z :: s).length sc) := (cell_kept g1 (by rw [L2]; omega) ne0 1).trans (cell_of (K0 _ _) 1)
        have c12 : w1.cell? ⟨w.heap.size + 1, 2, none⟩ = some (.pointer none) := (cell_kept g1 (by rw [L2]; omega) ne1 2).trans (cell_of (K1 _ _) 2)
        have c13 : w1.cell? ⟨w.heap.size + 1, 3, none⟩ = some (.pointer none) := (cell_kept g1 (by rw [L2]; omega) ne1 3).trans (cell_of (K1 _ _) 3)
        have f12 : w1.frozen? ⟨w.heap.size + 1, 2, none⟩ = false := (frozen_kept g1 (by rw [L2]; omega) ne1 2).trans (frozen_of_row _ _ _ _ _ (K1 _ _))
        have f13 : w1.frozen? ⟨w.heap.size + 1, 3, none⟩ = false := (frozen_kept g1 (by rw [L2]; omega) ne1 3).trans (frozen_of_row _ _ _ _ _ (K1 _ _))
        clear p1 g1

        go_wp2
        go_quiet (fail)
        go_wp2
        go_ret2
        exact .inr ⟨by rw [HNB.out]; simp, _, rfl, grown_drew (grown_fresh G1.out _ _ _ (by omega)) _⟩
set_option maxRecDepth 100000 in
set_option maxHeartbeats 4000000 in
theorem node_nil (hop : op = 1) (hP : Pile w pb U n) :
    Calls Try.prog 78 #[.pointer (some ⟨pb, 0, none⟩), .agg #[.int .i64 op, .slice sa s.length sc]] w fun e w' => NodeE (op, s) pb n w w' e := by
  have HP : Hid _ := hP
  have A2 : ∀ o p, Below w.heap.size w ((w.alloc o).alloc p) := fun o p => ((Below.refl _ _).alloc (Nat.le_refl _) o).alloc (by simp) p
  have har : arity op = 0 := by rw [hop]; rfl
  have HAR : Hid _ := har
  have HNB : Hid (nodeB (op, s) = s.isEmpty) := nodeB_plain (by omega) (by omega)
  have hpw : pb < w.heap.size := Nat.lt_of_lt_of_le hP.lt hP.le
  have hUw : U ≤ w.heap.size := hP.le
  have ne0 : ¬ w.heap.size = pb := by omega
  have ne1 : ¬ w.heap.size + 1 = pb := by omega
  have L2 : ∀ o p, ((w.alloc o).alloc p).heap.size = w.heap.size + 2 := fun o p => by simp
  have K0 : ∀ o p, ((w.alloc o).alloc p).heap[w.heap.size]? = some o := fun o p => (heap_prev _ _ _ (by simp)).trans (heap_last2 _ _ _ rfl)
  have K1 : ∀ o p, ((w.alloc o).alloc p).heap[w.heap.size + 1]? = some p := fun o p => heap_last2 _ _ _ (by simp)
  clear hP har
  subst hop
  rcases s with _ | ⟨z, s⟩
  · go_enter Try.func78, Try.ntmps78
    go_wp2
    go_quiet (fail)
    go_wp2
    go_ret2
    exact .inl ⟨HNB.out, by rw [HAR.out]; omega, _, U, rfl, by rw [HAR.out]; exact (HP.out.below (A2 _ _)).below (below_drewN (Below.refl _ _) _), grown_drew (grown_of_below5 (A2 _ _) _) _⟩
  · have hz : ¬ ((s.length : Int) + 1 = 0) := by omega
    go_enter Try.func78, Try.ntmps78
    go_wp2
    go_quiet (fail)
    go_wp2
    go_ret2
    exact .inr ⟨by rw [HNB.out]; simp, _, rfl, grown_drew (grown_of_below5 (A2 _ _) _) _⟩
set_option maxRecDepth 100000 in
set_option maxHeartbeats 4000000 in
theorem node_else (hop : arity op = -1) :
    Calls Try.prog 78 #[.pointer (some ⟨pb, 0, none⟩), .agg #[.int .i64 op, .slice sa s.length sc]] w fun e w' => NodeE (op, s) pb n w w' e := by
  have A2 : ∀ o p, Below w.heap.size w ((w.alloc o).alloc p) := fun o p => ((Below.refl _ _).alloc (Nat.le_refl _) o).alloc (by simp) p
  have h1 : ¬ op = 1 := by rintro rfl; simp [arity] at hop
  have h2 : ¬ op = 2 := by rintro rfl; simp [arity] at hop
  have h3 : ¬ op = 3 := by rintro rfl; simp [arity] at hop
  have h4 : ¬ op = 4 := by rintro rfl; simp [arity] at hop
  have h5 : ¬ op = 5 := by rintro rfl; simp [arity] at hop
  have h6 : ¬ op = 6 := by rintro rfl; simp [arity] at hop
  have h7 : ¬ op = 7 := by rintro rfl; simp [arity] at hop
  have HNB : Hid (nodeB (op, s) = false) := by show nodeB (op, s) = false; simp [nodeB, hop]
  clear hop
  go_enter Try.func78, Try.ntmps78
  go_wp2
  go_ret2
  exact .inr ⟨by rw [HNB.out]; simp, _, rfl, grown_of_below5 (A2 _ _) _⟩
end
end Go.Proofs.Ytpbkmlheepmbdaa
