/-
  Buffers: TakeBuf of the specification.
-/
import Derived.Test.YtklgagonbehpeaaX1H
namespace Go.Proofs.Ytklgagonbehpeaa
open Go.ChangeShapes Go.WideShapes Go.ChangeAt Go.RowKit
theorem goodBf_drop {M G : Int} {R L : List Int} {k : Nat} (h : goodBf M G R L = true) (hk : k ≤ R.length) (hs : G + sumL (L.take k) ≤ 1000000) : goodBf M (G + sumL (L.take k)) (R.drop k) (L.drop k) = true := by
  obtain ⟨g1, g2, g3, g4, g5, g6, g7⟩ := goodBf_iff.1 h
  have := inBx_sum (inBx_take g5 k)
  refine goodBf_iff.2 ⟨g1, by simp; omega, allGx_drop g3 k, by simp; omega, inBx_drop g5 k, by omega, hs⟩
theorem lenDrop (A : List Int) (k : Nat) (h : A.length ≤ 1048576) : (A.drop k).length ≤ 1048576 := by rw [List.length_drop]; omega
theorem goodBf_over {M G : Int} {R L : List Int} {k : Nat} (hs : ¬ G + sumL (L.take k) ≤ 1000000) : goodBf M (G + sumL (L.take k)) (R.drop k) (L.drop k) = false := by
  rw [Bool.eq_false_iff]
  intro h
  exact hs (goodBf_iff.1 h).2.2.2.2.2.2
set_option maxRecDepth 100000 in
set_option maxHeartbeats 4000000 in
theorem sTake_bad (M G : Int) (R L : List Int) (s a : Option Addr) (cs ca : Nat) (K : Int) (w : World) (hR : R.length ≤ 1048576) (hL : L.length ≤ 1048576) (iR : IntsAt w s R) (iL : IntsAt w a L) (hg : goodBf M G R L = false) :
    Calls Try.prog 21 #[.agg #[.int .i64 M, .slice s R.length cs, .slice a L.length ca, .int .i64 G], .int .i64 K] w fun r w' => ∃ v0 v1 v2, r = .returned (.tuple #[.agg #[.int .i64 (0), v0, v1, .int .i64 (0)], v2, .bool false]) ∧ Own3 w' w.heap.size w'.heap.size v0 v1 v2 [] [] [] ∧ Below w.heap.size w w' := by
  have A2 : ∀ o p, Below w.heap.size w ((w.alloc o).alloc p) := fun o p => ((Below.refl _ _).alloc (Nat.le_refl _) o).alloc (by simp) p
  have HR : Hid (∀ o p, IntsAt ((w.alloc o).alloc p) s R) := fun o p => iR.keepB (A2 o p)
  have HL : Hid (∀ o p, IntsAt ((w.alloc o).alloc p) a L) := fun o p => iL.keepB (A2 o p)
  have HG : Hid _ := hg
  clear iR iL hg
  go_enter Try.func21, Try.ntmps21
  go_wp2_with fail
  refine (sgoodBf_any M G R L s a cs ca _ hR hL (HR.out _ _) (HL.out _ _)).mono ?_
  rintro r w1 ⟨rfl, b1⟩
  rw [HG.out]
  have hs1 : w.heap.size + 1 < w1.heap.size := Nat.lt_of_lt_of_le (by simp) b1.size
  have hz1 : w1.heap[w.heap.size + 1]? = some (.cells #[.int .i64 0, .slice none 0 0, .slice none 0 0, .int .i64 0] 26) := (b1.block (w.heap.size + 1) (by simp)).trans (heap_lastB _ _ _ (by simp))
  have B1 : Hid (Below w.heap.size w w1) := (A2 _ _).trans (b1.mono (A2 _ _).size)
  have hz0 : w1.heap[w.heap.size]? = some (.cells #[.int .i64 M, .slice s R.length cs, .slice a L.length ca, .int .i64 G] 26) := (b1.block w.heap.size (by simp; omega)).trans ((heap_prevB _ _ _ (by simp)).trans (heap_lastB _ _ _ rfl))
  have yy0 : w1.cell? ⟨w.heap.size + 1, 0, none⟩ = some (.int .i64 0) := cell_ofB hz1 0
  have ff0 : w1.frozen? ⟨w.heap.size + 1, 0, none⟩ = false := frozen_of_row w1 _ _ _ _ hz1
  have yy1 : w1.cell? ⟨w.heap.size + 1, 1, none⟩ = some (.slice none 0 0) := cell_ofB hz1 1
  have ff1 : w1.frozen? ⟨w.heap.size + 1, 1, none⟩ = false := frozen_of_row w1 _ _ _ _ hz1
  have yy2 : w1.cell? ⟨w.heap.size + 1, 2, none⟩ = some (.slice none 0 0) := cell_ofB hz1 2
  have ff2 : w1.frozen? ⟨w.heap.size + 1, 2, none⟩ = false := frozen_of_row w1 _ _ _ _ hz1
  have yy3 : w1.cell? ⟨w.heap.size + 1, 3, none⟩ = some (.int .i64 0) := cell_ofB hz1 3
  have ff3 : w1.frozen? ⟨w.heap.size + 1, 3, none⟩ = false := frozen_of_row w1 _ _ _ _ hz1
  have HZ1 : Hid _ := hz1
  clear b1 hz1 hz0 A2 HR HL
  go_wp2
  obtain ⟨w9, hw9⟩ : ∃ w9, w9 = put4 w1 (w.heap.size + 1) (.int .i64 0) (.slice none 0 0) (.slice none 0 0) (.int .i64 0) := ⟨_, rfl⟩
  have hb9 : w9.heap[w.heap.size + 1]? = some (.cells #[.int .i64 0, .slice none 0 0, .slice none 0 0, .int .i64 0] 26) := by rw [hw9]; exact put4_same HZ1.out _ _ _ _
  have bel : Below w.heap.size w w9 := by rw [hw9]; exact put4_below B1.out (by omega) (B1.out).size _ _ _ _
  have o9 : Own3 w9 w.heap.size w9.heap.size (.slice none 0 0) (.slice none 0 0) (.slice none 0 0) [] [] [] := by
    rw [hw9]
    exact (Own3.mk _ (World.ownsRow_nil _ w.heap.size _ _) (World.ownsRow_nil _ w.heap.size _ _) (World.ownsRow_nil _ w.heap.size _ _) (Nat.le_refl _) (Nat.le_refl _) (Nat.le_refl _) (apart_nil _) (apart_nil _) (apart_nil _))
  unfold put4 at hw9
  rw [← hw9]
  have r0 : w9.cell? ⟨w.heap.size + 1, 0, none⟩ = some (.int .i64 0) := cell_ofB hb9 0
  have r1 : w9.cell? ⟨w.heap.size + 1, 1, none⟩ = some (.slice none 0 0) := cell_ofB hb9 1
  have r2 : w9.cell? ⟨w.heap.size + 1, 2, none⟩ = some (.slice none 0 0) := cell_ofB hb9 2
  have r3 : w9.cell? ⟨w.heap.size + 1, 3, none⟩ = some (.int .i64 0) := cell_ofB hb9 3
  exact bodyPost_ret (v := .tuple #[.agg #[.int .i64 0, .slice none 0 0, .slice none 0 0, .int .i64 0], .slice none 0 0, .bool false]) (by simp [results, Try.results21, go_sem, r0, r1, r2, r3]) rfl ⟨_, _, _, rfl, o9, bel⟩
set_option maxRecDepth 100000 in
set_option maxHeartbeats 4000000 in
theorem sTake_none (M G : Int) (R L : List Int) (s a : Option Addr) (cs ca : Nat) (K : Int) (w : World) (hR : R.length ≤ 1048576) (hL : L.length ≤ 1048576) (iR : IntsAt w s R) (iL : IntsAt w a L) (hg : goodBf M G R L = true) (hk : ¬ (0 ≤ K ∧ K ≤ R.length)) :
    Calls Try.prog 21 #[.agg #[.int .i64 M, .slice s R.length cs, .slice a L.length ca, .int .i64 G], .int .i64 K] w fun r w' => ∃ v0 v1 v2, r = .returned (.tuple #[.agg #[.int .i64 (0), v0, v1, .int .i64 (0)], v2, .bool false]) ∧ Own3 w' w.heap.size w'.heap.size v0 v1 v2 [] [] [] ∧ Below w.heap.size w w' := by
  have A2 : ∀ o p, Below w.heap.size w ((w.alloc o).alloc p) := fun o p => ((Below.refl _ _).alloc (Nat.le_refl _) o).alloc (by simp) p
  have HR : Hid (∀ o p, IntsAt ((w.alloc o).alloc p) s R) := fun o p => iR.keepB (A2 o p)
  have HL : Hid (∀ o p, IntsAt ((w.alloc o).alloc p) a L) := fun o p => iL.keepB (A2 o p)
  have HG : Hid _ := hg
  have HI : Hid (¬ ((0:Int) ≤ K ∧ K ≤ (R.length : Int))) := hk
  clear iR iL hg hk
  go_enter Try.func21, Try.ntmps21
  go_wp2_with fail
  refine (sgoodBf_any M G R L s a cs ca _ hR hL (HR.out _ _) (HL.out _ _)).mono ?_
  rintro r w1 ⟨rfl, b1⟩
  rw [HG.out]
  have hs1 : w.heap.size + 1 < w1.heap.size := Nat.lt_of_lt_of_le (by simp) b1.size
  have hz1 : w1.heap[w.heap.size + 1]? = some (.cells #[.int .i64 0, .slice none 0 0, .slice none 0 0, .int .i64 0] 26) := (b1.block (w.heap.size + 1) (by simp)).trans (heap_lastB _ _ _ (by simp))
  have B1 : Hid (Below w.heap.size w w1) := (A2 _ _).trans (b1.mono (A2 _ _).size)
  have hz0 : w1.heap[w.heap.size]? = some (.cells #[.int .i64 M, .slice s R.length cs, .slice a L.length ca, .int .i64 G] 26) := (b1.block w.heap.size (by simp; omega)).trans ((heap_prevB _ _ _ (by simp)).trans (heap_lastB _ _ _ rfl))
  have yy0 : w1.cell? ⟨w.heap.size + 1, 0, none⟩ = some (.int .i64 0) := cell_ofB hz1 0
  have ff0 : w1.frozen? ⟨w.heap.size + 1, 0, none⟩ = false := frozen_of_row w1 _ _ _ _ hz1
  have yy1 : w1.cell? ⟨w.heap.size + 1, 1, none⟩ = some (.slice none 0 0) := cell_ofB hz1 1
  have ff1 : w1.frozen? ⟨w.heap.size + 1, 1, none⟩ = false := frozen_of_row w1 _ _ _ _ hz1
  have yy2 : w1.cell? ⟨w.heap.size + 1, 2, none⟩ = some (.slice none 0 0) := cell_ofB hz1 2
  have ff2 : w1.frozen? ⟨w.heap.size + 1, 2, none⟩ = false := frozen_of_row w1 _ _ _ _ hz1
  have yy3 : w1.cell? ⟨w.heap.size + 1, 3, none⟩ = some (.int .i64 0) := cell_ofB hz1 3
  have ff3 : w1.frozen? ⟨w.heap.size + 1, 3, none⟩ = false := frozen_of_row w1 _ _ _ _ hz1
  have c0 : w1.cell? ⟨w.heap.size, 0, none⟩ = some (.int .i64 M) := cell_ofB hz0 0
  have c1 : w1.cell? ⟨w.heap.size, 1, none⟩ = some (.slice s R.length cs) := cell_ofB hz0 1
  have c2 : w1.cell? ⟨w.heap.size, 2, none⟩ = some (.slice a L.length ca) := cell_ofB hz0 2
  have c3 : w1.cell? ⟨w.heap.size, 3, none⟩ = some (.int .i64 G) := cell_ofB hz0 3
  have HZ1 : Hid _ := hz1
  clear b1 hz1 hz0 A2 HR HL
  go_wp2_with (first | (go_at_call 49; refine (in_no HI.out _).mono ?_; rintro r w' ⟨rfl, rfl⟩) | fail)
  obtain ⟨w9, hw9⟩ : ∃ w9, w9 = put4 w1 (w.heap.size + 1) (.int .i64 0) (.slice none 0 0) (.slice none 0 0) (.int .i64 0) := ⟨_, rfl⟩
  have hb9 : w9.heap[w.heap.size + 1]? = some (.cells #[.int .i64 0, .slice none 0 0, .slice none 0 0, .int .i64 0] 26) := by rw [hw9]; exact put4_same HZ1.out _ _ _ _
  have bel : Below w.heap.size w w9 := by rw [hw9]; exact put4_below B1.out (by omega) (B1.out).size _ _ _ _
  have o9 : Own3 w9 w.heap.size w9.heap.size (.slice none 0 0) (.slice none 0 0) (.slice none 0 0) [] [] [] := by
    rw [hw9]
    exact (Own3.mk _ (World.ownsRow_nil _ w.heap.size _ _) (World.ownsRow_nil _ w.heap.size _ _) (World.ownsRow_nil _ w.heap.size _ _) (Nat.le_refl _) (Nat.le_refl _) (Nat.le_refl _) (apart_nil _) (apart_nil _) (apart_nil _))
  unfold put4 at hw9
  rw [← hw9]
  have r0 : w9.cell? ⟨w.heap.size + 1, 0, none⟩ = some (.int .i64 0) := cell_ofB hb9 0
  have r1 : w9.cell? ⟨w.heap.size + 1, 1, none⟩ = some (.slice none 0 0) := cell_ofB hb9 1
  have r2 : w9.cell? ⟨w.heap.size + 1, 2, none⟩ = some (.slice none 0 0) := cell_ofB hb9 2
  have r3 : w9.cell? ⟨w.heap.size + 1, 3, none⟩ = some (.int .i64 0) := cell_ofB hb9 3
  exact bodyPost_ret (v := .tuple #[.agg #[.int .i64 0, .slice none 0 0, .slice none 0 0, .int .i64 0], .slice none 0 0, .bool false]) (by simp [results, Try.results21, go_sem, r0, r1, r2, r3]) rfl ⟨_, _, _, rfl, o9, bel⟩
set_option maxRecDepth 100000 in
set_option maxHeartbeats 4000000 in
theorem sTake_yes (M G : Int) (R L : List Int) (s a : Option Addr) (cs ca : Nat) (k : Nat) (w : World) (hR : R.length ≤ 1048576) (hL : L.length ≤ 1048576) (iR : Sl w s cs R) (iL : Sl w a ca L) (hg : goodBf M G R L = true) (hk : k ≤ R.length) (hs : G + sumL (L.take k) ≤ 1000000) :
    Calls Try.prog 21 #[.agg #[.int .i64 M, .slice s R.length cs, .slice a L.length ca, .int .i64 G], .int .i64 k] w fun r w' => ∃ v0 v1 v2, r = .returned (.tuple #[.agg #[.int .i64 (M), v0, v1, .int .i64 (G + sumL (L.take k))], v2, .bool true]) ∧ Own3 w' w.heap.size w'.heap.size v0 v1 v2 (R.drop k) (L.drop k) (R.take k) ∧ Below w.heap.size w w' := by
  have A2 : ∀ o p, Below w.heap.size w ((w.alloc o).alloc p) := fun o p => ((Below.refl _ _).alloc (Nat.le_refl _) o).alloc (by simp) p
  have HR : Hid (∀ o p, IntsAt ((w.alloc o).alloc p) s R) := fun o p => iR.2.2.keepB (A2 o p)
  have HL : Hid (∀ o p, IntsAt ((w.alloc o).alloc p) a L) := fun o p => iL.2.2.keepB (A2 o p)
  have HSR : Hid (∀ w', Below w.heap.size w w' → Sl w' s cs R) := fun w' h => ⟨iR.1, iR.2.1, IntsAt.keepB iR.2.2 h⟩
  have HSL : Hid (∀ w', Below w.heap.size w w' → Sl w' a ca L) := fun w' h => ⟨iL.1, iL.2.1, IntsAt.keepB iL.2.2 h⟩
  have HG : Hid _ := hg
  have HI : Hid ((0:Int) ≤ (k:Int) ∧ (k:Int) ≤ (R.length : Int)) := ⟨by omega, by omega⟩
  obtain ⟨g1, g2, g3, g4, g5, g6⟩ := goodBf_iff.1 hg
  have hkL : k ≤ L.length := by omega
  have G5 : Hid _ := g5
  have G6 : Hid _ := g6
  have HQ1 : Hid ((R.drop k).length ≤ 1048576) := (lenDrop R k hR)
  have HQ2 : Hid ((L.drop k).length ≤ 1048576) := (lenDrop L k hL)
  have HQ3 : Hid ((R.take k).length ≤ 1048576) := (Nat.le_trans (List.length_take_le' ..) hR)
  have HGD : Hid (goodBf M (G + sumL (L.take k)) (R.drop k) (L.drop k) = true) := goodBf_drop hg hk hs
  have hR2 : R.length ≤ 2097152 := by omega
  have hL2 : L.length ≤ 2097152 := by omega
  clear hg g1 g2 g3 g4 g5 g6 hs
  go_enter Try.func21, Try.ntmps21
  go_wp2_with fail
  refine (sgoodBf_any M G R L s a cs ca _ hR hL (HR.out _ _) (HL.out _ _)).mono ?_
  rintro r w1 ⟨rfl, b1⟩
  rw [HG.out]
  have hs1 : w.heap.size + 1 < w1.heap.size := Nat.lt_of_lt_of_le (by simp) b1.size
  have hz1 : w1.heap[w.heap.size + 1]? = some (.cells #[.int .i64 0, .slice none 0 0, .slice none 0 0, .int .i64 0] 26) := (b1.block (w.heap.size + 1) (by simp)).trans (heap_lastB _ _ _ (by simp))
  have B1 : Hid (Below w.heap.size w w1) := (A2 _ _).trans (b1.mono (A2 _ _).size)
  have hz0 : w1.heap[w.heap.size]? = some (.cells #[.int .i64 M, .slice s R.length cs, .slice a L.length ca, .int .i64 G] 26) := (b1.block w.heap.size (by simp; omega)).trans ((heap_prevB _ _ _ (by simp)).trans (heap_lastB _ _ _ rfl))
  have c0 : w1.cell? ⟨w.heap.size, 0, none⟩ = some (.int .i64 M) := cell_ofB hz0 0
  have c1 : w1.cell? ⟨w.heap.size, 1, none⟩ = some (.slice s R.length cs) := cell_ofB hz0 1
  have c2 : w1.cell? ⟨w.heap.size, 2, none⟩ = some (.slice a L.length ca) := cell_ofB hz0 2
  have c3 : w1.cell? ⟨w.heap.size, 3, none⟩ = some (.int .i64 G) := cell_ofB hz0 3
  clear iR iL
  have HZ1 : Hid (w1.heap[w.heap.size + 1]? = some (.cells #[.int .i64 0, .slice none 0 0, .slice none 0 0, .int .i64 0] 26)) := hz1
  have HZ0 : Hid (w1.heap[w.heap.size]? = some (.cells #[.int .i64 M, .slice s R.length cs, .slice a L.length ca, .int .i64 G] 26)) := hz0
  clear b1 hz1 hz0 A2 HR HL
  go_wp2_with (first | (go_at_call 49; refine (in_yes HI.out _).mono ?_; rintro r w' ⟨rfl, rfl⟩) | fail)
  refine (sdrop_any M G R L s a cs ca k w1 hR2 hL2 (HSR.out _ B1.out) (HSL.out _ B1.out) hk hkL G5.out G6.out HQ1.out HQ2.out HQ3.out).mono ?_
  rintro r w3 ⟨v0, v1, v2, rfl, o3, b3⟩
  obtain ⟨va, vb, vc, xa, xb, xc, rfl, rfl, rfl⟩ := o3.form
  have hz3 : w3.heap[w.heap.size + 1]? = some (.cells #[.int .i64 0, .slice none 0 0, .slice none 0 0, .int .i64 0] 26) := (b3.block (w.heap.size + 1) hs1).trans HZ1.out
  have hs3 : w.heap.size + 1 < w3.heap.size := Nat.lt_of_lt_of_le hs1 b3.size
  have B3 : Hid (Below w.heap.size w w3) := B1.out.trans (b3.mono B1.out.size)
  have O3 : Hid (Own3 w3 (w.heap.size + 2) w3.heap.size (.slice va (R.length - k) xa) (.slice vb (L.length - k) xb) (.slice vc (R.take k).length xc) (R.drop k) (L.drop k) (R.take k)) := by
    have h := o3.mono (b := w.heap.size + 2) hs1
    simp only [List.length_drop] at h
    exact h
  have HZ3 : Hid _ := hz3
  have HKK : Hid ((R.take k).length = k) := List.length_take_of_le hk
  generalize hy : sumL (L.take k) = y at *
  have HY : Hid (sumL (L.take k) = y) := hy
  have BA : Hid (∀ o, Below w3.heap.size w3 (w3.alloc o)) := fun o => (Below.refl _ _).alloc (Nat.le_refl _) o
  have HGC : Hid (∀ o, Calls Try.prog 16 #[.agg #[.int .i64 M, .slice va (R.length - k) xa, .slice vb (L.length - k) xb, .int .i64 (G + y)]] (w3.alloc o) fun r w' => r = .returned (.bool (goodBf M (G + y) (R.drop k) (L.drop k))) ∧ Below (w3.alloc o).heap.size (w3.alloc o) w') := fun o => by
    have h := sgoodBf_any M (G + y) (R.drop k) (L.drop k) va vb xa xb (w3.alloc o) HQ1.out HQ2.out (IntsAt.keepB o3.at.1 (BA.out o)) (IntsAt.keepB o3.at.2.1 (BA.out o))
    simp only [List.length_drop] at h
    exact h
  clear hy b3 hz3 o3
  go_wp2_with fail
  refine Calls.mono (HGC.out _) ?_
  rintro r w4 ⟨rfl, b4⟩
  rw [HGD.out]
  have hz4 : w4.heap[w.heap.size + 1]? = some (.cells #[.int .i64 0, .slice none 0 0, .slice none 0 0, .int .i64 0] 26) := (b4.block (w.heap.size + 1) (by simp; omega)).trans ((heap_prevB _ _ _ hs3).trans HZ3.out)
  have hd4 : w4.heap[w3.heap.size]? = some (.cells #[.int .i64 M, .slice va (R.length - k) xa, .slice vb (L.length - k) xb, .int .i64 (G + y)] 26) := (b4.block w3.heap.size (by simp)).trans (heap_lastB _ _ _ rfl)
  have B4 : Hid (Below w.heap.size w w4) := (B3.out.trans ((BA.out _).mono B3.out.size)).trans (b4.mono (Nat.le_trans B3.out.size (by simp)))
  have O4 : Hid (Own3 w4 (w.heap.size + 2) w4.heap.size (.slice va (R.length - k) xa) (.slice vb (L.length - k) xb) (.slice vc (R.take k).length xc) (R.drop k) (L.drop k) (R.take k)) := by
    have h := (O3.out.keepB (BA.out _)).keepB b4
    have hsz : w3.heap.size ≤ w4.heap.size := Nat.le_trans (by simp) b4.size
    exact ⟨h.1, ⟨fun g e => Nat.lt_of_lt_of_le (h.2.1.1 g e) hsz, fun g e => Nat.lt_of_lt_of_le (h.2.1.2.1 g e) hsz, fun g e => Nat.lt_of_lt_of_le (h.2.1.2.2 g e) hsz⟩, h.2.2⟩
  have yy0 : w4.cell? ⟨w.heap.size + 1, 0, none⟩ = some (.int .i64 0) := cell_ofB hz4 0
  have ff0 : w4.frozen? ⟨w.heap.size + 1, 0, none⟩ = false := frozen_of_row w4 _ _ _ _ hz4
  have yy1 : w4.cell? ⟨w.heap.size + 1, 1, none⟩ = some (.slice none 0 0) := cell_ofB hz4 1
  have ff1 : w4.frozen? ⟨w.heap.size + 1, 1, none⟩ = false := frozen_of_row w4 _ _ _ _ hz4
  have yy2 : w4.cell? ⟨w.heap.size + 1, 2, none⟩ = some (.slice none 0 0) := cell_ofB hz4 2
  have ff2 : w4.frozen? ⟨w.heap.size + 1, 2, none⟩ = false := frozen_of_row w4 _ _ _ _ hz4
  have yy3 : w4.cell? ⟨w.heap.size + 1, 3, none⟩ = some (.int .i64 0) := cell_ofB hz4 3
  have ff3 : w4.frozen? ⟨w.heap.size + 1, 3, none⟩ = false := frozen_of_row w4 _ _ _ _ hz4
  have e0 : w4.cell? ⟨w3.heap.size, 0, none⟩ = some (.int .i64 M) := cell_ofB hd4 0
  have e1 : w4.cell? ⟨w3.heap.size, 1, none⟩ = some (.slice va (R.length - k) xa) := cell_ofB hd4 1
  have e2 : w4.cell? ⟨w3.heap.size, 2, none⟩ = some (.slice vb (L.length - k) xb) := cell_ofB hd4 2
  have e3 : w4.cell? ⟨w3.heap.size, 3, none⟩ = some (.int .i64 (G + y)) := cell_ofB hd4 3
  have HZ4 : Hid _ := hz4
  clear b4 hz4 hd4 HGC
  go_wp2
  obtain ⟨w9, hw9⟩ : ∃ w9, w9 = put4 w4 (w.heap.size + 1) (.int .i64 M) (.slice va (R.length - k) xa) (.slice vb (L.length - k) xb) (.int .i64 (G + y)) := ⟨_, rfl⟩
  have hb9 : w9.heap[w.heap.size + 1]? = some (.cells #[.int .i64 M, .slice va (R.length - k) xa, .slice vb (L.length - k) xb, .int .i64 (G + y)] 26) := by rw [hw9]; exact put4_same HZ4.out _ _ _ _
  have bel : Below w.heap.size w w9 := by rw [hw9]; exact put4_below B4.out (by omega) (B4.out).size _ _ _ _
  have o9 : Own3 w9 w.heap.size w9.heap.size (.slice va (R.length - k) xa) (.slice vb (L.length - k) xb) (.slice vc (R.take k).length xc) (R.drop k) (L.drop k) (R.take k) := by
    rw [hw9]
    rw [put4_size]
    exact (put4_own3 O4.out (b := w.heap.size + 1) (by omega) _ _ _ _).mono (by omega)
  unfold put4 at hw9
  rw [← hw9]
  have r0 : w9.cell? ⟨w.heap.size + 1, 0, none⟩ = some (.int .i64 M) := cell_ofB hb9 0
  have r1 : w9.cell? ⟨w.heap.size + 1, 1, none⟩ = some (.slice va (R.length - k) xa) := cell_ofB hb9 1
  have r2 : w9.cell? ⟨w.heap.size + 1, 2, none⟩ = some (.slice vb (L.length - k) xb) := cell_ofB hb9 2
  have r3 : w9.cell? ⟨w.heap.size + 1, 3, none⟩ = some (.int .i64 (G + y)) := cell_ofB hb9 3
  exact bodyPost_ret (v := .tuple #[.agg #[.int .i64 M, .slice va (R.length - k) xa, .slice vb (L.length - k) xb, .int .i64 (G + y)], .slice vc (R.take k).length xc, .bool true]) (by simp [results, Try.results21, go_sem, r0, r1, r2, r3]; omega) rfl ⟨_, _, _, by rw [HY.out], o9, bel⟩
set_option maxRecDepth 100000 in
set_option maxHeartbeats 4000000 in
theorem sTake_full (M G : Int) (R L : List Int) (s a : Option Addr) (cs ca : Nat) (k : Nat) (w : World) (hR : R.length ≤ 1048576) (hL : L.length ≤ 1048576) (iR : Sl w s cs R) (iL : Sl w a ca L) (hg : goodBf M G R L = true) (hk : k ≤ R.length) (hs : ¬ G + sumL (L.take k) ≤ 1000000) :
    Calls Try.prog 21 #[.agg #[.int .i64 M, .slice s R.length cs, .slice a L.length ca, .int .i64 G], .int .i64 k] w fun r w' => ∃ v0 v1 v2, r = .returned (.tuple #[.agg #[.int .i64 (0), v0, v1, .int .i64 (0)], v2, .bool false]) ∧ Own3 w' w.heap.size w'.heap.size v0 v1 v2 [] [] [] ∧ Below w.heap.size w w' := by
  have A2 : ∀ o p, Below w.heap.size w ((w.alloc o).alloc p) := fun o p => ((Below.refl _ _).alloc (Nat.le_refl _) o).alloc (by simp) p
  have HR : Hid (∀ o p, IntsAt ((w.alloc o).alloc p) s R) := fun o p => iR.2.2.keepB (A2 o p)
  have HL : Hid (∀ o p, IntsAt ((w.alloc o).alloc p) a L) := fun o p => iL.2.2.keepB (A2 o p)
  have HSR : Hid (∀ w', Below w.heap.size w w' → Sl w' s cs R) := fun w' h => ⟨iR.1, iR.2.1, IntsAt.keepB iR.2.2 h⟩
  have HSL : Hid (∀ w', Below w.heap.size w w' → Sl w' a ca L) := fun w' h => ⟨iL.1, iL.2.1, IntsAt.keepB iL.2.2 h⟩
  have HG : Hid _ := hg
  have HI : Hid ((0:Int) ≤ (k:Int) ∧ (k:Int) ≤ (R.length : Int)) := ⟨by omega, by omega⟩
  obtain ⟨g1, g2, g3, g4, g5, g6⟩ := goodBf_iff.1 hg
  have hkL : k ≤ L.length := by omega
  have G5 : Hid _ := g5
  have G6 : Hid _ := g6
  have HQ1 : Hid ((R.drop k).length ≤ 1048576) := (lenDrop R k hR)
  have HQ2 : Hid ((L.drop k).length ≤ 1048576) := (lenDrop L k hL)
  have HQ3 : Hid ((R.take k).length ≤ 1048576) := (Nat.le_trans (List.length_take_le' ..) hR)
  have HGD : Hid (goodBf M (G + sumL (L.take k)) (R.drop k) (L.drop k) = false) := goodBf_over hs
  have hR2 : R.length ≤ 2097152 := by omega
  have hL2 : L.length ≤ 2097152 := by omega
  clear hg g1 g2 g3 g4 g5 g6 hs
  go_enter Try.func21, Try.ntmps21
  go_wp2_with fail
  refine (sgoodBf_any M G R L s a cs ca _ hR hL (HR.out _ _) (HL.out _ _)).mono ?_
  rintro r w1 ⟨rfl, b1⟩
  rw [HG.out]
  have hs1 : w.heap.size + 1 < w1.heap.size := Nat.lt_of_lt_of_le (by simp) b1.size
  have hz1 : w1.heap[w.heap.size + 1]? = some (.cells #[.int .i64 0, .slice none 0 0, .slice none 0 0, .int .i64 0] 26) := (b1.block (w.heap.size + 1) (by simp)).trans (heap_lastB _ _ _ (by simp))
  have B1 : Hid (Below w.heap.size w w1) := (A2 _ _).trans (b1.mono (A2 _ _).size)
  have hz0 : w1.heap[w.heap.size]? = some (.cells #[.int .i64 M, .slice s R.length cs, .slice a L.length ca, .int .i64 G] 26) := (b1.block w.heap.size (by simp; omega)).trans ((heap_prevB _ _ _ (by simp)).trans (heap_lastB _ _ _ rfl))
  have c0 : w1.cell? ⟨w.heap.size, 0, none⟩ = some (.int .i64 M) := cell_ofB hz0 0
  have c1 : w1.cell? ⟨w.heap.size, 1, none⟩ = some (.slice s R.length cs) := cell_ofB hz0 1
  have c2 : w1.cell? ⟨w.heap.size, 2, none⟩ = some (.slice a L.length ca) := cell_ofB hz0 2
  have c3 : w1.cell? ⟨w.heap.size, 3, none⟩ = some (.int .i64 G) := cell_ofB hz0 3
  clear iR iL
  have HZ1 : Hid (w1.heap[w.heap.size + 1]? = some (.cells #[.int .i64 0, .slice none 0 0, .slice none 0 0, .int .i64 0] 26)) := hz1
  have HZ0 : Hid (w1.heap[w.heap.size]? = some (.cells #[.int .i64 M, .slice s R.length cs, .slice a L.length ca, .int .i64 G] 26)) := hz0
  clear b1 hz1 hz0 A2 HR HL
  go_wp2_with (first | (go_at_call 49; refine (in_yes HI.out _).mono ?_; rintro r w' ⟨rfl, rfl⟩) | fail)
  refine (sdrop_any M G R L s a cs ca k w1 hR2 hL2 (HSR.out _ B1.out) (HSL.out _ B1.out) hk hkL G5.out G6.out HQ1.out HQ2.out HQ3.out).mono ?_
  rintro r w3 ⟨v0, v1, v2, rfl, o3, b3⟩
  obtain ⟨va, vb, vc, xa, xb, xc, rfl, rfl, rfl⟩ := o3.form
  have hz3 : w3.heap[w.heap.size + 1]? = some (.cells #[.int .i64 0, .slice none 0 0, .slice none 0 0, .int .i64 0] 26) := (b3.block (w.heap.size + 1) hs1).trans HZ1.out
  have hs3 : w.heap.size + 1 < w3.heap.size := Nat.lt_of_lt_of_le hs1 b3.size
  have B3 : Hid (Below w.heap.size w w3) := B1.out.trans (b3.mono B1.out.size)
  have O3 : Hid (Own3 w3 (w.heap.size + 2) w3.heap.size (.slice va (R.length - k) xa) (.slice vb (L.length - k) xb) (.slice vc (R.take k).length xc) (R.drop k) (L.drop k) (R.take k)) := by
    have h := o3.mono (b := w.heap.size + 2) hs1
    simp only [List.length_drop] at h
    exact h
  have HZ3 : Hid _ := hz3
  have HKK : Hid ((R.take k).length = k) := List.length_take_of_le hk
  generalize hy : sumL (L.take k) = y at *
  have HY : Hid (sumL (L.take k) = y) := hy
  have BA : Hid (∀ o, Below w3.heap.size w3 (w3.alloc o)) := fun o => (Below.refl _ _).alloc (Nat.le_refl _) o
  have HGC : Hid (∀ o, Calls Try.prog 16 #[.agg #[.int .i64 M, .slice va (R.length - k) xa, .slice vb (L.length - k) xb, .int .i64 (G + y)]] (w3.alloc o) fun r w' => r = .returned (.bool (goodBf M (G + y) (R.drop k) (L.drop k))) ∧ Below (w3.alloc o).heap.size (w3.alloc o) w') := fun o => by
    have h := sgoodBf_any M (G + y) (R.drop k) (L.drop k) va vb xa xb (w3.alloc o) HQ1.out HQ2.out (IntsAt.keepB o3.at.1 (BA.out o)) (IntsAt.keepB o3.at.2.1 (BA.out o))
    simp only [List.length_drop] at h
    exact h
  clear hy b3 hz3 o3
  go_wp2_with fail
  refine Calls.mono (HGC.out _) ?_
  rintro r w4 ⟨rfl, b4⟩
  rw [HGD.out]
  have hz4 : w4.heap[w.heap.size + 1]? = some (.cells #[.int .i64 0, .slice none 0 0, .slice none 0 0, .int .i64 0] 26) := (b4.block (w.heap.size + 1) (by simp; omega)).trans ((heap_prevB _ _ _ hs3).trans HZ3.out)
  have hd4 : w4.heap[w3.heap.size]? = some (.cells #[.int .i64 M, .slice va (R.length - k) xa, .slice vb (L.length - k) xb, .int .i64 (G + y)] 26) := (b4.block w3.heap.size (by simp)).trans (heap_lastB _ _ _ rfl)
  have B4 : Hid (Below w.heap.size w w4) := (B3.out.trans ((BA.out _).mono B3.out.size)).trans (b4.mono (Nat.le_trans B3.out.size (by simp)))
  have O4 : Hid (Own3 w4 (w.heap.size + 2) w4.heap.size (.slice va (R.length - k) xa) (.slice vb (L.length - k) xb) (.slice vc (R.take k).length xc) (R.drop k) (L.drop k) (R.take k)) := by
    have h := (O3.out.keepB (BA.out _)).keepB b4
    have hsz : w3.heap.size ≤ w4.heap.size := Nat.le_trans (by simp) b4.size
    exact ⟨h.1, ⟨fun g e => Nat.lt_of_lt_of_le (h.2.1.1 g e) hsz, fun g e => Nat.lt_of_lt_of_le (h.2.1.2.1 g e) hsz, fun g e => Nat.lt_of_lt_of_le (h.2.1.2.2 g e) hsz⟩, h.2.2⟩
  have yy0 : w4.cell? ⟨w.heap.size + 1, 0, none⟩ = some (.int .i64 0) := cell_ofB hz4 0
  have ff0 : w4.frozen? ⟨w.heap.size + 1, 0, none⟩ = false := frozen_of_row w4 _ _ _ _ hz4
  have yy1 : w4.cell? ⟨w.heap.size + 1, 1, none⟩ = some (.slice none 0 0) := cell_ofB hz4 1
  have ff1 : w4.frozen? ⟨w.heap.size + 1, 1, none⟩ = false := frozen_of_row w4 _ _ _ _ hz4
  have yy2 : w4.cell? ⟨w.heap.size + 1, 2, none⟩ = some (.slice none 0 0) := cell_ofB hz4 2
  have ff2 : w4.frozen? ⟨w.heap.size + 1, 2, none⟩ = false := frozen_of_row w4 _ _ _ _ hz4
  have yy3 : w4.cell? ⟨w.heap.size + 1, 3, none⟩ = some (.int .i64 0) := cell_ofB hz4 3
  have ff3 : w4.frozen? ⟨w.heap.size + 1, 3, none⟩ = false := frozen_of_row w4 _ _ _ _ hz4
  have HZ4 : Hid _ := hz4
  clear b4 hz4 hd4 HGC
  go_wp2
  obtain ⟨w9, hw9⟩ : ∃ w9, w9 = put4 w4 (w.heap.size + 1) (.int .i64 0) (.slice none 0 0) (.slice none 0 0) (.int .i64 0) := ⟨_, rfl⟩
  have hb9 : w9.heap[w.heap.size + 1]? = some (.cells #[.int .i64 0, .slice none 0 0, .slice none 0 0, .int .i64 0] 26) := by rw [hw9]; exact put4_same HZ4.out _ _ _ _
  have bel : Below w.heap.size w w9 := by rw [hw9]; exact put4_below B4.out (by omega) (B4.out).size _ _ _ _
  have o9 : Own3 w9 w.heap.size w9.heap.size (.slice none 0 0) (.slice none 0 0) (.slice none 0 0) [] [] [] := by
    rw [hw9]
    exact (Own3.mk _ (World.ownsRow_nil _ w.heap.size _ _) (World.ownsRow_nil _ w.heap.size _ _) (World.ownsRow_nil _ w.heap.size _ _) (Nat.le_refl _) (Nat.le_refl _) (Nat.le_refl _) (apart_nil _) (apart_nil _) (apart_nil _))
  unfold put4 at hw9
  rw [← hw9]
  have r0 : w9.cell? ⟨w.heap.size + 1, 0, none⟩ = some (.int .i64 0) := cell_ofB hb9 0
  have r1 : w9.cell? ⟨w.heap.size + 1, 1, none⟩ = some (.slice none 0 0) := cell_ofB hb9 1
  have r2 : w9.cell? ⟨w.heap.size + 1, 2, none⟩ = some (.slice none 0 0) := cell_ofB hb9 2
  have r3 : w9.cell? ⟨w.heap.size + 1, 3, none⟩ = some (.int .i64 0) := cell_ofB hb9 3
  exact bodyPost_ret (v := .tuple #[.agg #[.int .i64 0, .slice none 0 0, .slice none 0 0, .int .i64 0], .slice none 0 0, .bool false]) (by simp [results, Try.results21, go_sem, r0, r1, r2, r3]) rfl ⟨_, _, _, rfl, o9, bel⟩
end Go.Proofs.Ytklgagonbehpeaa
