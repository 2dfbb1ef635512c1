/-
  An empty session: NewSession of the program; the laws' comparison and marks of a session without runes.
-/
import Derived.Test.YtklgagonbehpeaaX2A
import Derived.Deep.DeepCutAuto
namespace Go.Proofs.Ytklgagonbehpeaa
open Go.ChangeShapes Go.WideShapes Go.ChangeAt Go.RowKit
set_option maxRecDepth 100000 in
set_option maxHeartbeats 2000000 in
theorem iNewD_any (en : Int) (w : World) : Calls Try.prog 57 #[.int .i64 en] w fun r w' => r = .returned (.tuple #[if codeB en = true then .agg #[.int .i64 en, .int .i64 0, .int .i64 0, .string ⟨#[]⟩] else .agg #[.int .i64 0, .int .i64 0, .int .i64 0, .string ⟨#[]⟩], .bool (codeB en)]) ∧ Below w.heap.size w w' := by
  by_cases hin : 1 ≤ en ∧ en ≤ 5
  · have hc : codeB en = true := decide_eq_true hin
    rw [hc, if_pos rfl]
    clear hc
    rcases (by omega : en = 1 ∨ en = 2 ∨ en = 3 ∨ en = 4 ∨ en = 5) with rfl | rfl | rfl | rfl | rfl
    all_goals
      clear hin
      go_enter Try.func57, Try.ntmps57
      go_wp2
      exact bodyPost_ret (v := .tuple #[.agg #[.int .i64 _, .int .i64 0, .int .i64 0, .string ⟨#[]⟩], .bool true]) (by simp [results, Try.results57, go_sem]) rfl ⟨rfl, by go_grown⟩
  · have hc : codeB en = false := decide_eq_false hin
    rw [hc, if_neg (by simp)]
    clear hc
    have n1 : (en == 1) = false := by rw [beq_eq_false_iff_ne]; omega
    have n2 : (en == 2) = false := by rw [beq_eq_false_iff_ne]; omega
    have n3 : (en == 3) = false := by rw [beq_eq_false_iff_ne]; omega
    have n4 : (en == 4) = false := by rw [beq_eq_false_iff_ne]; omega
    have n5 : (en == 5) = false := by rw [beq_eq_false_iff_ne]; omega
    rcases (by omega : (¬ 1 ≤ en ∧ en ≤ 5) ∨ (1 ≤ en ∧ ¬ en ≤ 5)) with ⟨h, h'⟩ | ⟨h, h'⟩
    all_goals
      clear hin
      go_enter Try.func57, Try.ntmps57
      go_wp2
      exact bodyPost_ret (v := .tuple #[.agg #[.int .i64 0, .int .i64 0, .int .i64 0, .string ⟨#[]⟩], .bool false]) (by simp [results, Try.results57, go_sem]) rfl ⟨rfl, by go_grown⟩
set_option maxRecDepth 100000 in
set_option maxHeartbeats 2000000 in
theorem iNewS_most (en most : Int) (w : World) (h1 : codeB en = true) (h2 : decide (1 ≤ most ∧ most ≤ 60) = false) :
    Calls Try.prog 34 #[.int .i64 en, .int .i64 most] w fun r w' => r = .returned (.tuple #[.agg #[.int .i64 0, .int .i64 0, .int .i64 0, .string ⟨#[]⟩, .int .i64 0, .slice none 0 0, .slice none 0 0, .int .i64 0, .bool false], .bool false]) ∧ Below w.heap.size w w' := by
  have A1 : ∀ o, Below w.heap.size w (w.alloc o) := fun o => (Below.refl _ _).alloc (Nat.le_refl _) o
  have HND : Hid (∀ w', Calls Try.prog 57 #[.int .i64 en] w' fun r w'' => r = .returned (.tuple #[.agg #[.int .i64 en, .int .i64 0, .int .i64 0, .string ⟨#[]⟩], .bool true]) ∧ Below w'.heap.size w' w'') := fun w' => by
    have q := iNewD_any en w'
    rw [h1] at q
    rw [if_pos rfl] at q
    exact q
  have HGB : Hid (∀ w', Calls Try.prog 15 #[.agg #[.int .i64 most, .slice none 0 0, .slice none 0 0, .int .i64 0]] w' fun r w'' => r = .returned (.bool false) ∧ Below w'.heap.size w' w'') := fun w' => by
    have q := igoodBf_any most 0 [] [] none none 0 0 w' (by simp) (by simp) (ints_nil _) (ints_nil _)
    rw [goodBf_nil, h2] at q
    exact q
  clear h1 h2
  go_enter Try.func34, Try.ntmps34
  go_wp2_with fail
  refine Calls.mono (HND.out _) ?_
  rintro r w1 ⟨rfl, b1⟩
  have hz1 : w1.heap[w.heap.size]? = some (.cells #[.int .i64 0, .int .i64 0, .int .i64 0, .string ⟨#[]⟩, .int .i64 0, .slice none 0 0, .slice none 0 0, .int .i64 0, .bool false] 53) := (b1.block w.heap.size (by simp)).trans (heap_lastB _ _ _ rfl)
  have B1 : Hid (Below w.heap.size w w1) := (A1 _).trans (b1.mono (A1 _).size)
  have hl1 : w.heap.size < w1.heap.size := Nat.lt_of_lt_of_le (by simp) b1.size
  have HZ1 : Hid _ := hz1
  clear b1 A1 HND
  clear hz1
  have B2 : Hid (∀ o p, Below w.heap.size w ((w1.alloc o).alloc p)) := fun o p => (B1.out.alloc B1.out.size o).alloc (Nat.le_trans B1.out.size (by simp)) p
  go_wp2_with fail
  refine Calls.mono (HGB.out _) ?_
  rintro r w2 ⟨rfl, b2⟩
  have hz2 : w2.heap[w.heap.size]? = some (.cells #[.int .i64 0, .int .i64 0, .int .i64 0, .string ⟨#[]⟩, .int .i64 0, .slice none 0 0, .slice none 0 0, .int .i64 0, .bool false] 53) := (b2.block w.heap.size (by simp; omega)).trans ((heap_prevB _ _ _ (by simp; omega)).trans ((heap_prevB _ _ _ hl1).trans HZ1.out))
  have hd2 : w2.heap[w1.heap.size]? = some (.cells #[.int .i64 en, .int .i64 0, .int .i64 0, .string ⟨#[]⟩] 51) := (b2.block w1.heap.size (by simp; omega)).trans ((heap_prevB _ _ _ (by simp)).trans (heap_lastB _ _ _ rfl))
  have hb2 : w2.heap[w1.heap.size + 1]? = some (.cells #[.int .i64 most, .slice none 0 0, .slice none 0 0, .int .i64 0] 26) := (b2.block (w1.heap.size + 1) (by simp)).trans (heap_lastB _ _ _ (by simp))
  have B3 : Hid (Below w.heap.size w w2) := (B2.out _ _).trans (b2.mono (B2.out _ _).size)
  have z0 : w2.cell? ⟨w.heap.size, 0, none⟩ = some (.int .i64 0) := cell_ofB hz2 0
  have zf0 : w2.frozen? ⟨w.heap.size, 0, none⟩ = false := frozen_of_row w2 _ _ _ _ hz2
  have z1 : w2.cell? ⟨w.heap.size, 1, none⟩ = some (.int .i64 0) := cell_ofB hz2 1
  have zf1 : w2.frozen? ⟨w.heap.size, 1, none⟩ = false := frozen_of_row w2 _ _ _ _ hz2
  have z2 : w2.cell? ⟨w.heap.size, 2, none⟩ = some (.int .i64 0) := cell_ofB hz2 2
  have zf2 : w2.frozen? ⟨w.heap.size, 2, none⟩ = false := frozen_of_row w2 _ _ _ _ hz2
  have z3 : w2.cell? ⟨w.heap.size, 3, none⟩ = some (.string ⟨#[]⟩) := cell_ofB hz2 3
  have zf3 : w2.frozen? ⟨w.heap.size, 3, none⟩ = false := frozen_of_row w2 _ _ _ _ hz2
  have z4 : w2.cell? ⟨w.heap.size, 4, none⟩ = some (.int .i64 0) := cell_ofB hz2 4
  have zf4 : w2.frozen? ⟨w.heap.size, 4, none⟩ = false := frozen_of_row w2 _ _ _ _ hz2
  have z5 : w2.cell? ⟨w.heap.size, 5, none⟩ = some (.slice none 0 0) := cell_ofB hz2 5
  have zf5 : w2.frozen? ⟨w.heap.size, 5, none⟩ = false := frozen_of_row w2 _ _ _ _ hz2
  have z6 : w2.cell? ⟨w.heap.size, 6, none⟩ = some (.slice none 0 0) := cell_ofB hz2 6
  have zf6 : w2.frozen? ⟨w.heap.size, 6, none⟩ = false := frozen_of_row w2 _ _ _ _ hz2
  have z7 : w2.cell? ⟨w.heap.size, 7, none⟩ = some (.int .i64 0) := cell_ofB hz2 7
  have zf7 : w2.frozen? ⟨w.heap.size, 7, none⟩ = false := frozen_of_row w2 _ _ _ _ hz2
  have z8 : w2.cell? ⟨w.heap.size, 8, none⟩ = some (.bool false) := cell_ofB hz2 8
  have zf8 : w2.frozen? ⟨w.heap.size, 8, none⟩ = false := frozen_of_row w2 _ _ _ _ hz2
  have HZ2 : Hid _ := hz2
  clear b2 hz2 hd2 hb2 HGB
  go_wp2
  have s0 : (w2.setCell ⟨w.heap.size, 0, none⟩ (.int .i64 0)).heap[w.heap.size]? = some (.cells #[.int .i64 0, .int .i64 0, .int .i64 0, .string ⟨#[]⟩, .int .i64 0, .slice none 0 0, .slice none 0 0, .int .i64 0, .bool false] 53) := blk_sameB HZ2.out 0 _
  have s1 : ((w2.setCell ⟨w.heap.size, 0, none⟩ (.int .i64 0)).setCell ⟨w.heap.size, 1, none⟩ (.int .i64 0)).heap[w.heap.size]? = some (.cells #[.int .i64 0, .int .i64 0, .int .i64 0, .string ⟨#[]⟩, .int .i64 0, .slice none 0 0, .slice none 0 0, .int .i64 0, .bool false] 53) := blk_sameB s0 1 _
  have s2 : (((w2.setCell ⟨w.heap.size, 0, none⟩ (.int .i64 0)).setCell ⟨w.heap.size, 1, none⟩ (.int .i64 0)).setCell ⟨w.heap.size, 2, none⟩ (.int .i64 0)).heap[w.heap.size]? = some (.cells #[.int .i64 0, .int .i64 0, .int .i64 0, .string ⟨#[]⟩, .int .i64 0, .slice none 0 0, .slice none 0 0, .int .i64 0, .bool false] 53) := blk_sameB s1 2 _
  have s3 : ((((w2.setCell ⟨w.heap.size, 0, none⟩ (.int .i64 0)).setCell ⟨w.heap.size, 1, none⟩ (.int .i64 0)).setCell ⟨w.heap.size, 2, none⟩ (.int .i64 0)).setCell ⟨w.heap.size, 3, none⟩ (.string ⟨#[]⟩)).heap[w.heap.size]? = some (.cells #[.int .i64 0, .int .i64 0, .int .i64 0, .string ⟨#[]⟩, .int .i64 0, .slice none 0 0, .slice none 0 0, .int .i64 0, .bool false] 53) := blk_sameB s2 3 _
  have s4 : (((((w2.setCell ⟨w.heap.size, 0, none⟩ (.int .i64 0)).setCell ⟨w.heap.size, 1, none⟩ (.int .i64 0)).setCell ⟨w.heap.size, 2, none⟩ (.int .i64 0)).setCell ⟨w.heap.size, 3, none⟩ (.string ⟨#[]⟩)).setCell ⟨w.heap.size, 4, none⟩ (.int .i64 0)).heap[w.heap.size]? = some (.cells #[.int .i64 0, .int .i64 0, .int .i64 0, .string ⟨#[]⟩, .int .i64 0, .slice none 0 0, .slice none 0 0, .int .i64 0, .bool false] 53) := blk_sameB s3 4 _
  have s5 : ((((((w2.setCell ⟨w.heap.size, 0, none⟩ (.int .i64 0)).setCell ⟨w.heap.size, 1, none⟩ (.int .i64 0)).setCell ⟨w.heap.size, 2, none⟩ (.int .i64 0)).setCell ⟨w.heap.size, 3, none⟩ (.string ⟨#[]⟩)).setCell ⟨w.heap.size, 4, none⟩ (.int .i64 0)).setCell ⟨w.heap.size, 5, none⟩ (.slice none 0 0)).heap[w.heap.size]? = some (.cells #[.int .i64 0, .int .i64 0, .int .i64 0, .string ⟨#[]⟩, .int .i64 0, .slice none 0 0, .slice none 0 0, .int .i64 0, .bool false] 53) := blk_sameB s4 5 _
  have s6 : (((((((w2.setCell ⟨w.heap.size, 0, none⟩ (.int .i64 0)).setCell ⟨w.heap.size, 1, none⟩ (.int .i64 0)).setCell ⟨w.heap.size, 2, none⟩ (.int .i64 0)).setCell ⟨w.heap.size, 3, none⟩ (.string ⟨#[]⟩)).setCell ⟨w.heap.size, 4, none⟩ (.int .i64 0)).setCell ⟨w.heap.size, 5, none⟩ (.slice none 0 0)).setCell ⟨w.heap.size, 6, none⟩ (.slice none 0 0)).heap[w.heap.size]? = some (.cells #[.int .i64 0, .int .i64 0, .int .i64 0, .string ⟨#[]⟩, .int .i64 0, .slice none 0 0, .slice none 0 0, .int .i64 0, .bool false] 53) := blk_sameB s5 6 _
  have s7 : ((((((((w2.setCell ⟨w.heap.size, 0, none⟩ (.int .i64 0)).setCell ⟨w.heap.size, 1, none⟩ (.int .i64 0)).setCell ⟨w.heap.size, 2, none⟩ (.int .i64 0)).setCell ⟨w.heap.size, 3, none⟩ (.string ⟨#[]⟩)).setCell ⟨w.heap.size, 4, none⟩ (.int .i64 0)).setCell ⟨w.heap.size, 5, none⟩ (.slice none 0 0)).setCell ⟨w.heap.size, 6, none⟩ (.slice none 0 0)).setCell ⟨w.heap.size, 7, none⟩ (.int .i64 0)).heap[w.heap.size]? = some (.cells #[.int .i64 0, .int .i64 0, .int .i64 0, .string ⟨#[]⟩, .int .i64 0, .slice none 0 0, .slice none 0 0, .int .i64 0, .bool false] 53) := blk_sameB s6 7 _
  have s8 : (((((((((w2.setCell ⟨w.heap.size, 0, none⟩ (.int .i64 0)).setCell ⟨w.heap.size, 1, none⟩ (.int .i64 0)).setCell ⟨w.heap.size, 2, none⟩ (.int .i64 0)).setCell ⟨w.heap.size, 3, none⟩ (.string ⟨#[]⟩)).setCell ⟨w.heap.size, 4, none⟩ (.int .i64 0)).setCell ⟨w.heap.size, 5, none⟩ (.slice none 0 0)).setCell ⟨w.heap.size, 6, none⟩ (.slice none 0 0)).setCell ⟨w.heap.size, 7, none⟩ (.int .i64 0)).setCell ⟨w.heap.size, 8, none⟩ (.bool false)).heap[w.heap.size]? = some (.cells #[.int .i64 0, .int .i64 0, .int .i64 0, .string ⟨#[]⟩, .int .i64 0, .slice none 0 0, .slice none 0 0, .int .i64 0, .bool false] 53) := blk_sameB s7 8 _
  have hBB : w.heap.size ≤ w.heap.size := Nat.le_refl _
  have bel0 : Below w.heap.size w (((((((((w2.setCell ⟨w.heap.size, 0, none⟩ (.int .i64 0)).setCell ⟨w.heap.size, 1, none⟩ (.int .i64 0)).setCell ⟨w.heap.size, 2, none⟩ (.int .i64 0)).setCell ⟨w.heap.size, 3, none⟩ (.string ⟨#[]⟩)).setCell ⟨w.heap.size, 4, none⟩ (.int .i64 0)).setCell ⟨w.heap.size, 5, none⟩ (.slice none 0 0)).setCell ⟨w.heap.size, 6, none⟩ (.slice none 0 0)).setCell ⟨w.heap.size, 7, none⟩ (.int .i64 0)).setCell ⟨w.heap.size, 8, none⟩ (.bool false)) := set_below (set_below (set_below (set_below (set_below (set_below (set_below (set_below (set_below (B3.out) hBB hBB 0 _) hBB hBB 1 _) hBB hBB 2 _) hBB hBB 3 _) hBB hBB 4 _) hBB hBB 5 _) hBB hBB 6 _) hBB hBB 7 _) hBB hBB 8 _
  obtain ⟨w9, hw9⟩ : ∃ w9, w9 = (((((((((w2.setCell ⟨w.heap.size, 0, none⟩ (.int .i64 0)).setCell ⟨w.heap.size, 1, none⟩ (.int .i64 0)).setCell ⟨w.heap.size, 2, none⟩ (.int .i64 0)).setCell ⟨w.heap.size, 3, none⟩ (.string ⟨#[]⟩)).setCell ⟨w.heap.size, 4, none⟩ (.int .i64 0)).setCell ⟨w.heap.size, 5, none⟩ (.slice none 0 0)).setCell ⟨w.heap.size, 6, none⟩ (.slice none 0 0)).setCell ⟨w.heap.size, 7, none⟩ (.int .i64 0)).setCell ⟨w.heap.size, 8, none⟩ (.bool false)) := ⟨_, rfl⟩
  have hb9 : w9.heap[w.heap.size]? = some (.cells #[.int .i64 0, .int .i64 0, .int .i64 0, .string ⟨#[]⟩, .int .i64 0, .slice none 0 0, .slice none 0 0, .int .i64 0, .bool false] 53) := by rw [hw9]; exact s8
  have bel : Below w.heap.size w w9 := by rw [hw9]; exact bel0
  clear s0 s1 s2 s3 s4 s5 s6 s7 s8 bel0
  rw [← hw9]
  have r0 : w9.cell? ⟨w.heap.size, 0, none⟩ = some (.int .i64 0) := cell_ofB hb9 0
  have r1 : w9.cell? ⟨w.heap.size, 1, none⟩ = some (.int .i64 0) := cell_ofB hb9 1
  have r2 : w9.cell? ⟨w.heap.size, 2, none⟩ = some (.int .i64 0) := cell_ofB hb9 2
  have r3 : w9.cell? ⟨w.heap.size, 3, none⟩ = some (.string ⟨#[]⟩) := cell_ofB hb9 3
  have r4 : w9.cell? ⟨w.heap.size, 4, none⟩ = some (.int .i64 0) := cell_ofB hb9 4
  have r5 : w9.cell? ⟨w.heap.size, 5, none⟩ = some (.slice none 0 0) := cell_ofB hb9 5
  have r6 : w9.cell? ⟨w.heap.size, 6, none⟩ = some (.slice none 0 0) := cell_ofB hb9 6
  have r7 : w9.cell? ⟨w.heap.size, 7, none⟩ = some (.int .i64 0) := cell_ofB hb9 7
  have r8 : w9.cell? ⟨w.heap.size, 8, none⟩ = some (.bool false) := cell_ofB hb9 8
  exact bodyPost_ret (v := .tuple #[.agg #[.int .i64 0, .int .i64 0, .int .i64 0, .string ⟨#[]⟩, .int .i64 0, .slice none 0 0, .slice none 0 0, .int .i64 0, .bool false], .bool false]) (by simp [results, Try.results34, go_sem, r0, r1, r2, r3, r4, r5, r6, r7, r8]) rfl ⟨rfl, bel⟩
set_option maxRecDepth 100000 in
set_option maxHeartbeats 2000000 in
theorem iNewS_yes (en most : Int) (w : World) (h1 : codeB en = true) (h2 : decide (1 ≤ most ∧ most ≤ 60) = true) :
    Calls Try.prog 34 #[.int .i64 en, .int .i64 most] w fun r w' => r = .returned (.tuple #[.agg #[.int .i64 en, .int .i64 0, .int .i64 0, .string ⟨#[]⟩, .int .i64 most, .slice none 0 0, .slice none 0 0, .int .i64 0, .bool false], .bool true]) ∧ Below w.heap.size w w' := by
  have A1 : ∀ o, Below w.heap.size w (w.alloc o) := fun o => (Below.refl _ _).alloc (Nat.le_refl _) o
  have HND : Hid (∀ w', Calls Try.prog 57 #[.int .i64 en] w' fun r w'' => r = .returned (.tuple #[.agg #[.int .i64 en, .int .i64 0, .int .i64 0, .string ⟨#[]⟩], .bool true]) ∧ Below w'.heap.size w' w'') := fun w' => by
    have q := iNewD_any en w'
    rw [h1] at q
    rw [if_pos rfl] at q
    exact q
  have HGB : Hid (∀ w', Calls Try.prog 15 #[.agg #[.int .i64 most, .slice none 0 0, .slice none 0 0, .int .i64 0]] w' fun r w'' => r = .returned (.bool true) ∧ Below w'.heap.size w' w'') := fun w' => by
    have q := igoodBf_any most 0 [] [] none none 0 0 w' (by simp) (by simp) (ints_nil _) (ints_nil _)
    rw [goodBf_nil, h2] at q
    exact q
  clear h1 h2
  go_enter Try.func34, Try.ntmps34
  go_wp2_with fail
  refine Calls.mono (HND.out _) ?_
  rintro r w1 ⟨rfl, b1⟩
  have hz1 : w1.heap[w.heap.size]? = some (.cells #[.int .i64 0, .int .i64 0, .int .i64 0, .string ⟨#[]⟩, .int .i64 0, .slice none 0 0, .slice none 0 0, .int .i64 0, .bool false] 53) := (b1.block w.heap.size (by simp)).trans (heap_lastB _ _ _ rfl)
  have B1 : Hid (Below w.heap.size w w1) := (A1 _).trans (b1.mono (A1 _).size)
  have hl1 : w.heap.size < w1.heap.size := Nat.lt_of_lt_of_le (by simp) b1.size
  have HZ1 : Hid _ := hz1
  clear b1 A1 HND
  clear hz1
  have B2 : Hid (∀ o p, Below w.heap.size w ((w1.alloc o).alloc p)) := fun o p => (B1.out.alloc B1.out.size o).alloc (Nat.le_trans B1.out.size (by simp)) p
  go_wp2_with fail
  refine Calls.mono (HGB.out _) ?_
  rintro r w2 ⟨rfl, b2⟩
  have hz2 : w2.heap[w.heap.size]? = some (.cells #[.int .i64 0, .int .i64 0, .int .i64 0, .string ⟨#[]⟩, .int .i64 0, .slice none 0 0, .slice none 0 0, .int .i64 0, .bool false] 53) := (b2.block w.heap.size (by simp; omega)).trans ((heap_prevB _ _ _ (by simp; omega)).trans ((heap_prevB _ _ _ hl1).trans HZ1.out))
  have hd2 : w2.heap[w1.heap.size]? = some (.cells #[.int .i64 en, .int .i64 0, .int .i64 0, .string ⟨#[]⟩] 51) := (b2.block w1.heap.size (by simp; omega)).trans ((heap_prevB _ _ _ (by simp)).trans (heap_lastB _ _ _ rfl))
  have hb2 : w2.heap[w1.heap.size + 1]? = some (.cells #[.int .i64 most, .slice none 0 0, .slice none 0 0, .int .i64 0] 26) := (b2.block (w1.heap.size + 1) (by simp)).trans (heap_lastB _ _ _ (by simp))
  have B3 : Hid (Below w.heap.size w w2) := (B2.out _ _).trans (b2.mono (B2.out _ _).size)
  have z0 : w2.cell? ⟨w.heap.size, 0, none⟩ = some (.int .i64 0) := cell_ofB hz2 0
  have zf0 : w2.frozen? ⟨w.heap.size, 0, none⟩ = false := frozen_of_row w2 _ _ _ _ hz2
  have z1 : w2.cell? ⟨w.heap.size, 1, none⟩ = some (.int .i64 0) := cell_ofB hz2 1
  have zf1 : w2.frozen? ⟨w.heap.size, 1, none⟩ = false := frozen_of_row w2 _ _ _ _ hz2
  have z2 : w2.cell? ⟨w.heap.size, 2, none⟩ = some (.int .i64 0) := cell_ofB hz2 2
  have zf2 : w2.frozen? ⟨w.heap.size, 2, none⟩ = false := frozen_of_row w2 _ _ _ _ hz2
  have z3 : w2.cell? ⟨w.heap.size, 3, none⟩ = some (.string ⟨#[]⟩) := cell_ofB hz2 3
  have zf3 : w2.frozen? ⟨w.heap.size, 3, none⟩ = false := frozen_of_row w2 _ _ _ _ hz2
  have z4 : w2.cell? ⟨w.heap.size, 4, none⟩ = some (.int .i64 0) := cell_ofB hz2 4
  have zf4 : w2.frozen? ⟨w.heap.size, 4, none⟩ = false := frozen_of_row w2 _ _ _ _ hz2
  have z5 : w2.cell? ⟨w.heap.size, 5, none⟩ = some (.slice none 0 0) := cell_ofB hz2 5
  have zf5 : w2.frozen? ⟨w.heap.size, 5, none⟩ = false := frozen_of_row w2 _ _ _ _ hz2
  have z6 : w2.cell? ⟨w.heap.size, 6, none⟩ = some (.slice none 0 0) := cell_ofB hz2 6
  have zf6 : w2.frozen? ⟨w.heap.size, 6, none⟩ = false := frozen_of_row w2 _ _ _ _ hz2
  have z7 : w2.cell? ⟨w.heap.size, 7, none⟩ = some (.int .i64 0) := cell_ofB hz2 7
  have zf7 : w2.frozen? ⟨w.heap.size, 7, none⟩ = false := frozen_of_row w2 _ _ _ _ hz2
  have z8 : w2.cell? ⟨w.heap.size, 8, none⟩ = some (.bool false) := cell_ofB hz2 8
  have zf8 : w2.frozen? ⟨w.heap.size, 8, none⟩ = false := frozen_of_row w2 _ _ _ _ hz2
  have d0 : w2.cell? ⟨w1.heap.size, 0, none⟩ = some (.int .i64 en) := cell_ofB hd2 0
  have d1 : w2.cell? ⟨w1.heap.size, 1, none⟩ = some (.int .i64 0) := cell_ofB hd2 1
  have d2 : w2.cell? ⟨w1.heap.size, 2, none⟩ = some (.int .i64 0) := cell_ofB hd2 2
  have d3 : w2.cell? ⟨w1.heap.size, 3, none⟩ = some (.string ⟨#[]⟩) := cell_ofB hd2 3
  have e0 : w2.cell? ⟨w1.heap.size + 1, 0, none⟩ = some (.int .i64 most) := cell_ofB hb2 0
  have e1 : w2.cell? ⟨w1.heap.size + 1, 1, none⟩ = some (.slice none 0 0) := cell_ofB hb2 1
  have e2 : w2.cell? ⟨w1.heap.size + 1, 2, none⟩ = some (.slice none 0 0) := cell_ofB hb2 2
  have e3 : w2.cell? ⟨w1.heap.size + 1, 3, none⟩ = some (.int .i64 0) := cell_ofB hb2 3
  have HZ2 : Hid _ := hz2
  clear b2 hz2 hd2 hb2 HGB
  go_wp2
  have s0 : (w2.setCell ⟨w.heap.size, 0, none⟩ (.int .i64 en)).heap[w.heap.size]? = some (.cells #[.int .i64 en, .int .i64 0, .int .i64 0, .string ⟨#[]⟩, .int .i64 0, .slice none 0 0, .slice none 0 0, .int .i64 0, .bool false] 53) := blk_sameB HZ2.out 0 _
  have s1 : ((w2.setCell ⟨w.heap.size, 0, none⟩ (.int .i64 en)).setCell ⟨w.heap.size, 1, none⟩ (.int .i64 0)).heap[w.heap.size]? = some (.cells #[.int .i64 en, .int .i64 0, .int .i64 0, .string ⟨#[]⟩, .int .i64 0, .slice none 0 0, .slice none 0 0, .int .i64 0, .bool false] 53) := blk_sameB s0 1 _
  have s2 : (((w2.setCell ⟨w.heap.size, 0, none⟩ (.int .i64 en)).setCell ⟨w.heap.size, 1, none⟩ (.int .i64 0)).setCell ⟨w.heap.size, 2, none⟩ (.int .i64 0)).heap[w.heap.size]? = some (.cells #[.int .i64 en, .int .i64 0, .int .i64 0, .string ⟨#[]⟩, .int .i64 0, .slice none 0 0, .slice none 0 0, .int .i64 0, .bool false] 53) := blk_sameB s1 2 _
  have s3 : ((((w2.setCell ⟨w.heap.size, 0, none⟩ (.int .i64 en)).setCell ⟨w.heap.size, 1, none⟩ (.int .i64 0)).setCell ⟨w.heap.size, 2, none⟩ (.int .i64 0)).setCell ⟨w.heap.size, 3, none⟩ (.string ⟨#[]⟩)).heap[w.heap.size]? = some (.cells #[.int .i64 en, .int .i64 0, .int .i64 0, .string ⟨#[]⟩, .int .i64 0, .slice none 0 0, .slice none 0 0, .int .i64 0, .bool false] 53) := blk_sameB s2 3 _
  have s4 : (((((w2.setCell ⟨w.heap.size, 0, none⟩ (.int .i64 en)).setCell ⟨w.heap.size, 1, none⟩ (.int .i64 0)).setCell ⟨w.heap.size, 2, none⟩ (.int .i64 0)).setCell ⟨w.heap.size, 3, none⟩ (.string ⟨#[]⟩)).setCell ⟨w.heap.size, 4, none⟩ (.int .i64 most)).heap[w.heap.size]? = some (.cells #[.int .i64 en, .int .i64 0, .int .i64 0, .string ⟨#[]⟩, .int .i64 most, .slice none 0 0, .slice none 0 0, .int .i64 0, .bool false] 53) := blk_sameB s3 4 _
  have s5 : ((((((w2.setCell ⟨w.heap.size, 0, none⟩ (.int .i64 en)).setCell ⟨w.heap.size, 1, none⟩ (.int .i64 0)).setCell ⟨w.heap.size, 2, none⟩ (.int .i64 0)).setCell ⟨w.heap.size, 3, none⟩ (.string ⟨#[]⟩)).setCell ⟨w.heap.size, 4, none⟩ (.int .i64 most)).setCell ⟨w.heap.size, 5, none⟩ (.slice none 0 0)).heap[w.heap.size]? = some (.cells #[.int .i64 en, .int .i64 0, .int .i64 0, .string ⟨#[]⟩, .int .i64 most, .slice none 0 0, .slice none 0 0, .int .i64 0, .bool false] 53) := blk_sameB s4 5 _
  have s6 : (((((((w2.setCell ⟨w.heap.size, 0, none⟩ (.int .i64 en)).setCell ⟨w.heap.size, 1, none⟩ (.int .i64 0)).setCell ⟨w.heap.size, 2, none⟩ (.int .i64 0)).setCell ⟨w.heap.size, 3, none⟩ (.string ⟨#[]⟩)).setCell ⟨w.heap.size, 4, none⟩ (.int .i64 most)).setCell ⟨w.heap.size, 5, none⟩ (.slice none 0 0)).setCell ⟨w.heap.size, 6, none⟩ (.slice none 0 0)).heap[w.heap.size]? = some (.cells #[.int .i64 en, .int .i64 0, .int .i64 0, .string ⟨#[]⟩, .int .i64 most, .slice none 0 0, .slice none 0 0, .int .i64 0, .bool false] 53) := blk_sameB s5 6 _
  have s7 : ((((((((w2.setCell ⟨w.heap.size, 0, none⟩ (.int .i64 en)).setCell ⟨w.heap.size, 1, none⟩ (.int .i64 0)).setCell ⟨w.heap.size, 2, none⟩ (.int .i64 0)).setCell ⟨w.heap.size, 3, none⟩ (.string ⟨#[]⟩)).setCell ⟨w.heap.size, 4, none⟩ (.int .i64 most)).setCell ⟨w.heap.size, 5, none⟩ (.slice none 0 0)).setCell ⟨w.heap.size, 6, none⟩ (.slice none 0 0)).setCell ⟨w.heap.size, 7, none⟩ (.int .i64 0)).heap[w.heap.size]? = some (.cells #[.int .i64 en, .int .i64 0, .int .i64 0, .string ⟨#[]⟩, .int .i64 most, .slice none 0 0, .slice none 0 0, .int .i64 0, .bool false] 53) := blk_sameB s6 7 _
  have s8 : (((((((((w2.setCell ⟨w.heap.size, 0, none⟩ (.int .i64 en)).setCell ⟨w.heap.size, 1, none⟩ (.int .i64 0)).setCell ⟨w.heap.size, 2, none⟩ (.int .i64 0)).setCell ⟨w.heap.size, 3, none⟩ (.string ⟨#[]⟩)).setCell ⟨w.heap.size, 4, none⟩ (.int .i64 most)).setCell ⟨w.heap.size, 5, none⟩ (.slice none 0 0)).setCell ⟨w.heap.size, 6, none⟩ (.slice none 0 0)).setCell ⟨w.heap.size, 7, none⟩ (.int .i64 0)).setCell ⟨w.heap.size, 8, none⟩ (.bool false)).heap[w.heap.size]? = some (.cells #[.int .i64 en, .int .i64 0, .int .i64 0, .string ⟨#[]⟩, .int .i64 most, .slice none 0 0, .slice none 0 0, .int .i64 0, .bool false] 53) := blk_sameB s7 8 _
  have hBB : w.heap.size ≤ w.heap.size := Nat.le_refl _
  have bel0 : Below w.heap.size w (((((((((w2.setCell ⟨w.heap.size, 0, none⟩ (.int .i64 en)).setCell ⟨w.heap.size, 1, none⟩ (.int .i64 0)).setCell ⟨w.heap.size, 2, none⟩ (.int .i64 0)).setCell ⟨w.heap.size, 3, none⟩ (.string ⟨#[]⟩)).setCell ⟨w.heap.size, 4, none⟩ (.int .i64 most)).setCell ⟨w.heap.size, 5, none⟩ (.slice none 0 0)).setCell ⟨w.heap.size, 6, none⟩ (.slice none 0 0)).setCell ⟨w.heap.size, 7, none⟩ (.int .i64 0)).setCell ⟨w.heap.size, 8, none⟩ (.bool false)) := set_below (set_below (set_below (set_below (set_below (set_below (set_below (set_below (set_below (B3.out) hBB hBB 0 _) hBB hBB 1 _) hBB hBB 2 _) hBB hBB 3 _) hBB hBB 4 _) hBB hBB 5 _) hBB hBB 6 _) hBB hBB 7 _) hBB hBB 8 _
  obtain ⟨w9, hw9⟩ : ∃ w9, w9 = (((((((((w2.setCell ⟨w.heap.size, 0, none⟩ (.int .i64 en)).setCell ⟨w.heap.size, 1, none⟩ (.int .i64 0)).setCell ⟨w.heap.size, 2, none⟩ (.int .i64 0)).setCell ⟨w.heap.size, 3, none⟩ (.string ⟨#[]⟩)).setCell ⟨w.heap.size, 4, none⟩ (.int .i64 most)).setCell ⟨w.heap.size, 5, none⟩ (.slice none 0 0)).setCell ⟨w.heap.size, 6, none⟩ (.slice none 0 0)).setCell ⟨w.heap.size, 7, none⟩ (.int .i64 0)).setCell ⟨w.heap.size, 8, none⟩ (.bool false)) := ⟨_, rfl⟩
  have hb9 : w9.heap[w.heap.size]? = some (.cells #[.int .i64 en, .int .i64 0, .int .i64 0, .string ⟨#[]⟩, .int .i64 most, .slice none 0 0, .slice none 0 0, .int .i64 0, .bool false] 53) := by rw [hw9]; exact s8
  have bel : Below w.heap.size w w9 := by rw [hw9]; exact bel0
  clear s0 s1 s2 s3 s4 s5 s6 s7 s8 bel0
  rw [← hw9]
  have r0 : w9.cell? ⟨w.heap.size, 0, none⟩ = some (.int .i64 en) := cell_ofB hb9 0
  have r1 : w9.cell? ⟨w.heap.size, 1, none⟩ = some (.int .i64 0) := cell_ofB hb9 1
  have r2 : w9.cell? ⟨w.heap.size, 2, none⟩ = some (.int .i64 0) := cell_ofB hb9 2
  have r3 : w9.cell? ⟨w.heap.size, 3, none⟩ = some (.string ⟨#[]⟩) := cell_ofB hb9 3
  have r4 : w9.cell? ⟨w.heap.size, 4, none⟩ = some (.int .i64 most) := cell_ofB hb9 4
  have r5 : w9.cell? ⟨w.heap.size, 5, none⟩ = some (.slice none 0 0) := cell_ofB hb9 5
  have r6 : w9.cell? ⟨w.heap.size, 6, none⟩ = some (.slice none 0 0) := cell_ofB hb9 6
  have r7 : w9.cell? ⟨w.heap.size, 7, none⟩ = some (.int .i64 0) := cell_ofB hb9 7
  have r8 : w9.cell? ⟨w.heap.size, 8, none⟩ = some (.bool false) := cell_ofB hb9 8
  exact bodyPost_ret (v := .tuple #[.agg #[.int .i64 en, .int .i64 0, .int .i64 0, .string ⟨#[]⟩, .int .i64 most, .slice none 0 0, .slice none 0 0, .int .i64 0, .bool false], .bool true]) (by simp [results, Try.results34, go_sem, r0, r1, r2, r3, r4, r5, r6, r7, r8]) rfl ⟨rfl, bel⟩
set_option maxRecDepth 100000 in
set_option maxHeartbeats 2000000 in
theorem iNewS_code (en most : Int) (w : World) (h1 : codeB en = false) :
    Calls Try.prog 34 #[.int .i64 en, .int .i64 most] w fun r w' => r = .returned (.tuple #[.agg #[.int .i64 0, .int .i64 0, .int .i64 0, .string ⟨#[]⟩, .int .i64 0, .slice none 0 0, .slice none 0 0, .int .i64 0, .bool false], .bool false]) ∧ Below w.heap.size w w' := by
  have A1 : ∀ o, Below w.heap.size w (w.alloc o) := fun o => (Below.refl _ _).alloc (Nat.le_refl _) o
  have HND : Hid (∀ w', Calls Try.prog 57 #[.int .i64 en] w' fun r w'' => r = .returned (.tuple #[.agg #[.int .i64 0, .int .i64 0, .int .i64 0, .string ⟨#[]⟩], .bool false]) ∧ Below w'.heap.size w' w'') := fun w' => by
    have q := iNewD_any en w'
    rw [h1] at q
    rw [if_neg (by simp)] at q
    exact q
  clear h1
  go_enter Try.func34, Try.ntmps34
  go_wp2_with fail
  refine Calls.mono (HND.out _) ?_
  rintro r w1 ⟨rfl, b1⟩
  have hz1 : w1.heap[w.heap.size]? = some (.cells #[.int .i64 0, .int .i64 0, .int .i64 0, .string ⟨#[]⟩, .int .i64 0, .slice none 0 0, .slice none 0 0, .int .i64 0, .bool false] 53) := (b1.block w.heap.size (by simp)).trans (heap_lastB _ _ _ rfl)
  have B1 : Hid (Below w.heap.size w w1) := (A1 _).trans (b1.mono (A1 _).size)
  have hl1 : w.heap.size < w1.heap.size := Nat.lt_of_lt_of_le (by simp) b1.size
  have HZ1 : Hid _ := hz1
  clear b1 A1 HND
  clear hz1
  go_upto_region 4 with fail
  obtain ⟨w2, hw2⟩ : ∃ w2, w2 = ((w1.alloc (.cells #[.int .i64 0, .int .i64 0, .int .i64 0, .string ⟨#[]⟩] 51)).alloc (.cells #[.int .i64 most, .slice none 0 0, .slice none 0 0, .int .i64 0] 26)) := ⟨_, rfl⟩
  have hz2 : w2.heap[w.heap.size]? = some (.cells #[.int .i64 0, .int .i64 0, .int .i64 0, .string ⟨#[]⟩, .int .i64 0, .slice none 0 0, .slice none 0 0, .int .i64 0, .bool false] 53) := by rw [hw2]; exact (heap_prevB _ _ _ (by simp; omega)).trans ((heap_prevB _ _ _ hl1).trans HZ1.out)
  have B3 : Hid (Below w.heap.size w w2) := by rw [hw2]; exact (B1.out.alloc B1.out.size _).alloc (Nat.le_trans B1.out.size (by simp)) _
  rw [← hw2]
  clear hw2
  have z0 : w2.cell? ⟨w.heap.size, 0, none⟩ = some (.int .i64 0) := cell_ofB hz2 0
  have zf0 : w2.frozen? ⟨w.heap.size, 0, none⟩ = false := frozen_of_row w2 _ _ _ _ hz2
  have z1 : w2.cell? ⟨w.heap.size, 1, none⟩ = some (.int .i64 0) := cell_ofB hz2 1
  have zf1 : w2.frozen? ⟨w.heap.size, 1, none⟩ = false := frozen_of_row w2 _ _ _ _ hz2
  have z2 : w2.cell? ⟨w.heap.size, 2, none⟩ = some (.int .i64 0) := cell_ofB hz2 2
  have zf2 : w2.frozen? ⟨w.heap.size, 2, none⟩ = false := frozen_of_row w2 _ _ _ _ hz2
  have z3 : w2.cell? ⟨w.heap.size, 3, none⟩ = some (.string ⟨#[]⟩) := cell_ofB hz2 3
  have zf3 : w2.frozen? ⟨w.heap.size, 3, none⟩ = false := frozen_of_row w2 _ _ _ _ hz2
  have z4 : w2.cell? ⟨w.heap.size, 4, none⟩ = some (.int .i64 0) := cell_ofB hz2 4
  have zf4 : w2.frozen? ⟨w.heap.size, 4, none⟩ = false := frozen_of_row w2 _ _ _ _ hz2
  have z5 : w2.cell? ⟨w.heap.size, 5, none⟩ = some (.slice none 0 0) := cell_ofB hz2 5
  have zf5 : w2.frozen? ⟨w.heap.size, 5, none⟩ = false := frozen_of_row w2 _ _ _ _ hz2
  have z6 : w2.cell? ⟨w.heap.size, 6, none⟩ = some (.slice none 0 0) := cell_ofB hz2 6
  have zf6 : w2.frozen? ⟨w.heap.size, 6, none⟩ = false := frozen_of_row w2 _ _ _ _ hz2
  have z7 : w2.cell? ⟨w.heap.size, 7, none⟩ = some (.int .i64 0) := cell_ofB hz2 7
  have zf7 : w2.frozen? ⟨w.heap.size, 7, none⟩ = false := frozen_of_row w2 _ _ _ _ hz2
  have z8 : w2.cell? ⟨w.heap.size, 8, none⟩ = some (.bool false) := cell_ofB hz2 8
  have zf8 : w2.frozen? ⟨w.heap.size, 8, none⟩ = false := frozen_of_row w2 _ _ _ _ hz2
  have HZ2 : Hid _ := hz2
  clear hz2
  go_wp2
  have s0 : (w2.setCell ⟨w.heap.size, 0, none⟩ (.int .i64 0)).heap[w.heap.size]? = some (.cells #[.int .i64 0, .int .i64 0, .int .i64 0, .string ⟨#[]⟩, .int .i64 0, .slice none 0 0, .slice none 0 0, .int .i64 0, .bool false] 53) := blk_sameB HZ2.out 0 _
  have s1 : ((w2.setCell ⟨w.heap.size, 0, none⟩ (.int .i64 0)).setCell ⟨w.heap.size, 1, none⟩ (.int .i64 0)).heap[w.heap.size]? = some (.cells #[.int .i64 0, .int .i64 0, .int .i64 0, .string ⟨#[]⟩, .int .i64 0, .slice none 0 0, .slice none 0 0, .int .i64 0, .bool false] 53) := blk_sameB s0 1 _
  have s2 : (((w2.setCell ⟨w.heap.size, 0, none⟩ (.int .i64 0)).setCell ⟨w.heap.size, 1, none⟩ (.int .i64 0)).setCell ⟨w.heap.size, 2, none⟩ (.int .i64 0)).heap[w.heap.size]? = some (.cells #[.int .i64 0, .int .i64 0, .int .i64 0, .string ⟨#[]⟩, .int .i64 0, .slice none 0 0, .slice none 0 0, .int .i64 0, .bool false] 53) := blk_sameB s1 2 _
  have s3 : ((((w2.setCell ⟨w.heap.size, 0, none⟩ (.int .i64 0)).setCell ⟨w.heap.size, 1, none⟩ (.int .i64 0)).setCell ⟨w.heap.size, 2, none⟩ (.int .i64 0)).setCell ⟨w.heap.size, 3, none⟩ (.string ⟨#[]⟩)).heap[w.heap.size]? = some (.cells #[.int .i64 0, .int .i64 0, .int .i64 0, .string ⟨#[]⟩, .int .i64 0, .slice none 0 0, .slice none 0 0, .int .i64 0, .bool false] 53) := blk_sameB s2 3 _
  have s4 : (((((w2.setCell ⟨w.heap.size, 0, none⟩ (.int .i64 0)).setCell ⟨w.heap.size, 1, none⟩ (.int .i64 0)).setCell ⟨w.heap.size, 2, none⟩ (.int .i64 0)).setCell ⟨w.heap.size, 3, none⟩ (.string ⟨#[]⟩)).setCell ⟨w.heap.size, 4, none⟩ (.int .i64 0)).heap[w.heap.size]? = some (.cells #[.int .i64 0, .int .i64 0, .int .i64 0, .string ⟨#[]⟩, .int .i64 0, .slice none 0 0, .slice none 0 0, .int .i64 0, .bool false] 53) := blk_sameB s3 4 _
  have s5 : ((((((w2.setCell ⟨w.heap.size, 0, none⟩ (.int .i64 0)).setCell ⟨w.heap.size, 1, none⟩ (.int .i64 0)).setCell ⟨w.heap.size, 2, none⟩ (.int .i64 0)).setCell ⟨w.heap.size, 3, none⟩ (.string ⟨#[]⟩)).setCell ⟨w.heap.size, 4, none⟩ (.int .i64 0)).setCell ⟨w.heap.size, 5, none⟩ (.slice none 0 0)).heap[w.heap.size]? = some (.cells #[.int .i64 0, .int .i64 0, .int .i64 0, .string ⟨#[]⟩, .int .i64 0, .slice none 0 0, .slice none 0 0, .int .i64 0, .bool false] 53) := blk_sameB s4 5 _
  have s6 : (((((((w2.setCell ⟨w.heap.size, 0, none⟩ (.int .i64 0)).setCell ⟨w.heap.size, 1, none⟩ (.int .i64 0)).setCell ⟨w.heap.size, 2, none⟩ (.int .i64 0)).setCell ⟨w.heap.size, 3, none⟩ (.string ⟨#[]⟩)).setCell ⟨w.heap.size, 4, none⟩ (.int .i64 0)).setCell ⟨w.heap.size, 5, none⟩ (.slice none 0 0)).setCell ⟨w.heap.size, 6, none⟩ (.slice none 0 0)).heap[w.heap.size]? = some (.cells #[.int .i64 0, .int .i64 0, .int .i64 0, .string ⟨#[]⟩, .int .i64 0, .slice none 0 0, .slice none 0 0, .int .i64 0, .bool false] 53) := blk_sameB s5 6 _
  have s7 : ((((((((w2.setCell ⟨w.heap.size, 0, none⟩ (.int .i64 0)).setCell ⟨w.heap.size, 1, none⟩ (.int .i64 0)).setCell ⟨w.heap.size, 2, none⟩ (.int .i64 0)).setCell ⟨w.heap.size, 3, none⟩ (.string ⟨#[]⟩)).setCell ⟨w.heap.size, 4, none⟩ (.int .i64 0)).setCell ⟨w.heap.size, 5, none⟩ (.slice none 0 0)).setCell ⟨w.heap.size, 6, none⟩ (.slice none 0 0)).setCell ⟨w.heap.size, 7, none⟩ (.int .i64 0)).heap[w.heap.size]? = some (.cells #[.int .i64 0, .int .i64 0, .int .i64 0, .string ⟨#[]⟩, .int .i64 0, .slice none 0 0, .slice none 0 0, .int .i64 0, .bool false] 53) := blk_sameB s6 7 _
  have s8 : (((((((((w2.setCell ⟨w.heap.size, 0, none⟩ (.int .i64 0)).setCell ⟨w.heap.size, 1, none⟩ (.int .i64 0)).setCell ⟨w.heap.size, 2, none⟩ (.int .i64 0)).setCell ⟨w.heap.size, 3, none⟩ (.string ⟨#[]⟩)).setCell ⟨w.heap.size, 4, none⟩ (.int .i64 0)).setCell ⟨w.heap.size, 5, none⟩ (.slice none 0 0)).setCell ⟨w.heap.size, 6, none⟩ (.slice none 0 0)).setCell ⟨w.heap.size, 7, none⟩ (.int .i64 0)).setCell ⟨w.heap.size, 8, none⟩ (.bool false)).heap[w.heap.size]? = some (.cells #[.int .i64 0, .int .i64 0, .int .i64 0, .string ⟨#[]⟩, .int .i64 0, .slice none 0 0, .slice none 0 0, .int .i64 0, .bool false] 53) := blk_sameB s7 8 _
  have hBB : w.heap.size ≤ w.heap.size := Nat.le_refl _
  have bel0 : Below w.heap.size w (((((((((w2.setCell ⟨w.heap.size, 0, none⟩ (.int .i64 0)).setCell ⟨w.heap.size, 1, none⟩ (.int .i64 0)).setCell ⟨w.heap.size, 2, none⟩ (.int .i64 0)).setCell ⟨w.heap.size, 3, none⟩ (.string ⟨#[]⟩)).setCell ⟨w.heap.size, 4, none⟩ (.int .i64 0)).setCell ⟨w.heap.size, 5, none⟩ (.slice none 0 0)).setCell ⟨w.heap.size, 6, none⟩ (.slice none 0 0)).setCell ⟨w.heap.size, 7, none⟩ (.int .i64 0)).setCell ⟨w.heap.size, 8, none⟩ (.bool false)) := set_below (set_below (set_below (set_below (set_below (set_below (set_below (set_below (set_below (B3.out) hBB hBB 0 _) hBB hBB 1 _) hBB hBB 2 _) hBB hBB 3 _) hBB hBB 4 _) hBB hBB 5 _) hBB hBB 6 _) hBB hBB 7 _) hBB hBB 8 _
  obtain ⟨w9, hw9⟩ : ∃ w9, w9 = (((((((((w2.setCell ⟨w.heap.size, 0, none⟩ (.int .i64 0)).setCell ⟨w.heap.size, 1, none⟩ (.int .i64 0)).setCell ⟨w.heap.size, 2, none⟩ (.int .i64 0)).setCell ⟨w.heap.size, 3, none⟩ (.string ⟨#[]⟩)).setCell ⟨w.heap.size, 4, none⟩ (.int .i64 0)).setCell ⟨w.heap.size, 5, none⟩ (.slice none 0 0)).setCell ⟨w.heap.size, 6, none⟩ (.slice none 0 0)).setCell ⟨w.heap.size, 7, none⟩ (.int .i64 0)).setCell ⟨w.heap.size, 8, none⟩ (.bool false)) := ⟨_, rfl⟩
  have hb9 : w9.heap[w.heap.size]? = some (.cells #[.int .i64 0, .int .i64 0, .int .i64 0, .string ⟨#[]⟩, .int .i64 0, .slice none 0 0, .slice none 0 0, .int .i64 0, .bool false] 53) := by rw [hw9]; exact s8
  have bel : Below w.heap.size w w9 := by rw [hw9]; exact bel0
  clear s0 s1 s2 s3 s4 s5 s6 s7 s8 bel0
  rw [← hw9]
  have r0 : w9.cell? ⟨w.heap.size, 0, none⟩ = some (.int .i64 0) := cell_ofB hb9 0
  have r1 : w9.cell? ⟨w.heap.size, 1, none⟩ = some (.int .i64 0) := cell_ofB hb9 1
  have r2 : w9.cell? ⟨w.heap.size, 2, none⟩ = some (.int .i64 0) := cell_ofB hb9 2
  have r3 : w9.cell? ⟨w.heap.size, 3, none⟩ = some (.string ⟨#[]⟩) := cell_ofB hb9 3
  have r4 : w9.cell? ⟨w.heap.size, 4, none⟩ = some (.int .i64 0) := cell_ofB hb9 4
  have r5 : w9.cell? ⟨w.heap.size, 5, none⟩ = some (.slice none 0 0) := cell_ofB hb9 5
  have r6 : w9.cell? ⟨w.heap.size, 6, none⟩ = some (.slice none 0 0) := cell_ofB hb9 6
  have r7 : w9.cell? ⟨w.heap.size, 7, none⟩ = some (.int .i64 0) := cell_ofB hb9 7
  have r8 : w9.cell? ⟨w.heap.size, 8, none⟩ = some (.bool false) := cell_ofB hb9 8
  exact bodyPost_ret (v := .tuple #[.agg #[.int .i64 0, .int .i64 0, .int .i64 0, .string ⟨#[]⟩, .int .i64 0, .slice none 0 0, .slice none 0 0, .int .i64 0, .bool false], .bool false]) (by simp [results, Try.results34, go_sem, r0, r1, r2, r3, r4, r5, r6, r7, r8]) rfl ⟨rfl, bel⟩
end Go.Proofs.Ytklgagonbehpeaa
