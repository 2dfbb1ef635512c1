/-
  An empty session: NewSession of the specification and of the program; the laws' comparison and marks of a session without runes.
-/
import Derived.Test.YtklgagonbehpeaaX1D
import Derived.Test.YtklgagonbehpeaaD2Good
namespace Go.Proofs.Ytklgagonbehpeaa
open Go.ChangeShapes Go.WideShapes Go.ChangeAt Go.RowKit
theorem goodD_nil (en : Int) : goodD en 0 0 ⟨#[]⟩ = codeB en := by
  cases hc : codeB en
  · exact good_parts _ _ _ _ (.inl hc)
  · rw [good_rest en 0 0 ⟨#[]⟩ hc (by decide) (by decide) (.inr (by omega))]
    simp [show (⟨#[]⟩ : ByteArray).size = 0 from rfl]
theorem goodBf_nil (most : Int) : goodBf most 0 [] [] = decide (1 ≤ most ∧ most ≤ 60) := by
  by_cases h : 1 ≤ most ∧ most ≤ 60
  · rw [decide_eq_true h]
    exact goodBf_iff.2 ⟨h, by simp; omega, rfl, rfl, rfl, by omega, by omega⟩
  · rw [decide_eq_false h, Bool.eq_false_iff]
    intro q
    exact h (goodBf_iff.1 q).1
theorem ints_nil (w : World) : IntsAt w none [] := fun j hj => by simp at hj
set_option maxRecDepth 100000 in
set_option maxHeartbeats 2000000 in
theorem sGoodS_any (en most : Int) (w : World) :
    Calls Try.prog 56 #[.agg #[.int .i64 en, .int .i64 0, .int .i64 0, .string ⟨#[]⟩, .int .i64 most, .slice none 0 0, .slice none 0 0, .int .i64 0, .bool false]] w fun r w' => r = .returned (.bool (codeB en && decide (1 ≤ most ∧ most ≤ 60))) ∧ Below w.heap.size w w' := by
  have A1 : ∀ o, Below w.heap.size w (w.alloc o) := fun o => (Below.refl _ _).alloc (Nat.le_refl _) o
  have hgb : Hid (∀ w', Calls Try.prog 16 #[.agg #[.int .i64 most, .slice none 0 0, .slice none 0 0, .int .i64 0]] w' fun r w'' => r = .returned (.bool (decide (1 ≤ most ∧ most ≤ 60))) ∧ Below w'.heap.size w' w'') := fun w' => by
    have h := sgoodBf_any most 0 [] [] none none 0 0 w' (by simp) (by simp) (ints_nil _) (ints_nil _)
    rw [goodBf_nil] at h
    exact h
  generalize decide (1 ≤ most ∧ most ≤ 60) = g at *
  cases hc : codeB en
  · have HC : Hid _ := hc
    clear hc
    go_enter Try.func56, Try.ntmps56
    go_wp2_with fail
    refine (gd_any en 0 0 ⟨#[]⟩ _).mono ?_
    rintro r w1 ⟨rfl, b1⟩
    rw [goodD_nil, HC.out]
    have B1 : Hid (Below w.heap.size w w1) := (A1 _).trans (b1.mono (by simp))
    clear b1
    go_wp2
    go_ret
    exact ⟨rfl, B1.out⟩
  · have HC : Hid _ := hc
    clear hc
    go_enter Try.func56, Try.ntmps56
    go_wp2_with fail
    refine (gd_any en 0 0 ⟨#[]⟩ _).mono ?_
    rintro r w1 ⟨rfl, b1⟩
    rw [goodD_nil, HC.out]
    have hb : w1.heap[w.heap.size]? = some (.cells #[.int .i64 en, .int .i64 0, .int .i64 0, .string ⟨#[]⟩, .int .i64 most, .slice none 0 0, .slice none 0 0, .int .i64 0, .bool false] 53) := (b1.block w.heap.size (by simp)).trans (heap_lastB _ _ _ rfl)
    have c4 : w1.cell? ⟨w.heap.size, 4, none⟩ = some (.int .i64 most) := cell_ofB hb 4
    have c5 : w1.cell? ⟨w.heap.size, 5, none⟩ = some (.slice none 0 0) := cell_ofB hb 5
    have c6 : w1.cell? ⟨w.heap.size, 6, none⟩ = some (.slice none 0 0) := cell_ofB hb 6
    have c7 : w1.cell? ⟨w.heap.size, 7, none⟩ = some (.int .i64 0) := cell_ofB hb 7
    have c8 : w1.cell? ⟨w.heap.size, 8, none⟩ = some (.bool false) := cell_ofB hb 8
    have c3 : w1.cell? ⟨w.heap.size, 3, none⟩ = some (.string ⟨#[]⟩) := cell_ofB hb 3
    have HB : Hid _ := hb
    have B1 : Hid (Below w.heap.size w w1) := (A1 _).trans (b1.mono (by simp))
    have hl1 : w.heap.size < w1.heap.size := Nat.lt_of_lt_of_le (by simp) b1.size
    clear b1 hb
    go_wp2_with fail
    refine Calls.mono (hgb.out _) ?_
    rintro r w2 ⟨rfl, b2⟩
    have hb2 := (b2.block w.heap.size hl1).trans HB.out
    have d8 : w2.cell? ⟨w.heap.size, 8, none⟩ = some (.bool false) := cell_ofB hb2 8
    have d3 : w2.cell? ⟨w.heap.size, 3, none⟩ = some (.string ⟨#[]⟩) := cell_ofB hb2 3
    have B2 : Hid (Below w.heap.size w w2) := B1.out.trans (b2.mono B1.out.size)
    clear b2 c3 c4 c5 c6 c7 c8 hb2 hgb
    cases g
    all_goals
      go_wp2
      go_ret
      exact ⟨rfl, B2.out⟩
theorem set_below {B : Nat} {w0 w : World} (h : Below B w0 w) (hs : B ≤ w0.heap.size) {b : Nat} (hb : B ≤ b) (o : Nat) (x : Value) : Below B w0 (w.setCell ⟨b, o, none⟩ x) :=
  Below.grown h (grown_setB w b o x) (Nat.le_trans hs h.size) (fun g e => by have := Option.some.inj e; omega)
set_option maxRecDepth 100000 in
set_option maxHeartbeats 2000000 in
theorem sNewS_no (en most : Int) (w : World) (h : (codeB en && decide (1 ≤ most ∧ most ≤ 60)) = false) :
    Calls Try.prog 33 #[.int .i64 en, .int .i64 most] w fun r w' => r = .returned (.tuple #[.agg #[.int .i64 0, .int .i64 0, .int .i64 0, .string ⟨#[]⟩, .int .i64 0, .slice none 0 0, .slice none 0 0, .int .i64 0, .bool false], .bool false]) ∧ Below w.heap.size w w' := by
  have HGS : Hid (∀ w', Calls Try.prog 56 #[.agg #[.int .i64 en, .int .i64 0, .int .i64 0, .string ⟨#[]⟩, .int .i64 most, .slice none 0 0, .slice none 0 0, .int .i64 0, .bool false]] w' fun r w'' => r = .returned (.bool false) ∧ Below w'.heap.size w' w'') := fun w' => by
    have q := sGoodS_any en most w'
    rw [h] at q
    exact q
  clear h
  have A2 : ∀ o p, Below w.heap.size w ((w.alloc o).alloc p) := fun o p => ((Below.refl _ _).alloc (Nat.le_refl _) o).alloc (by simp) p
  go_enter Try.func33, Try.ntmps33
  go_wp2_with fail
  refine Calls.mono (HGS.out _) ?_
  rintro r w1 ⟨rfl, b1⟩
  have hz : w1.heap[w.heap.size]? = some (.cells #[.int .i64 0, .int .i64 0, .int .i64 0, .string ⟨#[]⟩, .int .i64 0, .slice none 0 0, .slice none 0 0, .int .i64 0, .bool false] 53) := (b1.block w.heap.size (by simp; omega)).trans ((heap_prevB _ _ _ (by simp)).trans (heap_lastB _ _ _ rfl))
  have hy : w1.heap[w.heap.size + 1]? = some (.cells #[.int .i64 en, .int .i64 0, .int .i64 0, .string ⟨#[]⟩, .int .i64 most, .slice none 0 0, .slice none 0 0, .int .i64 0, .bool false] 53) := (b1.block (w.heap.size + 1) (by simp)).trans (heap_lastB _ _ _ (by simp))
  have B1 : Hid (Below w.heap.size w w1) := (A2 _ _).trans (b1.mono (A2 _ _).size)
  have z0 : w1.cell? ⟨w.heap.size, 0, none⟩ = some (.int .i64 0) := cell_ofB hz 0
  have zf0 : w1.frozen? ⟨w.heap.size, 0, none⟩ = false := frozen_of_row w1 _ _ _ _ hz
  have z1 : w1.cell? ⟨w.heap.size, 1, none⟩ = some (.int .i64 0) := cell_ofB hz 1
  have zf1 : w1.frozen? ⟨w.heap.size, 1, none⟩ = false := frozen_of_row w1 _ _ _ _ hz
  have z2 : w1.cell? ⟨w.heap.size, 2, none⟩ = some (.int .i64 0) := cell_ofB hz 2
  have zf2 : w1.frozen? ⟨w.heap.size, 2, none⟩ = false := frozen_of_row w1 _ _ _ _ hz
  have z3 : w1.cell? ⟨w.heap.size, 3, none⟩ = some (.string ⟨#[]⟩) := cell_ofB hz 3
  have zf3 : w1.frozen? ⟨w.heap.size, 3, none⟩ = false := frozen_of_row w1 _ _ _ _ hz
  have z4 : w1.cell? ⟨w.heap.size, 4, none⟩ = some (.int .i64 0) := cell_ofB hz 4
  have zf4 : w1.frozen? ⟨w.heap.size, 4, none⟩ = false := frozen_of_row w1 _ _ _ _ hz
  have z5 : w1.cell? ⟨w.heap.size, 5, none⟩ = some (.slice none 0 0) := cell_ofB hz 5
  have zf5 : w1.frozen? ⟨w.heap.size, 5, none⟩ = false := frozen_of_row w1 _ _ _ _ hz
  have z6 : w1.cell? ⟨w.heap.size, 6, none⟩ = some (.slice none 0 0) := cell_ofB hz 6
  have zf6 : w1.frozen? ⟨w.heap.size, 6, none⟩ = false := frozen_of_row w1 _ _ _ _ hz
  have z7 : w1.cell? ⟨w.heap.size, 7, none⟩ = some (.int .i64 0) := cell_ofB hz 7
  have zf7 : w1.frozen? ⟨w.heap.size, 7, none⟩ = false := frozen_of_row w1 _ _ _ _ hz
  have z8 : w1.cell? ⟨w.heap.size, 8, none⟩ = some (.bool false) := cell_ofB hz 8
  have zf8 : w1.frozen? ⟨w.heap.size, 8, none⟩ = false := frozen_of_row w1 _ _ _ _ hz
  have HZ : Hid _ := hz
  clear b1 hz hy A2 HGS
  go_wp2
  have s0 : (w1.setCell ⟨w.heap.size, 0, none⟩ (.int .i64 0)).heap[w.heap.size]? = some (.cells #[.int .i64 0, .int .i64 0, .int .i64 0, .string ⟨#[]⟩, .int .i64 0, .slice none 0 0, .slice none 0 0, .int .i64 0, .bool false] 53) := blk_sameB HZ.out 0 _
  have s1 : ((w1.setCell ⟨w.heap.size, 0, none⟩ (.int .i64 0)).setCell ⟨w.heap.size, 1, none⟩ (.int .i64 0)).heap[w.heap.size]? = some (.cells #[.int .i64 0, .int .i64 0, .int .i64 0, .string ⟨#[]⟩, .int .i64 0, .slice none 0 0, .slice none 0 0, .int .i64 0, .bool false] 53) := blk_sameB s0 1 _
  have s2 : (((w1.setCell ⟨w.heap.size, 0, none⟩ (.int .i64 0)).setCell ⟨w.heap.size, 1, none⟩ (.int .i64 0)).setCell ⟨w.heap.size, 2, none⟩ (.int .i64 0)).heap[w.heap.size]? = some (.cells #[.int .i64 0, .int .i64 0, .int .i64 0, .string ⟨#[]⟩, .int .i64 0, .slice none 0 0, .slice none 0 0, .int .i64 0, .bool false] 53) := blk_sameB s1 2 _
  have s3 : ((((w1.setCell ⟨w.heap.size, 0, none⟩ (.int .i64 0)).setCell ⟨w.heap.size, 1, none⟩ (.int .i64 0)).setCell ⟨w.heap.size, 2, none⟩ (.int .i64 0)).setCell ⟨w.heap.size, 3, none⟩ (.string ⟨#[]⟩)).heap[w.heap.size]? = some (.cells #[.int .i64 0, .int .i64 0, .int .i64 0, .string ⟨#[]⟩, .int .i64 0, .slice none 0 0, .slice none 0 0, .int .i64 0, .bool false] 53) := blk_sameB s2 3 _
  have s4 : (((((w1.setCell ⟨w.heap.size, 0, none⟩ (.int .i64 0)).setCell ⟨w.heap.size, 1, none⟩ (.int .i64 0)).setCell ⟨w.heap.size, 2, none⟩ (.int .i64 0)).setCell ⟨w.heap.size, 3, none⟩ (.string ⟨#[]⟩)).setCell ⟨w.heap.size, 4, none⟩ (.int .i64 0)).heap[w.heap.size]? = some (.cells #[.int .i64 0, .int .i64 0, .int .i64 0, .string ⟨#[]⟩, .int .i64 0, .slice none 0 0, .slice none 0 0, .int .i64 0, .bool false] 53) := blk_sameB s3 4 _
  have s5 : ((((((w1.setCell ⟨w.heap.size, 0, none⟩ (.int .i64 0)).setCell ⟨w.heap.size, 1, none⟩ (.int .i64 0)).setCell ⟨w.heap.size, 2, none⟩ (.int .i64 0)).setCell ⟨w.heap.size, 3, none⟩ (.string ⟨#[]⟩)).setCell ⟨w.heap.size, 4, none⟩ (.int .i64 0)).setCell ⟨w.heap.size, 5, none⟩ (.slice none 0 0)).heap[w.heap.size]? = some (.cells #[.int .i64 0, .int .i64 0, .int .i64 0, .string ⟨#[]⟩, .int .i64 0, .slice none 0 0, .slice none 0 0, .int .i64 0, .bool false] 53) := blk_sameB s4 5 _
  have s6 : (((((((w1.setCell ⟨w.heap.size, 0, none⟩ (.int .i64 0)).setCell ⟨w.heap.size, 1, none⟩ (.int .i64 0)).setCell ⟨w.heap.size, 2, none⟩ (.int .i64 0)).setCell ⟨w.heap.size, 3, none⟩ (.string ⟨#[]⟩)).setCell ⟨w.heap.size, 4, none⟩ (.int .i64 0)).setCell ⟨w.heap.size, 5, none⟩ (.slice none 0 0)).setCell ⟨w.heap.size, 6, none⟩ (.slice none 0 0)).heap[w.heap.size]? = some (.cells #[.int .i64 0, .int .i64 0, .int .i64 0, .string ⟨#[]⟩, .int .i64 0, .slice none 0 0, .slice none 0 0, .int .i64 0, .bool false] 53) := blk_sameB s5 6 _
  have s7 : ((((((((w1.setCell ⟨w.heap.size, 0, none⟩ (.int .i64 0)).setCell ⟨w.heap.size, 1, none⟩ (.int .i64 0)).setCell ⟨w.heap.size, 2, none⟩ (.int .i64 0)).setCell ⟨w.heap.size, 3, none⟩ (.string ⟨#[]⟩)).setCell ⟨w.heap.size, 4, none⟩ (.int .i64 0)).setCell ⟨w.heap.size, 5, none⟩ (.slice none 0 0)).setCell ⟨w.heap.size, 6, none⟩ (.slice none 0 0)).setCell ⟨w.heap.size, 7, none⟩ (.int .i64 0)).heap[w.heap.size]? = some (.cells #[.int .i64 0, .int .i64 0, .int .i64 0, .string ⟨#[]⟩, .int .i64 0, .slice none 0 0, .slice none 0 0, .int .i64 0, .bool false] 53) := blk_sameB s6 7 _
  have s8 : (((((((((w1.setCell ⟨w.heap.size, 0, none⟩ (.int .i64 0)).setCell ⟨w.heap.size, 1, none⟩ (.int .i64 0)).setCell ⟨w.heap.size, 2, none⟩ (.int .i64 0)).setCell ⟨w.heap.size, 3, none⟩ (.string ⟨#[]⟩)).setCell ⟨w.heap.size, 4, none⟩ (.int .i64 0)).setCell ⟨w.heap.size, 5, none⟩ (.slice none 0 0)).setCell ⟨w.heap.size, 6, none⟩ (.slice none 0 0)).setCell ⟨w.heap.size, 7, none⟩ (.int .i64 0)).setCell ⟨w.heap.size, 8, none⟩ (.bool false)).heap[w.heap.size]? = some (.cells #[.int .i64 0, .int .i64 0, .int .i64 0, .string ⟨#[]⟩, .int .i64 0, .slice none 0 0, .slice none 0 0, .int .i64 0, .bool false] 53) := blk_sameB s7 8 _
  have hBB : w.heap.size ≤ w.heap.size := Nat.le_refl _
  have bel0 : Below w.heap.size w (((((((((w1.setCell ⟨w.heap.size, 0, none⟩ (.int .i64 0)).setCell ⟨w.heap.size, 1, none⟩ (.int .i64 0)).setCell ⟨w.heap.size, 2, none⟩ (.int .i64 0)).setCell ⟨w.heap.size, 3, none⟩ (.string ⟨#[]⟩)).setCell ⟨w.heap.size, 4, none⟩ (.int .i64 0)).setCell ⟨w.heap.size, 5, none⟩ (.slice none 0 0)).setCell ⟨w.heap.size, 6, none⟩ (.slice none 0 0)).setCell ⟨w.heap.size, 7, none⟩ (.int .i64 0)).setCell ⟨w.heap.size, 8, none⟩ (.bool false)) := set_below (set_below (set_below (set_below (set_below (set_below (set_below (set_below (set_below (B1.out) hBB hBB 0 _) hBB hBB 1 _) hBB hBB 2 _) hBB hBB 3 _) hBB hBB 4 _) hBB hBB 5 _) hBB hBB 6 _) hBB hBB 7 _) hBB hBB 8 _
  obtain ⟨w9, hw9⟩ : ∃ w9, w9 = (((((((((w1.setCell ⟨w.heap.size, 0, none⟩ (.int .i64 0)).setCell ⟨w.heap.size, 1, none⟩ (.int .i64 0)).setCell ⟨w.heap.size, 2, none⟩ (.int .i64 0)).setCell ⟨w.heap.size, 3, none⟩ (.string ⟨#[]⟩)).setCell ⟨w.heap.size, 4, none⟩ (.int .i64 0)).setCell ⟨w.heap.size, 5, none⟩ (.slice none 0 0)).setCell ⟨w.heap.size, 6, none⟩ (.slice none 0 0)).setCell ⟨w.heap.size, 7, none⟩ (.int .i64 0)).setCell ⟨w.heap.size, 8, none⟩ (.bool false)) := ⟨_, rfl⟩
  have hb9 : w9.heap[w.heap.size]? = some (.cells #[.int .i64 0, .int .i64 0, .int .i64 0, .string ⟨#[]⟩, .int .i64 0, .slice none 0 0, .slice none 0 0, .int .i64 0, .bool false] 53) := by rw [hw9]; exact s8
  have bel : Below w.heap.size w w9 := by rw [hw9]; exact bel0
  clear s0 s1 s2 s3 s4 s5 s6 s7 s8 bel0
  rw [← hw9]
  have r0 : w9.cell? ⟨w.heap.size, 0, none⟩ = some (.int .i64 0) := cell_ofB hb9 0
  have r1 : w9.cell? ⟨w.heap.size, 1, none⟩ = some (.int .i64 0) := cell_ofB hb9 1
  have r2 : w9.cell? ⟨w.heap.size, 2, none⟩ = some (.int .i64 0) := cell_ofB hb9 2
  have r3 : w9.cell? ⟨w.heap.size, 3, none⟩ = some (.string ⟨#[]⟩) := cell_ofB hb9 3
  have r4 : w9.cell? ⟨w.heap.size, 4, none⟩ = some (.int .i64 0) := cell_ofB hb9 4
  have r5 : w9.cell? ⟨w.heap.size, 5, none⟩ = some (.slice none 0 0) := cell_ofB hb9 5
  have r6 : w9.cell? ⟨w.heap.size, 6, none⟩ = some (.slice none 0 0) := cell_ofB hb9 6
  have r7 : w9.cell? ⟨w.heap.size, 7, none⟩ = some (.int .i64 0) := cell_ofB hb9 7
  have r8 : w9.cell? ⟨w.heap.size, 8, none⟩ = some (.bool false) := cell_ofB hb9 8
  exact bodyPost_ret (v := .tuple #[.agg #[.int .i64 0, .int .i64 0, .int .i64 0, .string ⟨#[]⟩, .int .i64 0, .slice none 0 0, .slice none 0 0, .int .i64 0, .bool false], .bool false]) (by simp [results, Try.results33, go_sem, r0, r1, r2, r3, r4, r5, r6, r7, r8]) rfl ⟨rfl, bel⟩
set_option maxRecDepth 100000 in
set_option maxHeartbeats 2000000 in
theorem sNewS_yes (en most : Int) (w : World) (h : (codeB en && decide (1 ≤ most ∧ most ≤ 60)) = true) :
    Calls Try.prog 33 #[.int .i64 en, .int .i64 most] w fun r w' => r = .returned (.tuple #[.agg #[.int .i64 en, .int .i64 0, .int .i64 0, .string ⟨#[]⟩, .int .i64 most, .slice none 0 0, .slice none 0 0, .int .i64 0, .bool false], .bool true]) ∧ Below w.heap.size w w' := by
  have HGS : Hid (∀ w', Calls Try.prog 56 #[.agg #[.int .i64 en, .int .i64 0, .int .i64 0, .string ⟨#[]⟩, .int .i64 most, .slice none 0 0, .slice none 0 0, .int .i64 0, .bool false]] w' fun r w'' => r = .returned (.bool true) ∧ Below w'.heap.size w' w'') := fun w' => by
    have q := sGoodS_any en most w'
    rw [h] at q
    exact q
  clear h
  have A2 : ∀ o p, Below w.heap.size w ((w.alloc o).alloc p) := fun o p => ((Below.refl _ _).alloc (Nat.le_refl _) o).alloc (by simp) p
  go_enter Try.func33, Try.ntmps33
  go_wp2_with fail
  refine Calls.mono (HGS.out _) ?_
  rintro r w1 ⟨rfl, b1⟩
  have hz : w1.heap[w.heap.size]? = some (.cells #[.int .i64 0, .int .i64 0, .int .i64 0, .string ⟨#[]⟩, .int .i64 0, .slice none 0 0, .slice none 0 0, .int .i64 0, .bool false] 53) := (b1.block w.heap.size (by simp; omega)).trans ((heap_prevB _ _ _ (by simp)).trans (heap_lastB _ _ _ rfl))
  have hy : w1.heap[w.heap.size + 1]? = some (.cells #[.int .i64 en, .int .i64 0, .int .i64 0, .string ⟨#[]⟩, .int .i64 most, .slice none 0 0, .slice none 0 0, .int .i64 0, .bool false] 53) := (b1.block (w.heap.size + 1) (by simp)).trans (heap_lastB _ _ _ (by simp))
  have B1 : Hid (Below w.heap.size w w1) := (A2 _ _).trans (b1.mono (A2 _ _).size)
  have z0 : w1.cell? ⟨w.heap.size, 0, none⟩ = some (.int .i64 0) := cell_ofB hz 0
  have zf0 : w1.frozen? ⟨w.heap.size, 0, none⟩ = false := frozen_of_row w1 _ _ _ _ hz
  have z1 : w1.cell? ⟨w.heap.size, 1, none⟩ = some (.int .i64 0) := cell_ofB hz 1
  have zf1 : w1.frozen? ⟨w.heap.size, 1, none⟩ = false := frozen_of_row w1 _ _ _ _ hz
  have z2 : w1.cell? ⟨w.heap.size, 2, none⟩ = some (.int .i64 0) := cell_ofB hz 2
  have zf2 : w1.frozen? ⟨w.heap.size, 2, none⟩ = false := frozen_of_row w1 _ _ _ _ hz
  have z3 : w1.cell? ⟨w.heap.size, 3, none⟩ = some (.string ⟨#[]⟩) := cell_ofB hz 3
  have zf3 : w1.frozen? ⟨w.heap.size, 3, none⟩ = false := frozen_of_row w1 _ _ _ _ hz
  have z4 : w1.cell? ⟨w.heap.size, 4, none⟩ = some (.int .i64 0) := cell_ofB hz 4
  have zf4 : w1.frozen? ⟨w.heap.size, 4, none⟩ = false := frozen_of_row w1 _ _ _ _ hz
  have z5 : w1.cell? ⟨w.heap.size, 5, none⟩ = some (.slice none 0 0) := cell_ofB hz 5
  have zf5 : w1.frozen? ⟨w.heap.size, 5, none⟩ = false := frozen_of_row w1 _ _ _ _ hz
  have z6 : w1.cell? ⟨w.heap.size, 6, none⟩ = some (.slice none 0 0) := cell_ofB hz 6
  have zf6 : w1.frozen? ⟨w.heap.size, 6, none⟩ = false := frozen_of_row w1 _ _ _ _ hz
  have z7 : w1.cell? ⟨w.heap.size, 7, none⟩ = some (.int .i64 0) := cell_ofB hz 7
  have zf7 : w1.frozen? ⟨w.heap.size, 7, none⟩ = false := frozen_of_row w1 _ _ _ _ hz
  have z8 : w1.cell? ⟨w.heap.size, 8, none⟩ = some (.bool false) := cell_ofB hz 8
  have zf8 : w1.frozen? ⟨w.heap.size, 8, none⟩ = false := frozen_of_row w1 _ _ _ _ hz
  have y0 : w1.cell? ⟨w.heap.size + 1, 0, none⟩ = some (.int .i64 en) := cell_ofB hy 0
  have y1 : w1.cell? ⟨w.heap.size + 1, 1, none⟩ = some (.int .i64 0) := cell_ofB hy 1
  have y2 : w1.cell? ⟨w.heap.size + 1, 2, none⟩ = some (.int .i64 0) := cell_ofB hy 2
  have y3 : w1.cell? ⟨w.heap.size + 1, 3, none⟩ = some (.string ⟨#[]⟩) := cell_ofB hy 3
  have y4 : w1.cell? ⟨w.heap.size + 1, 4, none⟩ = some (.int .i64 most) := cell_ofB hy 4
  have y5 : w1.cell? ⟨w.heap.size + 1, 5, none⟩ = some (.slice none 0 0) := cell_ofB hy 5
  have y6 : w1.cell? ⟨w.heap.size + 1, 6, none⟩ = some (.slice none 0 0) := cell_ofB hy 6
  have y7 : w1.cell? ⟨w.heap.size + 1, 7, none⟩ = some (.int .i64 0) := cell_ofB hy 7
  have y8 : w1.cell? ⟨w.heap.size + 1, 8, none⟩ = some (.bool false) := cell_ofB hy 8
  have HZ : Hid _ := hz
  clear b1 hz hy A2 HGS
  go_wp2
  have s0 : (w1.setCell ⟨w.heap.size, 0, none⟩ (.int .i64 en)).heap[w.heap.size]? = some (.cells #[.int .i64 en, .int .i64 0, .int .i64 0, .string ⟨#[]⟩, .int .i64 0, .slice none 0 0, .slice none 0 0, .int .i64 0, .bool false] 53) := blk_sameB HZ.out 0 _
  have s1 : ((w1.setCell ⟨w.heap.size, 0, none⟩ (.int .i64 en)).setCell ⟨w.heap.size, 1, none⟩ (.int .i64 0)).heap[w.heap.size]? = some (.cells #[.int .i64 en, .int .i64 0, .int .i64 0, .string ⟨#[]⟩, .int .i64 0, .slice none 0 0, .slice none 0 0, .int .i64 0, .bool false] 53) := blk_sameB s0 1 _
  have s2 : (((w1.setCell ⟨w.heap.size, 0, none⟩ (.int .i64 en)).setCell ⟨w.heap.size, 1, none⟩ (.int .i64 0)).setCell ⟨w.heap.size, 2, none⟩ (.int .i64 0)).heap[w.heap.size]? = some (.cells #[.int .i64 en, .int .i64 0, .int .i64 0, .string ⟨#[]⟩, .int .i64 0, .slice none 0 0, .slice none 0 0, .int .i64 0, .bool false] 53) := blk_sameB s1 2 _
  have s3 : ((((w1.setCell ⟨w.heap.size, 0, none⟩ (.int .i64 en)).setCell ⟨w.heap.size, 1, none⟩ (.int .i64 0)).setCell ⟨w.heap.size, 2, none⟩ (.int .i64 0)).setCell ⟨w.heap.size, 3, none⟩ (.string ⟨#[]⟩)).heap[w.heap.size]? = some (.cells #[.int .i64 en, .int .i64 0, .int .i64 0, .string ⟨#[]⟩, .int .i64 0, .slice none 0 0, .slice none 0 0, .int .i64 0, .bool false] 53) := blk_sameB s2 3 _
  have s4 : (((((w1.setCell ⟨w.heap.size, 0, none⟩ (.int .i64 en)).setCell ⟨w.heap.size, 1, none⟩ (.int .i64 0)).setCell ⟨w.heap.size, 2, none⟩ (.int .i64 0)).setCell ⟨w.heap.size, 3, none⟩ (.string ⟨#[]⟩)).setCell ⟨w.heap.size, 4, none⟩ (.int .i64 most)).heap[w.heap.size]? = some (.cells #[.int .i64 en, .int .i64 0, .int .i64 0, .string ⟨#[]⟩, .int .i64 most, .slice none 0 0, .slice none 0 0, .int .i64 0, .bool false] 53) := blk_sameB s3 4 _
  have s5 : ((((((w1.setCell ⟨w.heap.size, 0, none⟩ (.int .i64 en)).setCell ⟨w.heap.size, 1, none⟩ (.int .i64 0)).setCell ⟨w.heap.size, 2, none⟩ (.int .i64 0)).setCell ⟨w.heap.size, 3, none⟩ (.string ⟨#[]⟩)).setCell ⟨w.heap.size, 4, none⟩ (.int .i64 most)).setCell ⟨w.heap.size, 5, none⟩ (.slice none 0 0)).heap[w.heap.size]? = some (.cells #[.int .i64 en, .int .i64 0, .int .i64 0, .string ⟨#[]⟩, .int .i64 most, .slice none 0 0, .slice none 0 0, .int .i64 0, .bool false] 53) := blk_sameB s4 5 _
  have s6 : (((((((w1.setCell ⟨w.heap.size, 0, none⟩ (.int .i64 en)).setCell ⟨w.heap.size, 1, none⟩ (.int .i64 0)).setCell ⟨w.heap.size, 2, none⟩ (.int .i64 0)).setCell ⟨w.heap.size, 3, none⟩ (.string ⟨#[]⟩)).setCell ⟨w.heap.size, 4, none⟩ (.int .i64 most)).setCell ⟨w.heap.size, 5, none⟩ (.slice none 0 0)).setCell ⟨w.heap.size, 6, none⟩ (.slice none 0 0)).heap[w.heap.size]? = some (.cells #[.int .i64 en, .int .i64 0, .int .i64 0, .string ⟨#[]⟩, .int .i64 most, .slice none 0 0, .slice none 0 0, .int .i64 0, .bool false] 53) := blk_sameB s5 6 _
  have s7 : ((((((((w1.setCell ⟨w.heap.size, 0, none⟩ (.int .i64 en)).setCell ⟨w.heap.size, 1, none⟩ (.int .i64 0)).setCell ⟨w.heap.size, 2, none⟩ (.int .i64 0)).setCell ⟨w.heap.size, 3, none⟩ (.string ⟨#[]⟩)).setCell ⟨w.heap.size, 4, none⟩ (.int .i64 most)).setCell ⟨w.heap.size, 5, none⟩ (.slice none 0 0)).setCell ⟨w.heap.size, 6, none⟩ (.slice none 0 0)).setCell ⟨w.heap.size, 7, none⟩ (.int .i64 0)).heap[w.heap.size]? = some (.cells #[.int .i64 en, .int .i64 0, .int .i64 0, .string ⟨#[]⟩, .int .i64 most, .slice none 0 0, .slice none 0 0, .int .i64 0, .bool false] 53) := blk_sameB s6 7 _
  have s8 : (((((((((w1.setCell ⟨w.heap.size, 0, none⟩ (.int .i64 en)).setCell ⟨w.heap.size, 1, none⟩ (.int .i64 0)).setCell ⟨w.heap.size, 2, none⟩ (.int .i64 0)).setCell ⟨w.heap.size, 3, none⟩ (.string ⟨#[]⟩)).setCell ⟨w.heap.size, 4, none⟩ (.int .i64 most)).setCell ⟨w.heap.size, 5, none⟩ (.slice none 0 0)).setCell ⟨w.heap.size, 6, none⟩ (.slice none 0 0)).setCell ⟨w.heap.size, 7, none⟩ (.int .i64 0)).setCell ⟨w.heap.size, 8, none⟩ (.bool false)).heap[w.heap.size]? = some (.cells #[.int .i64 en, .int .i64 0, .int .i64 0, .string ⟨#[]⟩, .int .i64 most, .slice none 0 0, .slice none 0 0, .int .i64 0, .bool false] 53) := blk_sameB s7 8 _
  have hBB : w.heap.size ≤ w.heap.size := Nat.le_refl _
  have bel0 : Below w.heap.size w (((((((((w1.setCell ⟨w.heap.size, 0, none⟩ (.int .i64 en)).setCell ⟨w.heap.size, 1, none⟩ (.int .i64 0)).setCell ⟨w.heap.size, 2, none⟩ (.int .i64 0)).setCell ⟨w.heap.size, 3, none⟩ (.string ⟨#[]⟩)).setCell ⟨w.heap.size, 4, none⟩ (.int .i64 most)).setCell ⟨w.heap.size, 5, none⟩ (.slice none 0 0)).setCell ⟨w.heap.size, 6, none⟩ (.slice none 0 0)).setCell ⟨w.heap.size, 7, none⟩ (.int .i64 0)).setCell ⟨w.heap.size, 8, none⟩ (.bool false)) := set_below (set_below (set_below (set_below (set_below (set_below (set_below (set_below (set_below (B1.out) hBB hBB 0 _) hBB hBB 1 _) hBB hBB 2 _) hBB hBB 3 _) hBB hBB 4 _) hBB hBB 5 _) hBB hBB 6 _) hBB hBB 7 _) hBB hBB 8 _
  obtain ⟨w9, hw9⟩ : ∃ w9, w9 = (((((((((w1.setCell ⟨w.heap.size, 0, none⟩ (.int .i64 en)).setCell ⟨w.heap.size, 1, none⟩ (.int .i64 0)).setCell ⟨w.heap.size, 2, none⟩ (.int .i64 0)).setCell ⟨w.heap.size, 3, none⟩ (.string ⟨#[]⟩)).setCell ⟨w.heap.size, 4, none⟩ (.int .i64 most)).setCell ⟨w.heap.size, 5, none⟩ (.slice none 0 0)).setCell ⟨w.heap.size, 6, none⟩ (.slice none 0 0)).setCell ⟨w.heap.size, 7, none⟩ (.int .i64 0)).setCell ⟨w.heap.size, 8, none⟩ (.bool false)) := ⟨_, rfl⟩
  have hb9 : w9.heap[w.heap.size]? = some (.cells #[.int .i64 en, .int .i64 0, .int .i64 0, .string ⟨#[]⟩, .int .i64 most, .slice none 0 0, .slice none 0 0, .int .i64 0, .bool false] 53) := by rw [hw9]; exact s8
  have bel : Below w.heap.size w w9 := by rw [hw9]; exact bel0
  clear s0 s1 s2 s3 s4 s5 s6 s7 s8 bel0
  rw [← hw9]
  have r0 : w9.cell? ⟨w.heap.size, 0, none⟩ = some (.int .i64 en) := cell_ofB hb9 0
  have r1 : w9.cell? ⟨w.heap.size, 1, none⟩ = some (.int .i64 0) := cell_ofB hb9 1
  have r2 : w9.cell? ⟨w.heap.size, 2, none⟩ = some (.int .i64 0) := cell_ofB hb9 2
  have r3 : w9.cell? ⟨w.heap.size, 3, none⟩ = some (.string ⟨#[]⟩) := cell_ofB hb9 3
  have r4 : w9.cell? ⟨w.heap.size, 4, none⟩ = some (.int .i64 most) := cell_ofB hb9 4
  have r5 : w9.cell? ⟨w.heap.size, 5, none⟩ = some (.slice none 0 0) := cell_ofB hb9 5
  have r6 : w9.cell? ⟨w.heap.size, 6, none⟩ = some (.slice none 0 0) := cell_ofB hb9 6
  have r7 : w9.cell? ⟨w.heap.size, 7, none⟩ = some (.int .i64 0) := cell_ofB hb9 7
  have r8 : w9.cell? ⟨w.heap.size, 8, none⟩ = some (.bool false) := cell_ofB hb9 8
  exact bodyPost_ret (v := .tuple #[.agg #[.int .i64 en, .int .i64 0, .int .i64 0, .string ⟨#[]⟩, .int .i64 most, .slice none 0 0, .slice none 0 0, .int .i64 0, .bool false], .bool true]) (by simp [results, Try.results33, go_sem, r0, r1, r2, r3, r4, r5, r6, r7, r8]) rfl ⟨rfl, bel⟩
end Go.Proofs.Ytklgagonbehpeaa
