/-
  Buffers: TakeBuf of the program.
-/
import Derived.Test.YtklgagonbehpeaaX1J
namespace Go.Proofs.Ytklgagonbehpeaa
open Go.ChangeShapes Go.WideShapes Go.ChangeAt Go.RowKit
set_option maxRecDepth 100000 in
set_option maxHeartbeats 4000000 in
theorem iTake_bad (M G : Int) (R L : List Int) (s a : Option Addr) (cs ca : Nat) (K : Int) (w : World) (hR : R.length ≤ 1048576) (hL : L.length ≤ 1048576) (iR : IntsAt w s R) (iL : IntsAt w a L) (hg : goodBf M G R L = false) :
    Calls Try.prog 20 #[.agg #[.int .i64 M, .slice s R.length cs, .slice a L.length ca, .int .i64 G], .int .i64 K] w fun r w' => ∃ v0 v1 v2, r = .returned (.tuple #[.agg #[.int .i64 (0), v0, v1, .int .i64 (0)], v2, .bool false]) ∧ Own3 w' w.heap.size w'.heap.size v0 v1 v2 [] [] [] ∧ Below w.heap.size w w' := by
  have A2 : ∀ o p, Below w.heap.size w ((w.alloc o).alloc p) := fun o p => ((Below.refl _ _).alloc (Nat.le_refl _) o).alloc (by simp) p
  have HR : Hid (∀ o p, IntsAt ((w.alloc o).alloc p) s R) := fun o p => iR.keepB (A2 o p)
  have HL : Hid (∀ o p, IntsAt ((w.alloc o).alloc p) a L) := fun o p => iL.keepB (A2 o p)
  have HG : Hid _ := hg
  clear iR iL hg
  go_enter Try.func20, Try.ntmps20
  go_wp2_with fail
  refine (ownOf_no M G R L s a cs ca _ hR hL (HR.out _ _) (HL.out _ _) HG.out).mono ?_
  rintro r w1 ⟨rfl, b1⟩
  have hs1 : w.heap.size + 1 < w1.heap.size := Nat.lt_of_lt_of_le (by simp) b1.size
  have hz1 : w1.heap[w.heap.size + 1]? = some (.cells #[.int .i64 0, .slice none 0 0, .slice none 0 0, .int .i64 0] 26) := (b1.block (w.heap.size + 1) (by simp)).trans (heap_lastB _ _ _ (by simp))
  have B1 : Hid (Below w.heap.size w w1) := (A2 _ _).trans (b1.mono (A2 _ _).size)
  have hz2 : (w1.alloc (.cells #[.int .i64 0, .slice none 0 0, .slice none 0 0, .int .i64 0] 66)).heap[w.heap.size + 1]? = some (.cells #[.int .i64 0, .slice none 0 0, .slice none 0 0, .int .i64 0] 26) := (heap_prevB _ _ _ hs1).trans hz1
  have B2 : Hid (Below w.heap.size w (w1.alloc (.cells #[.int .i64 0, .slice none 0 0, .slice none 0 0, .int .i64 0] 66))) := B1.out.alloc B1.out.size _
  have yy0 : (w1.alloc (.cells #[.int .i64 0, .slice none 0 0, .slice none 0 0, .int .i64 0] 66)).cell? ⟨w.heap.size + 1, 0, none⟩ = some (.int .i64 0) := cell_ofB hz2 0
  have ff0 : (w1.alloc (.cells #[.int .i64 0, .slice none 0 0, .slice none 0 0, .int .i64 0] 66)).frozen? ⟨w.heap.size + 1, 0, none⟩ = false := frozen_of_row (w1.alloc (.cells #[.int .i64 0, .slice none 0 0, .slice none 0 0, .int .i64 0] 66)) _ _ _ _ hz2
  have yy1 : (w1.alloc (.cells #[.int .i64 0, .slice none 0 0, .slice none 0 0, .int .i64 0] 66)).cell? ⟨w.heap.size + 1, 1, none⟩ = some (.slice none 0 0) := cell_ofB hz2 1
  have ff1 : (w1.alloc (.cells #[.int .i64 0, .slice none 0 0, .slice none 0 0, .int .i64 0] 66)).frozen? ⟨w.heap.size + 1, 1, none⟩ = false := frozen_of_row (w1.alloc (.cells #[.int .i64 0, .slice none 0 0, .slice none 0 0, .int .i64 0] 66)) _ _ _ _ hz2
  have yy2 : (w1.alloc (.cells #[.int .i64 0, .slice none 0 0, .slice none 0 0, .int .i64 0] 66)).cell? ⟨w.heap.size + 1, 2, none⟩ = some (.slice none 0 0) := cell_ofB hz2 2
  have ff2 : (w1.alloc (.cells #[.int .i64 0, .slice none 0 0, .slice none 0 0, .int .i64 0] 66)).frozen? ⟨w.heap.size + 1, 2, none⟩ = false := frozen_of_row (w1.alloc (.cells #[.int .i64 0, .slice none 0 0, .slice none 0 0, .int .i64 0] 66)) _ _ _ _ hz2
  have yy3 : (w1.alloc (.cells #[.int .i64 0, .slice none 0 0, .slice none 0 0, .int .i64 0] 66)).cell? ⟨w.heap.size + 1, 3, none⟩ = some (.int .i64 0) := cell_ofB hz2 3
  have ff3 : (w1.alloc (.cells #[.int .i64 0, .slice none 0 0, .slice none 0 0, .int .i64 0] 66)).frozen? ⟨w.heap.size + 1, 3, none⟩ = false := frozen_of_row (w1.alloc (.cells #[.int .i64 0, .slice none 0 0, .slice none 0 0, .int .i64 0] 66)) _ _ _ _ hz2
  have yyw0 : w1.cell? ⟨w.heap.size + 1, 0, none⟩ = some (.int .i64 0) := cell_ofB hz1 0
  have ffw0 : w1.frozen? ⟨w.heap.size + 1, 0, none⟩ = false := frozen_of_row w1 _ _ _ _ hz1
  have yyw1 : w1.cell? ⟨w.heap.size + 1, 1, none⟩ = some (.slice none 0 0) := cell_ofB hz1 1
  have ffw1 : w1.frozen? ⟨w.heap.size + 1, 1, none⟩ = false := frozen_of_row w1 _ _ _ _ hz1
  have yyw2 : w1.cell? ⟨w.heap.size + 1, 2, none⟩ = some (.slice none 0 0) := cell_ofB hz1 2
  have ffw2 : w1.frozen? ⟨w.heap.size + 1, 2, none⟩ = false := frozen_of_row w1 _ _ _ _ hz1
  have yyw3 : w1.cell? ⟨w.heap.size + 1, 3, none⟩ = some (.int .i64 0) := cell_ofB hz1 3
  have ffw3 : w1.frozen? ⟨w.heap.size + 1, 3, none⟩ = false := frozen_of_row w1 _ _ _ _ hz1
  have HZ1 : Hid _ := hz1
  clear b1 hz1 hz2 A2 HR HL
  go_wp2
  obtain ⟨w9, hw9⟩ : ∃ w9, w9 = (put4 w1 (w.heap.size + 1) (.int .i64 0) (.slice none 0 0) (.slice none 0 0) (.int .i64 0)).alloc (.cells #[.int .i64 0, .slice none 0 0, .slice none 0 0, .int .i64 0] 66) := ⟨_, rfl⟩
  have hb9 : w9.heap[w.heap.size + 1]? = some (.cells #[.int .i64 0, .slice none 0 0, .slice none 0 0, .int .i64 0] 26) := by rw [hw9]; exact (heap_prevB _ _ _ (by rw [put4_size]; exact hs1)).trans (put4_same HZ1.out _ _ _ _)
  have bel : Below w.heap.size w w9 := by
    rw [hw9]
    have q := put4_below B1.out (b := w.heap.size + 1) (by omega) B1.out.size (.int .i64 0) (.slice none 0 0) (.slice none 0 0) (.int .i64 0)
    exact q.alloc q.size _
  unfold put4 at hw9
  rw [← hw9]
  have r0 : w9.cell? ⟨w.heap.size + 1, 0, none⟩ = some (.int .i64 0) := cell_ofB hb9 0
  have r1 : w9.cell? ⟨w.heap.size + 1, 1, none⟩ = some (.slice none 0 0) := cell_ofB hb9 1
  have r2 : w9.cell? ⟨w.heap.size + 1, 2, none⟩ = some (.slice none 0 0) := cell_ofB hb9 2
  have r3 : w9.cell? ⟨w.heap.size + 1, 3, none⟩ = some (.int .i64 0) := cell_ofB hb9 3
  exact bodyPost_ret (v := .tuple #[.agg #[.int .i64 0, .slice none 0 0, .slice none 0 0, .int .i64 0], .slice none 0 0, .bool false]) (by simp [results, Try.results20, go_sem, r0, r1, r2, r3]) rfl ⟨_, _, _, rfl, (Own3.mk _ (World.ownsRow_nil _ w.heap.size _ _) (World.ownsRow_nil _ w.heap.size _ _) (World.ownsRow_nil _ w.heap.size _ _) (Nat.le_refl _) (Nat.le_refl _) (Nat.le_refl _) (apart_nil _) (apart_nil _) (apart_nil _)), bel⟩
set_option maxRecDepth 100000 in
set_option maxHeartbeats 4000000 in
theorem iTake_none (M G : Int) (R L : List Int) (s a : Option Addr) (cs ca : Nat) (K : Int) (w : World) (hR : R.length ≤ 1048576) (hL : L.length ≤ 1048576) (iR : IntsAt w s R) (iL : IntsAt w a L) (hg : goodBf M G R L = true) (hk : ¬ (0 ≤ K ∧ K ≤ R.length)) :
    Calls Try.prog 20 #[.agg #[.int .i64 M, .slice s R.length cs, .slice a L.length ca, .int .i64 G], .int .i64 K] w fun r w' => ∃ v0 v1 v2, r = .returned (.tuple #[.agg #[.int .i64 (0), v0, v1, .int .i64 (0)], v2, .bool false]) ∧ Own3 w' w.heap.size w'.heap.size v0 v1 v2 [] [] [] ∧ Below w.heap.size w w' := by
  have A2 : ∀ o p, Below w.heap.size w ((w.alloc o).alloc p) := fun o p => ((Below.refl _ _).alloc (Nat.le_refl _) o).alloc (by simp) p
  have HR : Hid (∀ o p, IntsAt ((w.alloc o).alloc p) s R) := fun o p => iR.keepB (A2 o p)
  have HL : Hid (∀ o p, IntsAt ((w.alloc o).alloc p) a L) := fun o p => iL.keepB (A2 o p)
  have HG : Hid _ := hg
  have hq : decide ((0:Int) ≤ K ∧ K ≤ (R.length : Int)) = false := decide_eq_false hk
  have HQ : Hid _ := hq
  clear iR iL hg hq hk
  go_enter Try.func20, Try.ntmps20
  go_wp2_with fail
  refine (ownOf_yes M G R L s a cs ca _ hR hL (HR.out _ _) (HL.out _ _) HG.out).mono ?_
  rintro r w1 ⟨z0, z1, y0, y1, rfl, o1, b1⟩
  have hs1 : w.heap.size + 1 < w1.heap.size := Nat.lt_of_lt_of_le (by simp) b1.size
  have hz1 : w1.heap[w.heap.size + 1]? = some (.cells #[.int .i64 0, .slice none 0 0, .slice none 0 0, .int .i64 0] 26) := (b1.block (w.heap.size + 1) (by simp)).trans (heap_lastB _ _ _ (by simp))
  have B1 : Hid (Below w.heap.size w w1) := (A2 _ _).trans (b1.mono (A2 _ _).size)
  have O1 : Hid (Own3 w1 (w.heap.size + 2) w1.heap.size (.slice z0 R.length y0) (.slice z1 L.length y1) (.slice none 0 0) R L []) := by have hq := o1; simp only [World.alloc, Array.size_push] at hq; exact hq
  have HO : Hid (OB (w1.alloc (.cells #[.int .i64 M, .slice z0 R.length y0, .slice z1 L.length y1, .int .i64 G] 66)) w1.heap.size M G (.slice z0 R.length y0) (.slice z1 L.length y1)) := heap_lastB _ _ _ rfl
  have hz2 : (w1.alloc (.cells #[.int .i64 M, .slice z0 R.length y0, .slice z1 L.length y1, .int .i64 G] 66)).heap[w.heap.size + 1]? = some (.cells #[.int .i64 0, .slice none 0 0, .slice none 0 0, .int .i64 0] 26) := (heap_prevB _ _ _ hs1).trans hz1
  have B2 : Hid (Below w.heap.size w (w1.alloc (.cells #[.int .i64 M, .slice z0 R.length y0, .slice z1 L.length y1, .int .i64 G] 66))) := B1.out.alloc B1.out.size _
  have O2 : Hid (Own3 (w1.alloc (.cells #[.int .i64 M, .slice z0 R.length y0, .slice z1 L.length y1, .int .i64 G] 66)) (w.heap.size + 2) (w1.alloc (.cells #[.int .i64 M, .slice z0 R.length y0, .slice z1 L.length y1, .int .i64 G] 66)).heap.size (.slice z0 R.length y0) (.slice z1 L.length y1) (.slice none 0 0) R L []) := by
    have h := O1.out.keepB ((Below.refl _ _).alloc (Nat.le_refl _) (.cells #[.int .i64 M, .slice z0 R.length y0, .slice z1 L.length y1, .int .i64 G] 66))
    exact ⟨h.1, ⟨fun g e => Nat.lt_of_lt_of_le (h.2.1.1 g e) (by simp), fun g e => Nat.lt_of_lt_of_le (h.2.1.2.1 g e) (by simp), fun g e => Nat.lt_of_lt_of_le (h.2.1.2.2 g e) (by simp)⟩, h.2.2⟩
  have HZ2 : Hid ((w1.alloc (.cells #[.int .i64 M, .slice z0 R.length y0, .slice z1 L.length y1, .int .i64 G] 66)).heap[w.heap.size + 1]? = some (.cells #[.int .i64 0, .slice none 0 0, .slice none 0 0, .int .i64 0] 26)) := hz2
  have yy0 : (w1.alloc (.cells #[.int .i64 M, .slice z0 R.length y0, .slice z1 L.length y1, .int .i64 G] 66)).cell? ⟨w.heap.size + 1, 0, none⟩ = some (.int .i64 0) := cell_ofB hz2 0
  have ff0 : (w1.alloc (.cells #[.int .i64 M, .slice z0 R.length y0, .slice z1 L.length y1, .int .i64 G] 66)).frozen? ⟨w.heap.size + 1, 0, none⟩ = false := frozen_of_row (w1.alloc (.cells #[.int .i64 M, .slice z0 R.length y0, .slice z1 L.length y1, .int .i64 G] 66)) _ _ _ _ hz2
  have yy1 : (w1.alloc (.cells #[.int .i64 M, .slice z0 R.length y0, .slice z1 L.length y1, .int .i64 G] 66)).cell? ⟨w.heap.size + 1, 1, none⟩ = some (.slice none 0 0) := cell_ofB hz2 1
  have ff1 : (w1.alloc (.cells #[.int .i64 M, .slice z0 R.length y0, .slice z1 L.length y1, .int .i64 G] 66)).frozen? ⟨w.heap.size + 1, 1, none⟩ = false := frozen_of_row (w1.alloc (.cells #[.int .i64 M, .slice z0 R.length y0, .slice z1 L.length y1, .int .i64 G] 66)) _ _ _ _ hz2
  have yy2 : (w1.alloc (.cells #[.int .i64 M, .slice z0 R.length y0, .slice z1 L.length y1, .int .i64 G] 66)).cell? ⟨w.heap.size + 1, 2, none⟩ = some (.slice none 0 0) := cell_ofB hz2 2
  have ff2 : (w1.alloc (.cells #[.int .i64 M, .slice z0 R.length y0, .slice z1 L.length y1, .int .i64 G] 66)).frozen? ⟨w.heap.size + 1, 2, none⟩ = false := frozen_of_row (w1.alloc (.cells #[.int .i64 M, .slice z0 R.length y0, .slice z1 L.length y1, .int .i64 G] 66)) _ _ _ _ hz2
  have yy3 : (w1.alloc (.cells #[.int .i64 M, .slice z0 R.length y0, .slice z1 L.length y1, .int .i64 G] 66)).cell? ⟨w.heap.size + 1, 3, none⟩ = some (.int .i64 0) := cell_ofB hz2 3
  have ff3 : (w1.alloc (.cells #[.int .i64 M, .slice z0 R.length y0, .slice z1 L.length y1, .int .i64 G] 66)).frozen? ⟨w.heap.size + 1, 3, none⟩ = false := frozen_of_row (w1.alloc (.cells #[.int .i64 M, .slice z0 R.length y0, .slice z1 L.length y1, .int .i64 G] 66)) _ _ _ _ hz2
  have yyw0 : w1.cell? ⟨w.heap.size + 1, 0, none⟩ = some (.int .i64 0) := cell_ofB hz1 0
  have ffw0 : w1.frozen? ⟨w.heap.size + 1, 0, none⟩ = false := frozen_of_row w1 _ _ _ _ hz1
  have yyw1 : w1.cell? ⟨w.heap.size + 1, 1, none⟩ = some (.slice none 0 0) := cell_ofB hz1 1
  have ffw1 : w1.frozen? ⟨w.heap.size + 1, 1, none⟩ = false := frozen_of_row w1 _ _ _ _ hz1
  have yyw2 : w1.cell? ⟨w.heap.size + 1, 2, none⟩ = some (.slice none 0 0) := cell_ofB hz1 2
  have ffw2 : w1.frozen? ⟨w.heap.size + 1, 2, none⟩ = false := frozen_of_row w1 _ _ _ _ hz1
  have yyw3 : w1.cell? ⟨w.heap.size + 1, 3, none⟩ = some (.int .i64 0) := cell_ofB hz1 3
  have ffw3 : w1.frozen? ⟨w.heap.size + 1, 3, none⟩ = false := frozen_of_row w1 _ _ _ _ hz1
  have HZ1 : Hid _ := hz1
  clear o1 b1 hz1 hz2 A2 HR HL O1
  go_wp2_with (first | (go_at_call 50; refine (ihas_any _ M G _ R _ _ K _ HO.out).mono ?_; rintro r w' ⟨rfl, rfl⟩; rw [HQ.out]) | fail)
  obtain ⟨w9, hw9⟩ : ∃ w9, w9 = (put4 w1 (w.heap.size + 1) (.int .i64 0) (.slice none 0 0) (.slice none 0 0) (.int .i64 0)).alloc (.cells #[.int .i64 M, .slice z0 R.length y0, .slice z1 L.length y1, .int .i64 G] 66) := ⟨_, rfl⟩
  have hb9 : w9.heap[w.heap.size + 1]? = some (.cells #[.int .i64 0, .slice none 0 0, .slice none 0 0, .int .i64 0] 26) := by rw [hw9]; exact (heap_prevB _ _ _ (by rw [put4_size]; exact hs1)).trans (put4_same HZ1.out _ _ _ _)
  have bel : Below w.heap.size w w9 := by
    rw [hw9]
    have q := put4_below B1.out (b := w.heap.size + 1) (by omega) B1.out.size (.int .i64 0) (.slice none 0 0) (.slice none 0 0) (.int .i64 0)
    exact q.alloc q.size _
  unfold put4 at hw9
  rw [← hw9]
  have r0 : w9.cell? ⟨w.heap.size + 1, 0, none⟩ = some (.int .i64 0) := cell_ofB hb9 0
  have r1 : w9.cell? ⟨w.heap.size + 1, 1, none⟩ = some (.slice none 0 0) := cell_ofB hb9 1
  have r2 : w9.cell? ⟨w.heap.size + 1, 2, none⟩ = some (.slice none 0 0) := cell_ofB hb9 2
  have r3 : w9.cell? ⟨w.heap.size + 1, 3, none⟩ = some (.int .i64 0) := cell_ofB hb9 3
  exact bodyPost_ret (v := .tuple #[.agg #[.int .i64 0, .slice none 0 0, .slice none 0 0, .int .i64 0], .slice none 0 0, .bool false]) (by simp [results, Try.results20, go_sem, r0, r1, r2, r3]) rfl ⟨_, _, _, rfl, (Own3.mk _ (World.ownsRow_nil _ w.heap.size _ _) (World.ownsRow_nil _ w.heap.size _ _) (World.ownsRow_nil _ w.heap.size _ _) (Nat.le_refl _) (Nat.le_refl _) (Nat.le_refl _) (apart_nil _) (apart_nil _) (apart_nil _)), bel⟩
set_option maxRecDepth 100000 in
set_option maxHeartbeats 4000000 in
theorem iTake_yes (M G : Int) (R L : List Int) (s a : Option Addr) (cs ca : Nat) (k : Nat) (w : World) (hR : R.length ≤ 1048576) (hL : L.length ≤ 1048576) (iR : IntsAt w s R) (iL : IntsAt w a L) (hg : goodBf M G R L = true) (hk : k ≤ R.length) (hs : G + sumL (L.take k) ≤ 1000000) :
    Calls Try.prog 20 #[.agg #[.int .i64 M, .slice s R.length cs, .slice a L.length ca, .int .i64 G], .int .i64 k] w fun r w' => ∃ v0 v1 v2, r = .returned (.tuple #[.agg #[.int .i64 (M), v0, v1, .int .i64 (G + sumL (L.take k))], v2, .bool true]) ∧ Own3 w' w.heap.size w'.heap.size v0 v1 v2 (R.drop k) (L.drop k) (R.take k) ∧ Below w.heap.size w w' := by
  have A2 : ∀ o p, Below w.heap.size w ((w.alloc o).alloc p) := fun o p => ((Below.refl _ _).alloc (Nat.le_refl _) o).alloc (by simp) p
  have HR : Hid (∀ o p, IntsAt ((w.alloc o).alloc p) s R) := fun o p => iR.keepB (A2 o p)
  have HL : Hid (∀ o p, IntsAt ((w.alloc o).alloc p) a L) := fun o p => iL.keepB (A2 o p)
  have HG : Hid _ := hg
  have hq : decide ((0:Int) ≤ (k:Int) ∧ (k:Int) ≤ (R.length : Int)) = true := decide_eq_true ⟨by omega, by omega⟩
  have HQ : Hid _ := hq
  obtain ⟨g1, g2, g3, g4, g5, g6⟩ := goodBf_iff.1 hg
  have hsum := inBx_sum (inBx_take g5 k)
  have hgo : decide (0 ≤ G + sumL (L.take k) ∧ G + sumL (L.take k) ≤ 1000000) = true := decide_eq_true ⟨by omega, hs⟩
  have HGO : Hid _ := hgo
  have hkL : k ≤ L.length := by omega
  have G5 : Hid _ := g5
  have G6 : Hid _ := g6
  clear iR iL hg hq g1 g2 g3 g4 g5 g6 hsum hs hgo
  go_enter Try.func20, Try.ntmps20
  go_wp2_with fail
  refine (ownOf_yes M G R L s a cs ca _ hR hL (HR.out _ _) (HL.out _ _) HG.out).mono ?_
  rintro r w1 ⟨z0, z1, y0, y1, rfl, o1, b1⟩
  have hs1 : w.heap.size + 1 < w1.heap.size := Nat.lt_of_lt_of_le (by simp) b1.size
  have hz1 : w1.heap[w.heap.size + 1]? = some (.cells #[.int .i64 0, .slice none 0 0, .slice none 0 0, .int .i64 0] 26) := (b1.block (w.heap.size + 1) (by simp)).trans (heap_lastB _ _ _ (by simp))
  have B1 : Hid (Below w.heap.size w w1) := (A2 _ _).trans (b1.mono (A2 _ _).size)
  have O1 : Hid (Own3 w1 (w.heap.size + 2) w1.heap.size (.slice z0 R.length y0) (.slice z1 L.length y1) (.slice none 0 0) R L []) := by have hq := o1; simp only [World.alloc, Array.size_push] at hq; exact hq
  have HO : Hid (OB (w1.alloc (.cells #[.int .i64 M, .slice z0 R.length y0, .slice z1 L.length y1, .int .i64 G] 66)) w1.heap.size M G (.slice z0 R.length y0) (.slice z1 L.length y1)) := heap_lastB _ _ _ rfl
  have hz2 : (w1.alloc (.cells #[.int .i64 M, .slice z0 R.length y0, .slice z1 L.length y1, .int .i64 G] 66)).heap[w.heap.size + 1]? = some (.cells #[.int .i64 0, .slice none 0 0, .slice none 0 0, .int .i64 0] 26) := (heap_prevB _ _ _ hs1).trans hz1
  have B2 : Hid (Below w.heap.size w (w1.alloc (.cells #[.int .i64 M, .slice z0 R.length y0, .slice z1 L.length y1, .int .i64 G] 66))) := B1.out.alloc B1.out.size _
  have O2 : Hid (Own3 (w1.alloc (.cells #[.int .i64 M, .slice z0 R.length y0, .slice z1 L.length y1, .int .i64 G] 66)) (w.heap.size + 2) (w1.alloc (.cells #[.int .i64 M, .slice z0 R.length y0, .slice z1 L.length y1, .int .i64 G] 66)).heap.size (.slice z0 R.length y0) (.slice z1 L.length y1) (.slice none 0 0) R L []) := by
    have h := O1.out.keepB ((Below.refl _ _).alloc (Nat.le_refl _) (.cells #[.int .i64 M, .slice z0 R.length y0, .slice z1 L.length y1, .int .i64 G] 66))
    exact ⟨h.1, ⟨fun g e => Nat.lt_of_lt_of_le (h.2.1.1 g e) (by simp), fun g e => Nat.lt_of_lt_of_le (h.2.1.2.1 g e) (by simp), fun g e => Nat.lt_of_lt_of_le (h.2.1.2.2 g e) (by simp)⟩, h.2.2⟩
  have HZ2 : Hid ((w1.alloc (.cells #[.int .i64 M, .slice z0 R.length y0, .slice z1 L.length y1, .int .i64 G] 66)).heap[w.heap.size + 1]? = some (.cells #[.int .i64 0, .slice none 0 0, .slice none 0 0, .int .i64 0] 26)) := hz2
  clear o1 b1 hz1 hz2 A2 HR HL O1 B1
  go_wp2_with (first | (go_at_call 50; refine (ihas_any _ M G _ R _ _ (k : Int) _ HO.out).mono ?_; rintro r w' ⟨rfl, rfl⟩; rw [HQ.out]) | fail)
  refine (itake_any w1.heap.size (w.heap.size + 2) M G R L _ _ _ _ k _ hR hL hk hkL G5.out G6.out HO.out O2.out (by simp; omega)).mono ?_
  rintro r w3 ⟨v0, v1, v2, rfl, ob3, o3, b3⟩
  obtain ⟨va, vb, vc, xa, xb, xc, rfl, rfl, rfl⟩ := o3.form
  rw [HGO.out]
  have B3 : Hid (Below w.heap.size w w3) := B2.out.trans (b3 w.heap.size (by omega) (by omega))
  have hz3 : w3.heap[w.heap.size + 1]? = some (.cells #[.int .i64 0, .slice none 0 0, .slice none 0 0, .int .i64 0] 26) := ((b3 (w.heap.size + 2) (by omega) (Nat.le_refl _)).block (w.heap.size + 1) (by omega)).trans HZ2.out
  have O3 : Hid (Own3 w3 (w.heap.size + 2) w3.heap.size (.slice va (R.drop k).length xa) (.slice vb (L.drop k).length xb) (.slice vc (R.take k).length xc) (R.drop k) (L.drop k) (R.take k)) := o3
  have OB3 : Hid (OB w3 w1.heap.size M (G + sumL (L.take k)) (.slice va (R.drop k).length xa) (.slice vb (L.drop k).length xb)) := ob3
  have yy0 : w3.cell? ⟨w.heap.size + 1, 0, none⟩ = some (.int .i64 0) := cell_ofB hz3 0
  have ff0 : w3.frozen? ⟨w.heap.size + 1, 0, none⟩ = false := frozen_of_row w3 _ _ _ _ hz3
  have yy1 : w3.cell? ⟨w.heap.size + 1, 1, none⟩ = some (.slice none 0 0) := cell_ofB hz3 1
  have ff1 : w3.frozen? ⟨w.heap.size + 1, 1, none⟩ = false := frozen_of_row w3 _ _ _ _ hz3
  have yy2 : w3.cell? ⟨w.heap.size + 1, 2, none⟩ = some (.slice none 0 0) := cell_ofB hz3 2
  have ff2 : w3.frozen? ⟨w.heap.size + 1, 2, none⟩ = false := frozen_of_row w3 _ _ _ _ hz3
  have yy3 : w3.cell? ⟨w.heap.size + 1, 3, none⟩ = some (.int .i64 0) := cell_ofB hz3 3
  have ff3 : w3.frozen? ⟨w.heap.size + 1, 3, none⟩ = false := frozen_of_row w3 _ _ _ _ hz3
  have HZ3 : Hid _ := hz3
  have q0 : w3.cell? ⟨w1.heap.size, 0, none⟩ = some (.int .i64 M) := cell_ofB ob3 0
  have q1 : w3.cell? ⟨w1.heap.size, 1, none⟩ = some (.slice va (R.drop k).length xa) := cell_ofB ob3 1
  have q2 : w3.cell? ⟨w1.heap.size, 2, none⟩ = some (.slice vb (L.drop k).length xb) := cell_ofB ob3 2
  have q3 : w3.cell? ⟨w1.heap.size, 3, none⟩ = some (.int .i64 (G + sumL (L.take k))) := cell_ofB ob3 3
  have hneq : ¬ w1.heap.size = w.heap.size + 1 := by omega
  have hneq' : ¬ w.heap.size + 1 = w1.heap.size := by omega
  clear b3 hz3 o3 ob3
  have HKK : Hid ((R.take k).length = k) := List.length_take_of_le hk
  generalize hy : sumL (L.take k) = y at *
  have HY : Hid (sumL (L.take k) = y) := hy
  clear hy
  go_wp2
  obtain ⟨w9, hw9⟩ : ∃ w9, w9 = put4 w3 (w.heap.size + 1) (.int .i64 M) (.slice va (R.length - k) xa) (.slice vb (L.length - k) xb) (.int .i64 (G + y)) := ⟨_, rfl⟩
  have hb9 : w9.heap[w.heap.size + 1]? = some (.cells #[.int .i64 M, .slice va (R.length - k) xa, .slice vb (L.length - k) xb, .int .i64 (G + y)] 26) := by rw [hw9]; exact put4_same HZ3.out _ _ _ _
  have bel : Below w.heap.size w w9 := by rw [hw9]; exact put4_below B3.out (by omega) (B3.out).size _ _ _ _
  have o9 : Own3 w9 w.heap.size w9.heap.size (.slice va (R.length - k) xa) (.slice vb (L.length - k) xb) (.slice vc (R.take k).length xc) (R.drop k) (L.drop k) (R.take k) := by
    rw [hw9]
    rw [put4_size]
    have h := put4_own3 O3.out (b := w.heap.size + 1) (by omega) (.int .i64 M) (.slice va (R.length - k) xa) (.slice vb (L.length - k) xb) (.int .i64 (G + y))
    simp only [List.length_drop] at h
    exact h.mono (by omega)
  unfold put4 at hw9
  rw [← hw9]
  have r0 : w9.cell? ⟨w.heap.size + 1, 0, none⟩ = some (.int .i64 M) := cell_ofB hb9 0
  have r1 : w9.cell? ⟨w.heap.size + 1, 1, none⟩ = some (.slice va (R.length - k) xa) := cell_ofB hb9 1
  have r2 : w9.cell? ⟨w.heap.size + 1, 2, none⟩ = some (.slice vb (L.length - k) xb) := cell_ofB hb9 2
  have r3 : w9.cell? ⟨w.heap.size + 1, 3, none⟩ = some (.int .i64 (G + y)) := cell_ofB hb9 3
  exact bodyPost_ret (v := .tuple #[.agg #[.int .i64 M, .slice va (R.length - k) xa, .slice vb (L.length - k) xb, .int .i64 (G + y)], .slice vc (R.take k).length xc, .bool true]) (by simp [results, Try.results20, go_sem, r0, r1, r2, r3]; omega) rfl ⟨_, _, _, by rw [HY.out], o9, bel⟩
set_option maxRecDepth 100000 in
set_option maxHeartbeats 4000000 in
theorem iTake_full (M G : Int) (R L : List Int) (s a : Option Addr) (cs ca : Nat) (k : Nat) (w : World) (hR : R.length ≤ 1048576) (hL : L.length ≤ 1048576) (iR : IntsAt w s R) (iL : IntsAt w a L) (hg : goodBf M G R L = true) (hk : k ≤ R.length) (hs : ¬ G + sumL (L.take k) ≤ 1000000) :
    Calls Try.prog 20 #[.agg #[.int .i64 M, .slice s R.length cs, .slice a L.length ca, .int .i64 G], .int .i64 k] w fun r w' => ∃ v0 v1 v2, r = .returned (.tuple #[.agg #[.int .i64 (0), v0, v1, .int .i64 (0)], v2, .bool false]) ∧ Own3 w' w.heap.size w'.heap.size v0 v1 v2 [] [] [] ∧ Below w.heap.size w w' := by
  have A2 : ∀ o p, Below w.heap.size w ((w.alloc o).alloc p) := fun o p => ((Below.refl _ _).alloc (Nat.le_refl _) o).alloc (by simp) p
  have HR : Hid (∀ o p, IntsAt ((w.alloc o).alloc p) s R) := fun o p => iR.keepB (A2 o p)
  have HL : Hid (∀ o p, IntsAt ((w.alloc o).alloc p) a L) := fun o p => iL.keepB (A2 o p)
  have HG : Hid _ := hg
  have hq : decide ((0:Int) ≤ (k:Int) ∧ (k:Int) ≤ (R.length : Int)) = true := decide_eq_true ⟨by omega, by omega⟩
  have HQ : Hid _ := hq
  obtain ⟨g1, g2, g3, g4, g5, g6⟩ := goodBf_iff.1 hg
  have hsum := inBx_sum (inBx_take g5 k)
  have hgo : decide (0 ≤ G + sumL (L.take k) ∧ G + sumL (L.take k) ≤ 1000000) = false := decide_eq_false (fun q => hs q.2)
  have HGO : Hid _ := hgo
  have hkL : k ≤ L.length := by omega
  have G5 : Hid _ := g5
  have G6 : Hid _ := g6
  clear iR iL hg hq g1 g2 g3 g4 g5 g6 hsum hs hgo
  go_enter Try.func20, Try.ntmps20
  go_wp2_with fail
  refine (ownOf_yes M G R L s a cs ca _ hR hL (HR.out _ _) (HL.out _ _) HG.out).mono ?_
  rintro r w1 ⟨z0, z1, y0, y1, rfl, o1, b1⟩
  have hs1 : w.heap.size + 1 < w1.heap.size := Nat.lt_of_lt_of_le (by simp) b1.size
  have hz1 : w1.heap[w.heap.size + 1]? = some (.cells #[.int .i64 0, .slice none 0 0, .slice none 0 0, .int .i64 0] 26) := (b1.block (w.heap.size + 1) (by simp)).trans (heap_lastB _ _ _ (by simp))
  have B1 : Hid (Below w.heap.size w w1) := (A2 _ _).trans (b1.mono (A2 _ _).size)
  have O1 : Hid (Own3 w1 (w.heap.size + 2) w1.heap.size (.slice z0 R.length y0) (.slice z1 L.length y1) (.slice none 0 0) R L []) := by have hq := o1; simp only [World.alloc, Array.size_push] at hq; exact hq
  have HO : Hid (OB (w1.alloc (.cells #[.int .i64 M, .slice z0 R.length y0, .slice z1 L.length y1, .int .i64 G] 66)) w1.heap.size M G (.slice z0 R.length y0) (.slice z1 L.length y1)) := heap_lastB _ _ _ rfl
  have hz2 : (w1.alloc (.cells #[.int .i64 M, .slice z0 R.length y0, .slice z1 L.length y1, .int .i64 G] 66)).heap[w.heap.size + 1]? = some (.cells #[.int .i64 0, .slice none 0 0, .slice none 0 0, .int .i64 0] 26) := (heap_prevB _ _ _ hs1).trans hz1
  have B2 : Hid (Below w.heap.size w (w1.alloc (.cells #[.int .i64 M, .slice z0 R.length y0, .slice z1 L.length y1, .int .i64 G] 66))) := B1.out.alloc B1.out.size _
  have O2 : Hid (Own3 (w1.alloc (.cells #[.int .i64 M, .slice z0 R.length y0, .slice z1 L.length y1, .int .i64 G] 66)) (w.heap.size + 2) (w1.alloc (.cells #[.int .i64 M, .slice z0 R.length y0, .slice z1 L.length y1, .int .i64 G] 66)).heap.size (.slice z0 R.length y0) (.slice z1 L.length y1) (.slice none 0 0) R L []) := by
    have h := O1.out.keepB ((Below.refl _ _).alloc (Nat.le_refl _) (.cells #[.int .i64 M, .slice z0 R.length y0, .slice z1 L.length y1, .int .i64 G] 66))
    exact ⟨h.1, ⟨fun g e => Nat.lt_of_lt_of_le (h.2.1.1 g e) (by simp), fun g e => Nat.lt_of_lt_of_le (h.2.1.2.1 g e) (by simp), fun g e => Nat.lt_of_lt_of_le (h.2.1.2.2 g e) (by simp)⟩, h.2.2⟩
  have HZ2 : Hid ((w1.alloc (.cells #[.int .i64 M, .slice z0 R.length y0, .slice z1 L.length y1, .int .i64 G] 66)).heap[w.heap.size + 1]? = some (.cells #[.int .i64 0, .slice none 0 0, .slice none 0 0, .int .i64 0] 26)) := hz2
  clear o1 b1 hz1 hz2 A2 HR HL O1 B1
  go_wp2_with (first | (go_at_call 50; refine (ihas_any _ M G _ R _ _ (k : Int) _ HO.out).mono ?_; rintro r w' ⟨rfl, rfl⟩; rw [HQ.out]) | fail)
  refine (itake_any w1.heap.size (w.heap.size + 2) M G R L _ _ _ _ k _ hR hL hk hkL G5.out G6.out HO.out O2.out (by simp; omega)).mono ?_
  rintro r w3 ⟨v0, v1, v2, rfl, ob3, o3, b3⟩
  obtain ⟨va, vb, vc, xa, xb, xc, rfl, rfl, rfl⟩ := o3.form
  rw [HGO.out]
  have B3 : Hid (Below w.heap.size w w3) := B2.out.trans (b3 w.heap.size (by omega) (by omega))
  have hz3 : w3.heap[w.heap.size + 1]? = some (.cells #[.int .i64 0, .slice none 0 0, .slice none 0 0, .int .i64 0] 26) := ((b3 (w.heap.size + 2) (by omega) (Nat.le_refl _)).block (w.heap.size + 1) (by omega)).trans HZ2.out
  have O3 : Hid (Own3 w3 (w.heap.size + 2) w3.heap.size (.slice va (R.drop k).length xa) (.slice vb (L.drop k).length xb) (.slice vc (R.take k).length xc) (R.drop k) (L.drop k) (R.take k)) := o3
  have OB3 : Hid (OB w3 w1.heap.size M (G + sumL (L.take k)) (.slice va (R.drop k).length xa) (.slice vb (L.drop k).length xb)) := ob3
  have yy0 : w3.cell? ⟨w.heap.size + 1, 0, none⟩ = some (.int .i64 0) := cell_ofB hz3 0
  have ff0 : w3.frozen? ⟨w.heap.size + 1, 0, none⟩ = false := frozen_of_row w3 _ _ _ _ hz3
  have yy1 : w3.cell? ⟨w.heap.size + 1, 1, none⟩ = some (.slice none 0 0) := cell_ofB hz3 1
  have ff1 : w3.frozen? ⟨w.heap.size + 1, 1, none⟩ = false := frozen_of_row w3 _ _ _ _ hz3
  have yy2 : w3.cell? ⟨w.heap.size + 1, 2, none⟩ = some (.slice none 0 0) := cell_ofB hz3 2
  have ff2 : w3.frozen? ⟨w.heap.size + 1, 2, none⟩ = false := frozen_of_row w3 _ _ _ _ hz3
  have yy3 : w3.cell? ⟨w.heap.size + 1, 3, none⟩ = some (.int .i64 0) := cell_ofB hz3 3
  have ff3 : w3.frozen? ⟨w.heap.size + 1, 3, none⟩ = false := frozen_of_row w3 _ _ _ _ hz3
  have HZ3 : Hid _ := hz3
  clear b3 hz3 o3 ob3
  go_wp2
  obtain ⟨w9, hw9⟩ : ∃ w9, w9 = put4 w3 (w.heap.size + 1) (.int .i64 0) (.slice none 0 0) (.slice none 0 0) (.int .i64 0) := ⟨_, rfl⟩
  have hb9 : w9.heap[w.heap.size + 1]? = some (.cells #[.int .i64 0, .slice none 0 0, .slice none 0 0, .int .i64 0] 26) := by rw [hw9]; exact put4_same HZ3.out _ _ _ _
  have bel : Below w.heap.size w w9 := by rw [hw9]; exact put4_below B3.out (by omega) (B3.out).size _ _ _ _
  have o9 : Own3 w9 w.heap.size w9.heap.size (.slice none 0 0) (.slice none 0 0) (.slice none 0 0) [] [] [] := by
    rw [hw9]
    exact (Own3.mk _ (World.ownsRow_nil _ w.heap.size _ _) (World.ownsRow_nil _ w.heap.size _ _) (World.ownsRow_nil _ w.heap.size _ _) (Nat.le_refl _) (Nat.le_refl _) (Nat.le_refl _) (apart_nil _) (apart_nil _) (apart_nil _))
  unfold put4 at hw9
  rw [← hw9]
  have r0 : w9.cell? ⟨w.heap.size + 1, 0, none⟩ = some (.int .i64 0) := cell_ofB hb9 0
  have r1 : w9.cell? ⟨w.heap.size + 1, 1, none⟩ = some (.slice none 0 0) := cell_ofB hb9 1
  have r2 : w9.cell? ⟨w.heap.size + 1, 2, none⟩ = some (.slice none 0 0) := cell_ofB hb9 2
  have r3 : w9.cell? ⟨w.heap.size + 1, 3, none⟩ = some (.int .i64 0) := cell_ofB hb9 3
  exact bodyPost_ret (v := .tuple #[.agg #[.int .i64 0, .slice none 0 0, .slice none 0 0, .int .i64 0], .slice none 0 0, .bool false]) (by simp [results, Try.results20, go_sem, r0, r1, r2, r3]) rfl ⟨_, _, _, rfl, o9, bel⟩
end Go.Proofs.Ytklgagonbehpeaa
