/-
  Buffers: the program's own copy of a buffer (impl.ownBufferOf); its has.
-/
import Derived.Test.YtklgagonbehpeaaX1D
import Derived.Test.YtklgagonbehpeaaX1E
import Derived.Deep.RegionHeld
namespace Go.Proofs.Ytklgagonbehpeaa
open Go.ChangeShapes Go.WideShapes Go.ChangeAt Go.RowKit
set_option maxRecDepth 100000 in
set_option maxHeartbeats 2000000 in
theorem ihas_any (b : Nat) (M G : Int) (v1 : Value) (R : List Int) (s : Option Addr) (cs : Nat) (n : Int) (w : World) (hO : OB w b M G (.slice s R.length cs) v1) :
    Calls Try.prog 50 #[.pointer (some ⟨b, 0, none⟩), .int .i64 n] w fun r w' => r = .returned (.bool (decide (0 ≤ n ∧ n ≤ R.length))) ∧ w' = w := by
  have d1 : w.cell? ⟨b, 1, none⟩ = some (.slice s R.length cs) := cell_ofB hO 1
  generalize hq : decide (0 ≤ n ∧ n ≤ R.length) = q
  have HQ : Hid _ := hq
  clear hq hO
  by_cases h1 : 0 ≤ n
  · by_cases h2 : n ≤ (R.length : Int)
    · go_enter Try.func50, Try.ntmps50
      go_wp2
      go_ret
      exact ⟨by rw [← HQ.out, decide_eq_true (by omega)]; rfl, rfl⟩
    · go_enter Try.func50, Try.ntmps50
      go_wp2
      go_ret
      exact ⟨by rw [← HQ.out, decide_eq_false (by omega)]; rfl, rfl⟩
  · go_enter Try.func50, Try.ntmps50
    go_wp2
    go_ret
    exact ⟨by rw [← HQ.out, decide_eq_false (by omega)]; rfl, rfl⟩
theorem apart_lt {u v : Value} {k : Nat} (hu : ∀ g, u.ownBlock = some g → g < k) (hv : ∀ g, v.ownBlock = some g → k ≤ g) : u.ownBlock = none ∨ u.ownBlock ≠ v.ownBlock := by
  cases h : u.ownBlock with
  | none => exact .inl rfl
  | some g => exact .inr fun e => by have := hu g h; have := hv g e.symm; omega
theorem apart_gt {u v : Value} {k : Nat} (hu : ∀ g, u.ownBlock = some g → k ≤ g) (hv : ∀ g, v.ownBlock = some g → g < k) : u.ownBlock = none ∨ u.ownBlock ≠ v.ownBlock := by
  cases h : u.ownBlock with
  | none => exact .inl rfl
  | some g => exact .inr fun e => by have := hu g h; have := hv g e.symm; omega
theorem apart_nil (u : Value) : u.ownBlock = none ∨ u.ownBlock ≠ (Value.slice none 0 0).ownBlock := by
  cases h : u.ownBlock with
  | none => exact .inl rfl
  | some g => exact .inr fun e => by cases e
set_option maxRecDepth 100000 in
set_option maxHeartbeats 2000000 in
theorem ownOf_no (M G : Int) (R L : List Int) (s a : Option Addr) (cs ca : Nat) (w : World) (hR : R.length ≤ 1048576) (hL : L.length ≤ 1048576) (iR : IntsAt w s R) (iL : IntsAt w a L) (hg : goodBf M G R L = false) :
    Calls Try.prog 42 #[.agg #[.int .i64 M, .slice s R.length cs, .slice a L.length ca, .int .i64 G]] w fun r w' => r = .returned (.tuple #[.agg #[.int .i64 0, .slice none 0 0, .slice none 0 0, .int .i64 0], .bool false]) ∧ Below w.heap.size w w' := by
  have A2 : ∀ o p, Below w.heap.size w ((w.alloc o).alloc p) := fun o p => ((Below.refl _ _).alloc (Nat.le_refl _) o).alloc (by simp) p
  have HR : Hid (∀ o p, IntsAt ((w.alloc o).alloc p) s R) := fun o p => iR.keepB (A2 o p)
  have HL : Hid (∀ o p, IntsAt ((w.alloc o).alloc p) a L) := fun o p => iL.keepB (A2 o p)
  have HG : Hid _ := hg
  clear iR iL hg
  go_enter Try.func42, Try.ntmps42
  go_wp2_with fail
  refine (igoodBf_any M G R L s a cs ca _ hR hL (HR.out _ _) (HL.out _ _)).mono ?_
  rintro r w1 ⟨rfl, b1⟩
  rw [HG.out]
  have hs1 : w.heap.size + 1 < w1.heap.size := Nat.lt_of_lt_of_le (by simp) b1.size
  have hb1 : w1.heap[w.heap.size + 1]? = some (.cells #[.int .i64 0, .slice none 0 0, .slice none 0 0, .int .i64 0] 66) := (b1.block (w.heap.size + 1) (by simp)).trans (heap_lastB _ _ _ (by simp))
  have B1 : Hid (Below w.heap.size w w1) := (A2 _ _).trans (b1.mono (A2 _ _).size)
  have c0 : w1.cell? ⟨w.heap.size + 1, 0, none⟩ = some (.int .i64 0) := cell_ofB hb1 0
  have c1 : w1.cell? ⟨w.heap.size + 1, 1, none⟩ = some (.slice none 0 0) := cell_ofB hb1 1
  have c2 : w1.cell? ⟨w.heap.size + 1, 2, none⟩ = some (.slice none 0 0) := cell_ofB hb1 2
  have c3 : w1.cell? ⟨w.heap.size + 1, 3, none⟩ = some (.int .i64 0) := cell_ofB hb1 3
  have f0 : w1.frozen? ⟨w.heap.size + 1, 0, none⟩ = false := frozen_of_row w1 _ _ _ _ hb1
  have f1 : w1.frozen? ⟨w.heap.size + 1, 1, none⟩ = false := frozen_of_row w1 _ _ _ _ hb1
  have f2 : w1.frozen? ⟨w.heap.size + 1, 2, none⟩ = false := frozen_of_row w1 _ _ _ _ hb1
  have f3 : w1.frozen? ⟨w.heap.size + 1, 3, none⟩ = false := frozen_of_row w1 _ _ _ _ hb1
  have HB1 : Hid _ := hb1
  clear b1 hb1 A2 HR HL
  go_wp2
  obtain ⟨w9, hw9⟩ : ∃ w9, w9 = put4 w1 (w.heap.size + 1) (.int .i64 0) (.slice none 0 0) (.slice none 0 0) (.int .i64 0) := ⟨_, rfl⟩
  have hb9 : w9.heap[w.heap.size + 1]? = some (.cells #[.int .i64 0, .slice none 0 0, .slice none 0 0, .int .i64 0] 66) := by rw [hw9]; exact put4_same HB1.out _ _ _ _
  have bel : Below w.heap.size w w9 := by rw [hw9]; exact put4_below B1.out (by omega) B1.out.size _ _ _ _
  unfold put4 at hw9
  rw [← hw9]
  have r0 : w9.cell? ⟨w.heap.size + 1, 0, none⟩ = some (.int .i64 0) := cell_ofB hb9 0
  have r1 : w9.cell? ⟨w.heap.size + 1, 1, none⟩ = some (.slice none 0 0) := cell_ofB hb9 1
  have r2 : w9.cell? ⟨w.heap.size + 1, 2, none⟩ = some (.slice none 0 0) := cell_ofB hb9 2
  have r3 : w9.cell? ⟨w.heap.size + 1, 3, none⟩ = some (.int .i64 0) := cell_ofB hb9 3
  exact bodyPost_ret (v := .tuple #[.agg #[.int .i64 0, .slice none 0 0, .slice none 0 0, .int .i64 0], .bool false]) (by simp [results, Try.results42, go_sem, r0, r1, r2, r3]) rfl ⟨rfl, bel⟩
set_option maxRecDepth 100000 in
set_option maxHeartbeats 4000000 in
theorem ownOf_yes (M G : Int) (R L : List Int) (s a : Option Addr) (cs ca : Nat) (w : World) (hR : R.length ≤ 1048576) (hL : L.length ≤ 1048576) (iR : IntsAt w s R) (iL : IntsAt w a L) (hg : goodBf M G R L = true) :
    Calls Try.prog 42 #[.agg #[.int .i64 M, .slice s R.length cs, .slice a L.length ca, .int .i64 G]] w fun r w' => ∃ z0 z1 y0 y1, r = .returned (.tuple #[.agg #[.int .i64 M, .slice z0 R.length y0, .slice z1 L.length y1, .int .i64 G], .bool true]) ∧ Own3 w' w.heap.size w'.heap.size (.slice z0 R.length y0) (.slice z1 L.length y1) (.slice none 0 0) R L [] ∧ Below w.heap.size w w' := by
  have A2 : ∀ o p, Below w.heap.size w ((w.alloc o).alloc p) := fun o p => ((Below.refl _ _).alloc (Nat.le_refl _) o).alloc (by simp) p
  have HR : Hid (∀ o p, IntsAt ((w.alloc o).alloc p) s R) := fun o p => iR.keepB (A2 o p)
  have HL : Hid (∀ o p, IntsAt ((w.alloc o).alloc p) a L) := fun o p => iL.keepB (A2 o p)
  have HG : Hid _ := hg
  have IR : Hid (IntsAt w s R) := iR
  have IL : Hid (IntsAt w a L) := iL
  clear iR iL hg
  go_enter Try.func42, Try.ntmps42
  go_wp2_with fail
  refine (igoodBf_any M G R L s a cs ca _ hR hL (HR.out _ _) (HL.out _ _)).mono ?_
  rintro r w1 ⟨rfl, b1⟩
  rw [HG.out]
  have hs1 : w.heap.size + 1 < w1.heap.size := Nat.lt_of_lt_of_le (by simp) b1.size
  have hb0 : w1.heap[w.heap.size]? = some (.cells #[.int .i64 M, .slice s R.length cs, .slice a L.length ca, .int .i64 G] 26) := (b1.block w.heap.size (by simp; omega)).trans ((heap_prevB _ _ _ (by simp)).trans (heap_lastB _ _ _ rfl))
  have hb1 : w1.heap[w.heap.size + 1]? = some (.cells #[.int .i64 0, .slice none 0 0, .slice none 0 0, .int .i64 0] 66) := (b1.block (w.heap.size + 1) (by simp)).trans (heap_lastB _ _ _ (by simp))
  have B1 : Hid (Below w.heap.size w w1) := (A2 _ _).trans (b1.mono (A2 _ _).size)
  have hs2 : w.heap.size + 2 ≤ w1.drew.heap.size := hs1
  have HCR : Hid (∀ w', Below w1.heap.size w1.drew w' → Calls Try.prog 61 #[.slice s R.length cs] w' fun e w'' => ∃ v, e = .returned v ∧ w''.ownsRow w'.heap.size 3 1 v R.length (ints R) ∧ Below w'.heap.size w' w'') := fun w' hb => cloneI_any R s R.length cs w' rfl hR (IntsAt.keepB (IntsAt.keepB IR.out B1.out) (((Below.refl _ _).drew).trans hb))
  have HCL : Hid (∀ w', Below w1.heap.size w1.drew w' → Calls Try.prog 61 #[.slice a L.length ca] w' fun e w'' => ∃ v, e = .returned v ∧ w''.ownsRow w'.heap.size 3 1 v L.length (ints L) ∧ Below w'.heap.size w' w'') := fun w' hb => cloneI_any L a L.length ca w' rfl hL (IntsAt.keepB (IntsAt.keepB IL.out B1.out) (((Below.refl _ _).drew).trans hb))
  have HB0 : Hid (w1.drew.heap[w.heap.size]? = some (.cells #[.int .i64 M, .slice s R.length cs, .slice a L.length ca, .int .i64 G] 26)) := hb0
  have HB1 : Hid (w1.drew.heap[w.heap.size + 1]? = some (.cells #[.int .i64 0, .slice none 0 0, .slice none 0 0, .int .i64 0] 66)) := hb1
  have sD : (w1.drew.cell? ⟨w.heap.size, 0, none⟩ = some (.int .i64 M) ∧ w1.drew.cell? ⟨w.heap.size, 1, none⟩ = some (.slice s R.length cs) ∧ w1.drew.cell? ⟨w.heap.size, 2, none⟩ = some (.slice a L.length ca) ∧ w1.drew.cell? ⟨w.heap.size, 3, none⟩ = some (.int .i64 G)) := ⟨cell_ofB HB0.out 0, cell_ofB HB0.out 1, cell_ofB HB0.out 2, cell_ofB HB0.out 3⟩
  clear b1 hb0 hb1 A2 HR HL IR IL
  go_wp2
  go_region_held (fun w' => (w'.cell? ⟨w.heap.size, 0, none⟩ = some (.int .i64 M) ∧ w'.cell? ⟨w.heap.size, 1, none⟩ = some (.slice s R.length cs) ∧ w'.cell? ⟨w.heap.size, 2, none⟩ = some (.slice a L.length ca) ∧ w'.cell? ⟨w.heap.size, 3, none⟩ = some (.int .i64 G))) (first | assumption | go_keep) (first
    | (go_at_call 61
       (with_reducible refine Calls.mono (HCL.out _ bR.out) ?_)
       rintro r wz ⟨vL, rfl, oL, bz⟩
       obtain ⟨-, la, lc, rfl, -⟩ := ints_of_own oL
       have OO : Hid (Own3 wz (w.heap.size + 2) wz.heap.size (.slice ra R.length rc) (.slice la L.length lc) (.slice none 0 0) R L []) := Own3.mk _ (World.ownsRow.keepB oR.out bz) oL (World.ownsRow_nil wz (w.heap.size + 2) 3 1) hs2 (Nat.le_trans hs2 bR.out.size) (Nat.le_refl _) (apart_lt (fun g e => (World.ownsRow.lt oR.out g e).2) (fun g e => (World.ownsRow.lt oL g e).1)) (apart_nil _) (apart_nil _)
       have BZ : Hid (Below w1.heap.size w1.drew wz) := bR.out.trans (bz.mono bR.out.size)
       clear oL bz
       have hz0 : wz.heap[w.heap.size]? = some (.cells #[.int .i64 M, .slice s R.length cs, .slice a L.length ca, .int .i64 G] 26) := (BZ.out.block _ (by omega)).trans HB0.out
       have hz1 : wz.heap[w.heap.size + 1]? = some (.cells #[.int .i64 0, .slice none 0 0, .slice none 0 0, .int .i64 0] 66) := (BZ.out.block _ hs1).trans HB1.out
       have sz : (wz.cell? ⟨w.heap.size, 0, none⟩ = some (.int .i64 M) ∧ wz.cell? ⟨w.heap.size, 1, none⟩ = some (.slice s R.length cs) ∧ wz.cell? ⟨w.heap.size, 2, none⟩ = some (.slice a L.length ca) ∧ wz.cell? ⟨w.heap.size, 3, none⟩ = some (.int .i64 G)) := ⟨cell_ofB hz0 0, cell_ofB hz0 1, cell_ofB hz0 2, cell_ofB hz0 3⟩
       have y0 : wz.cell? ⟨w.heap.size + 1, 0, none⟩ = some (.int .i64 0) := cell_ofB hz1 0
       have y1 : wz.cell? ⟨w.heap.size + 1, 1, none⟩ = some (.slice none 0 0) := cell_ofB hz1 1
       have y2 : wz.cell? ⟨w.heap.size + 1, 2, none⟩ = some (.slice none 0 0) := cell_ofB hz1 2
       have y3 : wz.cell? ⟨w.heap.size + 1, 3, none⟩ = some (.int .i64 0) := cell_ofB hz1 3
       have f0 : wz.frozen? ⟨w.heap.size + 1, 0, none⟩ = false := frozen_of_row wz _ _ _ _ hz1
       have f1 : wz.frozen? ⟨w.heap.size + 1, 1, none⟩ = false := frozen_of_row wz _ _ _ _ hz1
       have f2 : wz.frozen? ⟨w.heap.size + 1, 2, none⟩ = false := frozen_of_row wz _ _ _ _ hz1
       have f3 : wz.frozen? ⟨w.heap.size + 1, 3, none⟩ = false := frozen_of_row wz _ _ _ _ hz1
       have HZ1 : Hid (wz.heap[w.heap.size + 1]? = some (.cells #[.int .i64 0, .slice none 0 0, .slice none 0 0, .int .i64 0] 66)) := hz1
       clear hz0 hz1)
    | (go_at_call 61
       (with_reducible refine Calls.mono (HCR.out w1.drew (Below.refl _ _)) ?_)
       rintro r wr ⟨vR, rfl, oR', bR'⟩
       obtain ⟨-, ra, rc, rfl, -⟩ := ints_of_own oR'
       have oR : Hid (wr.ownsRow w1.drew.heap.size 3 1 (.slice ra R.length rc) R.length (ints R)) := oR'
       have bR : Hid (Below w1.heap.size w1.drew wr) := bR'
       clear oR' bR'
       have hy0 : wr.heap[w.heap.size]? = some (.cells #[.int .i64 M, .slice s R.length cs, .slice a L.length ca, .int .i64 G] 26) := (bR.out.block _ (by omega)).trans HB0.out
       have sr : (wr.cell? ⟨w.heap.size, 0, none⟩ = some (.int .i64 M) ∧ wr.cell? ⟨w.heap.size, 1, none⟩ = some (.slice s R.length cs) ∧ wr.cell? ⟨w.heap.size, 2, none⟩ = some (.slice a L.length ca) ∧ wr.cell? ⟨w.heap.size, 3, none⟩ = some (.int .i64 G)) := ⟨cell_ofB hy0 0, cell_ofB hy0 1, cell_ofB hy0 2, cell_ofB hy0 3⟩
       clear hy0))
  all_goals
    go_wp2
    obtain ⟨w9, hw9⟩ : ∃ w9, w9 = put4 wz (w.heap.size + 1) (.int .i64 M) (.slice ra R.length rc) (.slice la L.length lc) (.int .i64 G) := ⟨_, rfl⟩
    have hb9 : w9.heap[w.heap.size + 1]? = some (.cells #[.int .i64 M, .slice ra R.length rc, .slice la L.length lc, .int .i64 G] 66) := by rw [hw9]; exact put4_same HZ1.out _ _ _ _
    have own9 : Own3 w9 (w.heap.size + 2) w9.heap.size (.slice ra R.length rc) (.slice la L.length lc) (.slice none 0 0) R L [] := by
      rw [hw9, put4_size]; exact put4_own3 OO.out (by omega) _ _ _ _
    have bel : Below w.heap.size w w9 := by
      rw [hw9]
      have q : Below w.heap.size w wz := (B1.out.drew).trans (BZ.out.mono B1.out.size)
      exact put4_below q (by omega) q.size _ _ _ _
    unfold put4 at hw9
    rw [← hw9]
    have r0 : w9.cell? ⟨w.heap.size + 1, 0, none⟩ = some (.int .i64 M) := cell_ofB hb9 0
    have r1 : w9.cell? ⟨w.heap.size + 1, 1, none⟩ = some (.slice ra R.length rc) := cell_ofB hb9 1
    have r2 : w9.cell? ⟨w.heap.size + 1, 2, none⟩ = some (.slice la L.length lc) := cell_ofB hb9 2
    have r3 : w9.cell? ⟨w.heap.size + 1, 3, none⟩ = some (.int .i64 G) := cell_ofB hb9 3
    exact bodyPost_ret (v := .tuple #[.agg #[.int .i64 M, .slice ra R.length rc, .slice la L.length lc, .int .i64 G], .bool true]) (by simp [results, Try.results42, go_sem, r0, r1, r2, r3]) rfl ⟨_, _, _, _, rfl, own9.mono (by omega), bel⟩
end Go.Proofs.Ytklgagonbehpeaa
