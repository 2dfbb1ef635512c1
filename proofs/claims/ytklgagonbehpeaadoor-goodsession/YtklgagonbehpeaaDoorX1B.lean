/-
  The laws' copy, size and comparison of a buffer; marks on three lists.
-/
import Derived.Test.YtklgagonbehpeaaDoorX1A
namespace Go.Proofs.YtklgagonbehpeaaDoor
open Go.ChangeShapes Go.WideShapes Go.ChangeAt Go.RowKit
set_option maxRecDepth 100000 in
set_option maxHeartbeats 2000000 in
theorem szBuf_any (M G : Int) (R L : List Int) (s a : Option Addr) (cs ca : Nat) (w : World) (hR : R.length ≤ maxLen) (hL : L.length ≤ maxLen) :
    Calls Tryd.prog 10 #[.agg #[.int .i64 M, .slice s R.length cs, .slice a L.length ca, .int .i64 G], .int .i64 1048576] w fun r w' => ((R.length + L.length ≤ 1048576 ∧ r = .returned (.int .i64 (1048576 - R.length - L.length))) ∨ (1048576 < R.length + L.length ∧ r = .returned (.int .i64 (-1)))) ∧ Below w.heap.size w w' := by
  have hR1 : R.length ≤ 9223372036854775807 := hR
  have hL1 : L.length ≤ 9223372036854775807 := hL
  have A1 : ∀ o, Below w.heap.size w (w.alloc o) := fun o => (Below.refl _ _).alloc (Nat.le_refl _) o
  by_cases h1 : (1048576 : Int) - R.length < 0
  · go_enter Tryd.func10, Tryd.ntmps10
    go_wp2_with (first | (go_at_call 19; go_in) | fail)
    go_ret
    exact ⟨.inr ⟨by omega, rfl⟩, by first | exact A1 _ | go_grown⟩
  · by_cases h2 : (1048576 : Int) - R.length - L.length < 0
    · go_enter Tryd.func10, Tryd.ntmps10
      go_wp2_with (first | (go_at_call 19; go_in) | fail)
      go_ret
      exact ⟨.inr ⟨by omega, rfl⟩, by first | exact A1 _ | go_grown⟩
    · go_enter Tryd.func10, Tryd.ntmps10
      go_wp2_with (first | (go_at_call 19; go_in) | fail)
      go_ret
      exact ⟨.inl ⟨by omega, rfl⟩, by first | exact A1 _ | go_grown⟩
set_option maxRecDepth 100000 in
set_option maxHeartbeats 2000000 in
theorem eqBuf_any (M G : Int) (R L : List Int) (s a s' a' : Option Addr) (cs ca cs' ca' : Nat) (w : World) (hR : R.length ≤ 1048576) (hL : L.length ≤ 1048576) (iR : IntsAt w s R) (iL : IntsAt w a L) (iR' : IntsAt w s' R) (iL' : IntsAt w a' L) :
    Calls Tryd.prog 18 #[.agg #[.int .i64 M, .slice s R.length cs, .slice a L.length ca, .int .i64 G], .agg #[.int .i64 M, .slice s' R.length cs', .slice a' L.length ca', .int .i64 G]] w fun r w' => r = .returned (.bool true) ∧ Below w.heap.size w w' := by
  have HR : Hid _ := iR
  have HL : Hid _ := iL
  have HR' : Hid _ := iR'
  have HL' : Hid _ := iL'
  have A2 : ∀ o p, Below w.heap.size w ((w.alloc o).alloc p) := fun o p => ((Below.refl _ _).alloc (Nat.le_refl _) o).alloc (by simp) p
  clear iR iL iR' iL'
  go_enter Tryd.func18, Tryd.ntmps18
  go_wp2_with fail
  refine (eq_any R _ _ _ _ _ hR (IntsAt.keepB HR.out (A2 _ _)) (IntsAt.keepB HR'.out (A2 _ _))).mono ?_
  rintro r w1 ⟨rfl, b1⟩
  have hb2 : w1.heap[w.heap.size]? = some (.cells #[.int .i64 M, .slice s R.length cs, .slice a L.length ca, .int .i64 G] 32) := (b1.block w.heap.size (by simp; omega)).trans ((heap_prevB _ _ _ (by simp)).trans (heap_lastB _ _ _ rfl))
  have hb3 : w1.heap[w.heap.size + 1]? = some (.cells #[.int .i64 M, .slice s' R.length cs', .slice a' L.length ca', .int .i64 G] 32) := (b1.block (w.heap.size + 1) (by simp)).trans (heap_lastB _ _ _ (by simp))
  have c1 : w1.cell? ⟨w.heap.size, 2, none⟩ = some (.slice a L.length ca) := cell_ofB hb2 2
  have d1 : w1.cell? ⟨w.heap.size + 1, 2, none⟩ = some (.slice a' L.length ca') := cell_ofB hb3 2
  have hs1 : w.heap.size + 2 ≤ w1.heap.size := Nat.le_trans (by simp) b1.size
  have B1 : Hid (Below w.heap.size w w1) := (A2 _ _).trans (b1.mono (A2 _ _).size)
  clear b1 A2
  go_wp2_with fail
  refine (eq_any L _ _ _ _ _ hL (IntsAt.keepB HL.out B1.out) (IntsAt.keepB HL'.out B1.out)).mono ?_
  rintro r w2 ⟨rfl, b2⟩
  have c2 : w2.cell? ⟨w.heap.size, 3, none⟩ = some (.int .i64 G) := cell_ofB ((b2.block w.heap.size (by omega)).trans hb2) 3
  have d2 : w2.cell? ⟨w.heap.size + 1, 3, none⟩ = some (.int .i64 G) := cell_ofB ((b2.block (w.heap.size + 1) (by omega)).trans hb3) 3
  have B2 : Hid (Below w.heap.size w w2) := B1.out.trans (b2.mono B1.out.size)
  clear b2 c1 d1 hb2 hb3
  go_wp2
  go_ret
  exact ⟨rfl, B2.out⟩
set_option maxRecDepth 100000 in
set_option maxHeartbeats 4000000 in
theorem toBuf_any (M G : Int) (R L : List Int) (s a : Option Addr) (cs ca : Nat) (w : World) (hR : R.length ≤ 1048576) (hL : L.length ≤ 1048576) (iR : IntsAt w s R) (iL : IntsAt w a L) :
    Calls Tryd.prog 14 #[.agg #[.int .i64 M, .slice s R.length cs, .slice a L.length ca, .int .i64 G]] w fun r w' => ∃ z0 z1 y0 y1, r = .returned (.agg #[.int .i64 M, .slice z0 R.length y0, .slice z1 L.length y1, .int .i64 G]) ∧ Own3 w' w.heap.size w'.heap.size (.slice z0 R.length y0) (.slice z1 L.length y1) (.slice none 0 0) R L [] ∧ Below w.heap.size w w' := by
  have H0 : Hid (IntsAt w s R) := iR
  have H1 : Hid (IntsAt w a L) := iL
  clear iR iL
  have A3 : ∀ o p q, Below w.heap.size w (((w.alloc o).alloc p).alloc q) := fun o p q => (((Below.refl _ _).alloc (Nat.le_refl _) o).alloc (by simp) p).alloc (by simp; omega) q
  go_enter Tryd.func14, Tryd.ntmps14
  go_wp2_with fail
  refine (toI_any R s cs _ hR (IntsAt.keepB H0.out (A3 _ _ _))).mono ?_
  rintro r w2 ⟨v0, rfl, o0, b2⟩
  have hs2 : w.heap.size + 1 + 1 < w2.heap.size := Nat.lt_of_lt_of_le (by simp) b2.size
  have hb0 : w2.heap[w.heap.size]? = some (.cells #[.int .i64 M, .slice s R.length cs, .slice a L.length ca, .int .i64 G] 26) := (b2.block w.heap.size (by simp; omega)).trans ((heap_prevB _ _ _ (by simp; omega)).trans ((heap_prevB _ _ _ (by simp)).trans (heap_lastB _ _ _ rfl)))
  have hb1 : w2.heap[w.heap.size + 1]? = some (.cells #[.int .i64 0, .slice none 0 0, .slice none 0 0, .int .i64 0] 32) := (b2.block (w.heap.size + 1) (by simp)).trans ((heap_prevB _ _ _ (by simp)).trans (heap_lastB _ _ _ (by simp)))
  have hb2 : w2.heap[w.heap.size + 1 + 1]? = some (.cells #[.int .i64 M, .slice none 0 0, .slice none 0 0, .int .i64 0] 32) := (b2.block (w.heap.size + 1 + 1) (by simp)).trans (heap_lastB _ _ _ (by simp))
  obtain ⟨-, z0, y0, rfl, -⟩ := ints_of_own o0
  have Q0 : Hid (w2.ownsRow (w.heap.size + 1 + 1 + 1) 3 1 (.slice z0 R.length y0) R.length (ints R)) := by
    have hq := o0
    simp only [World.alloc, Array.size_push] at hq
    exact hq
  have L2 : Hid (Below w.heap.size w w2) := (A3 _ _ _).trans (b2.mono (A3 _ _ _).size)
  clear b2 o0 A3
  have c2 : w2.cell? ⟨w.heap.size + 1 + 1, 1, none⟩ = some (.slice none 0 0) := cell_ofB hb2 1
  have f2 : w2.frozen? ⟨w.heap.size + 1 + 1, 1, none⟩ = false := frozen_of_row w2 _ _ _ _ hb2
  have kb0 := (blk_othB w2 (w.heap.size + 1 + 1) 1 w.heap.size (.slice z0 R.length y0) (by omega)).trans hb0
  have kb1 := (blk_othB w2 (w.heap.size + 1 + 1) 1 (w.heap.size + 1) (.slice z0 R.length y0) (by omega)).trans hb1
  have kb2 : (w2.setCell ⟨w.heap.size + 1 + 1, 1, none⟩ (.slice z0 R.length y0)).heap[w.heap.size + 1 + 1]? = some (.cells #[.int .i64 M, .slice z0 R.length y0, .slice none 0 0, .int .i64 0] 32) := by rw [blk_sameB hb2 1 _]; rfl
  have c0 : (w2.setCell ⟨w.heap.size + 1 + 1, 1, none⟩ (.slice z0 R.length y0)).cell? ⟨w.heap.size, 2, none⟩ = some (.slice a L.length ca) := cell_ofB kb0 2
  have P0 : Hid ((w2.setCell ⟨w.heap.size + 1 + 1, 1, none⟩ (.slice z0 R.length y0)).ownsRow (w.heap.size + 1 + 1 + 1) 3 1 (.slice z0 R.length y0) R.length (ints R)) := own_setB Q0.out (by omega) 1 (.slice z0 R.length y0)
  have hsz : (w2.setCell ⟨w.heap.size + 1 + 1, 1, none⟩ (.slice z0 R.length y0)).heap.size = w2.heap.size := by simp [World.setCell]
  have K : Hid (Below w.heap.size w (w2.setCell ⟨w.heap.size + 1 + 1, 1, none⟩ (.slice z0 R.length y0))) := Below.grown L2.out (grown_setB w2 _ _ _) L2.out.size (fun g e => by have := Option.some.inj e; omega)
  clear hb0 hb1 hb2 L2 Q0
  go_wp2_with fail
  refine (toI_any L a ca _ hL (IntsAt.keepB H1.out K.out)).mono ?_
  rintro r w3 ⟨v1, rfl, o, bb⟩
  have hs3 : w2.heap.size ≤ w3.heap.size := by have := bb.size; omega
  have hb0 := (bb.block (w.heap.size) (by omega)).trans kb0
  have hb1 := (bb.block (w.heap.size + 1) (by omega)).trans kb1
  have hb2 := (bb.block (w.heap.size + 1 + 1) (by omega)).trans kb2
  have Q0 : Hid (w3.ownsRow (w.heap.size + 1 + 1 + 1) 3 1 (.slice z0 R.length y0) R.length (ints R)) := World.ownsRow.keepB P0.out bb
  have l0 : ∀ g, (Value.slice z0 R.length y0).ownBlock = some g → g < w2.heap.size := fun g e => by have := (World.ownsRow.lt P0.out g e).2; omega
  have l1 : ∀ g, v1.ownBlock = some g → w2.heap.size ≤ g := fun g e => by have := (World.ownsRow.lt o g e).1; omega
  obtain ⟨-, z1, y1, rfl, -⟩ := ints_of_own o
  have d01' : (Value.slice z0 R.length y0).ownBlock = none ∨ (Value.slice z0 R.length y0).ownBlock ≠ (Value.slice z1 L.length y1).ownBlock := by
    cases h : (Value.slice z0 R.length y0).ownBlock with
    | none => exact .inl rfl
    | some g => exact .inr fun e => by have := l0 g h; have := l1 g e.symm; omega
  have d01 : Hid _ := d01'
  clear d01'
  have Q1 : Hid (w3.ownsRow (w.heap.size + 1 + 1 + 1) 3 1 (.slice z1 L.length y1) L.length (ints L)) := own_mono o (by omega)
  have L2 : Hid (Below w.heap.size w w3) := K.out.trans (bb.mono K.out.size)
  clear bb o kb0 kb1 kb2 c2 f2 c0 K hsz P0 l0 l1
  have c2 : w3.cell? ⟨w.heap.size + 1 + 1, 2, none⟩ = some (.slice none 0 0) := cell_ofB hb2 2
  have f2 : w3.frozen? ⟨w.heap.size + 1 + 1, 2, none⟩ = false := frozen_of_row w3 _ _ _ _ hb2
  have a3 : w3.cell? ⟨w.heap.size, 3, none⟩ = some (.int .i64 G) := cell_ofB hb0 3
  have c3 : w3.cell? ⟨w.heap.size + 1 + 1, 3, none⟩ = some (.int .i64 0) := cell_ofB hb2 3
  have f3 : w3.frozen? ⟨w.heap.size + 1 + 1, 3, none⟩ = false := frozen_of_row w3 _ _ _ _ hb2
  have g0 : w3.cell? ⟨w.heap.size + 1 + 1, 0, none⟩ = some (.int .i64 M) := cell_ofB hb2 0
  have g1 : w3.cell? ⟨w.heap.size + 1 + 1, 1, none⟩ = some (.slice z0 R.length y0) := cell_ofB hb2 1
  have d0 : w3.cell? ⟨w.heap.size + 1, 0, none⟩ = some (.int .i64 0) := cell_ofB hb1 0
  have d1 : w3.cell? ⟨w.heap.size + 1, 1, none⟩ = some (.slice none 0 0) := cell_ofB hb1 1
  have d2 : w3.cell? ⟨w.heap.size + 1, 2, none⟩ = some (.slice none 0 0) := cell_ofB hb1 2
  have d3 : w3.cell? ⟨w.heap.size + 1, 3, none⟩ = some (.int .i64 0) := cell_ofB hb1 3
  have e0 : w3.frozen? ⟨w.heap.size + 1, 0, none⟩ = false := frozen_of_row w3 _ _ _ _ hb1
  have e1 : w3.frozen? ⟨w.heap.size + 1, 1, none⟩ = false := frozen_of_row w3 _ _ _ _ hb1
  have e2 : w3.frozen? ⟨w.heap.size + 1, 2, none⟩ = false := frozen_of_row w3 _ _ _ _ hb1
  have e3 : w3.frozen? ⟨w.heap.size + 1, 3, none⟩ = false := frozen_of_row w3 _ _ _ _ hb1
  have HB1 : Hid _ := hb1
  clear hb0 hb1 hb2
  go_wp2
  obtain ⟨w9, hw9⟩ : ∃ w9, w9 = put4 ((w3.setCell ⟨w.heap.size + 1 + 1, 2, none⟩ (.slice z1 L.length y1)).setCell ⟨w.heap.size + 1 + 1, 3, none⟩ (.int .i64 G)) (w.heap.size + 1) (.int .i64 M) (.slice z0 R.length y0) (.slice z1 L.length y1) (.int .i64 G) := ⟨_, rfl⟩
  have hb9 : w9.heap[w.heap.size + 1]? = some (.cells #[.int .i64 M, .slice z0 R.length y0, .slice z1 L.length y1, .int .i64 G] 32) := by
    rw [hw9]
    exact put4_same ((blk_othB _ (w.heap.size + 1 + 1) 3 (w.heap.size + 1) _ (by omega)).trans ((blk_othB w3 (w.heap.size + 1 + 1) 2 (w.heap.size + 1) _ (by omega)).trans HB1.out)) _ _ _ _
  have O0 : w9.ownsRow (w.heap.size + 1 + 1 + 1) 3 1 (.slice z0 R.length y0) R.length (ints R) := by
    rw [hw9]; exact put4_own (own_setB (own_setB Q0.out (by omega) _ _) (by omega) _ _) (by omega) _ _ _ _
  have O1 : w9.ownsRow (w.heap.size + 1 + 1 + 1) 3 1 (.slice z1 L.length y1) L.length (ints L) := by
    rw [hw9]; exact put4_own (own_setB (own_setB Q1.out (by omega) _ _) (by omega) _ _) (by omega) _ _ _ _
  have bel : Below w.heap.size w w9 := by
    rw [hw9]
    have q1 := Below.grown L2.out (grown_setB w3 (w.heap.size + 1 + 1) 2 (.slice z1 L.length y1)) L2.out.size (fun g e => by have := Option.some.inj e; omega)
    have q2 := Below.grown q1 (grown_setB _ (w.heap.size + 1 + 1) 3 (.int .i64 G)) q1.size (fun g e => by have := Option.some.inj e; omega)
    exact put4_below q2 (by omega) q2.size _ _ _ _
  unfold put4 at hw9
  rw [← hw9]
  have r0 : w9.cell? ⟨w.heap.size + 1, 0, none⟩ = some (.int .i64 M) := cell_ofB hb9 0
  have r1 : w9.cell? ⟨w.heap.size + 1, 1, none⟩ = some (.slice z0 R.length y0) := cell_ofB hb9 1
  have r2 : w9.cell? ⟨w.heap.size + 1, 2, none⟩ = some (.slice z1 L.length y1) := cell_ofB hb9 2
  have r3 : w9.cell? ⟨w.heap.size + 1, 3, none⟩ = some (.int .i64 G) := cell_ofB hb9 3
  have own9 : Hid (Own3 w9 w.heap.size w9.heap.size (.slice z0 R.length y0) (.slice z1 L.length y1) (.slice none 0 0) R L []) := Own3.mk _ O0 O1 (World.ownsRow_nil _ w.heap.size _ _) (by omega) (by omega) (Nat.le_refl _) d01.out (by by_cases q : (Value.slice z0 R.length y0).ownBlock = none; exact .inl q; exact .inr q) (by by_cases q : (Value.slice z1 L.length y1).ownBlock = none; exact .inl q; exact .inr q)
  have BEL : Hid _ := bel
  clear hw9 hb9 O0 O1 bel
  exact bodyPost_ret (v := .agg #[.int .i64 M, .slice z0 R.length y0, .slice z1 L.length y1, .int .i64 G]) (by simp [results, Tryd.results14, go_sem, r0, r1, r2, r3]) rfl ⟨_, _, _, _, rfl, own9.out, BEL.out⟩
end Go.Proofs.YtklgagonbehpeaaDoor
