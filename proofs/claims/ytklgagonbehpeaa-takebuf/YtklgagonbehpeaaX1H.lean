/-
  Buffers: the first runes dropped (spec.l10Drop).
-/
import Derived.Test.YtklgagonbehpeaaX1G
import Derived.Deep.RegionHeld
namespace Go.Proofs.Ytklgagonbehpeaa
open Go.ChangeShapes Go.WideShapes Go.ChangeAt Go.RowKit
theorem own_ne_box {w : World} {base n : Nat} {v : Value} {xs : List Value} (h : w.ownsRow base 3 1 v n xs) {b : Nat} {cs : Array Value} {t : TypeId} (hb : w.heap[b]? = some (.cells cs t)) (ht : t ≠ 3) : v.ownBlock = none ∨ v.ownBlock ≠ some b := by
  rcases h.2 with ⟨rfl, -⟩ | ⟨g, cap, cur, rfl, -, hg, -⟩
  · exact .inl rfl
  · refine .inr fun e => ?_
    have e2 : g = b := Option.some.inj e
    subst e2
    rw [hg] at hb
    simp only [Option.some.injEq, Obj.cells.injEq] at hb
    exact ht hb.2.1.symm
theorem Own3.box {w w' : World} {base top : Nat} {v0 v1 v2 : Value} {A B C : List Int} (h : Own3 w base top v0 v1 v2 A B C) {b : Nat} {cs : Array Value} {t : TypeId} (hb : w.heap[b]? = some (.cells cs t)) (ht : t ≠ 3) (hg : w.grownBy w' (some b)) : Own3 w' base top v0 v1 v2 A B C :=
  ⟨⟨World.ownsRow.kept h.1.1 hg (own_ne_box h.1.1 hb ht), World.ownsRow.kept h.1.2.1 hg (own_ne_box h.1.2.1 hb ht), World.ownsRow.kept h.1.2.2 hg (own_ne_box h.1.2.2 hb ht)⟩, h.2⟩
set_option maxRecDepth 100000 in
set_option maxHeartbeats 16000000 in
theorem sdrop_any (M G : Int) (R L : List Int) (s a : Option Addr) (cs ca : Nat) (k : Nat) (w : World) (hR : R.length ≤ 2097152) (hL : L.length ≤ 2097152) (iR : Sl w s cs R) (iL : Sl w a ca L) (hk : k ≤ R.length) (hkL : k ≤ L.length) (hI : inBx 1 1000 L = true) (hG : 0 ≤ G ∧ G ≤ 1000000) (hq1 : (R.drop k).length ≤ 1048576) (hq2 : (L.drop k).length ≤ 1048576) (hq3 : (R.take k).length ≤ 1048576) :
    Calls Try.prog 52 #[.agg #[.int .i64 M, .slice s R.length cs, .slice a L.length ca, .int .i64 G], .int .i64 k] w fun r w' => ∃ v0 v1 v2, r = .returned (.tuple #[.agg #[.int .i64 M, v0, v1, .int .i64 (G + sumL (L.take k))], v2]) ∧ Own3 w' w.heap.size w'.heap.size v0 v1 v2 (R.drop k) (L.drop k) (R.take k) ∧ Below w.heap.size w w' := by
  have A2 : ∀ o p, Below w.heap.size w ((w.alloc o).alloc p) := fun o p => ((Below.refl _ _).alloc (Nat.le_refl _) o).alloc (by simp) p
  obtain ⟨hfR, iFR⟩ := iR.front k hk
  obtain ⟨hfL, iFL⟩ := iL.front k hkL
  obtain ⟨tR, cR, htR, iTR⟩ := iR.tail k hk
  obtain ⟨tL, cL, htL, iTL⟩ := iL.tail k hkL
  have HFR : Hid (IntsAt w s (R.take k)) := iFR.2.2
  have HTR : Hid (IntsAt w tR (R.drop k)) := iTR.2.2
  have HTL : Hid (IntsAt w tL (L.drop k)) := iTL.2.2
  have HL0 : Hid (IntsAt w a L) := iL.2.2
  have hs : ∀ j, j ≤ k → 0 ≤ sumL (L.take j) ∧ sumL (L.take j) ≤ 1000 * 2097152 := fun j hj => by
    have h1 := inBx_sum (inBx_take hI j)
    have h2 : ((L.take j).length : Int) ≤ 2097152 := by simp; omega
    omega
  have HS : Hid _ := hs
  have HQ1 : Hid ((R.drop k).length ≤ 1048576) := hq1
  have HQ2 : Hid ((L.drop k).length ≤ 1048576) := hq2
  have HQ3 : Hid ((R.take k).length ≤ 1048576) := hq3
  have HK1 : Hid (R.length - k = (R.drop k).length) := (List.length_drop ..).symm
  have HK2 : Hid (L.length - k = (L.drop k).length) := (List.length_drop ..).symm
  have HK3 : Hid (k = (R.take k).length) := (List.length_take_of_le hk).symm
  obtain ⟨w0, hw0⟩ : ∃ w0, w0 = (w.alloc (.cells #[.int .i64 M, .slice s R.length cs, .slice a L.length ca, .int .i64 G] 26)).alloc (.cells #[.int .i64 0, .slice none 0 0, .slice none 0 0, .int .i64 0] 26) := ⟨_, rfl⟩
  have hd0 : w0.drew.heap[w.heap.size]? = some (.cells #[.int .i64 M, .slice s R.length cs, .slice a L.length ca, .int .i64 G] 26) := by rw [hw0]; exact (heap_prevB _ _ _ (by simp)).trans (heap_lastB _ _ _ rfl)
  have hd1 : w0.drew.heap[w.heap.size + 1]? = some (.cells #[.int .i64 0, .slice none 0 0, .slice none 0 0, .int .i64 0] 26) := by rw [hw0]; exact heap_lastB _ _ _ (by simp)
  have hsd : w0.drew.heap.size = w.heap.size + 2 := by rw [hw0]; show ((w.heap.push _).push _).size = _; simp
  have BD : Hid (Below w.heap.size w w0.drew) := by rw [hw0]; exact (A2 _ _).drew
  have HSD : Hid (w0.drew.heap.size = w.heap.size + 2) := hsd
  have HD0 : Hid (w0.drew.heap[w.heap.size]? = some (.cells #[.int .i64 M, .slice s R.length cs, .slice a L.length ca, .int .i64 G] 26)) := hd0
  have HD1 : Hid (w0.drew.heap[w.heap.size + 1]? = some (.cells #[.int .i64 0, .slice none 0 0, .slice none 0 0, .int .i64 0] 26)) := hd1
  have HCR : Hid (∀ w', Below w0.drew.heap.size w0.drew w' → Calls Try.prog 63 #[.slice tR (R.length - k) cR] w' fun e w'' => ∃ v, e = .returned v ∧ w''.ownsRow w'.heap.size 3 1 v (R.drop k).length (ints (R.drop k)) ∧ Below w'.heap.size w' w'') := fun w' hb => sown_any (R.drop k) tR _ cR w' HK1.out HQ1.out (IntsAt.keepB (IntsAt.keepB HTR.out BD.out) hb)
  have HCL : Hid (∀ w', Below w0.drew.heap.size w0.drew w' → Calls Try.prog 63 #[.slice tL (L.length - k) cL] w' fun e w'' => ∃ v, e = .returned v ∧ w''.ownsRow w'.heap.size 3 1 v (L.drop k).length (ints (L.drop k)) ∧ Below w'.heap.size w' w'') := fun w' hb => sown_any (L.drop k) tL _ cL w' HK2.out HQ2.out (IntsAt.keepB (IntsAt.keepB HTL.out BD.out) hb)
  have neD : ¬ w0.drew.heap.size = w.heap.size := by omega
  have neD' : ¬ w.heap.size = w0.drew.heap.size := by omega
  have neE : ¬ w0.heap.size = w.heap.size := neD
  have neE' : ¬ w.heap.size = w0.heap.size := neD'
  have sD : (w0.drew.cell? ⟨w.heap.size, 0, none⟩ = some (.int .i64 M) ∧ w0.drew.cell? ⟨w.heap.size, 1, none⟩ = some (.slice s R.length cs) ∧ w0.drew.cell? ⟨w.heap.size, 2, none⟩ = some (.slice a L.length ca) ∧ w0.drew.cell? ⟨w.heap.size, 3, none⟩ = some (.int .i64 G)) := ⟨cell_ofB hd0 0, cell_ofB hd0 1, cell_ofB hd0 2, cell_ofB hd0 3⟩
  have bA : Hid (Below w0.drew.heap.size w0.drew ((w0.alloc (.cells #[.int .i64 0, .slice none 0 0, .slice none 0 0, .int .i64 0] 26)).drew)) := (show Below w0.drew.heap.size w0.drew (w0.drew.alloc (.cells #[.int .i64 0, .slice none 0 0, .slice none 0 0, .int .i64 0] 26)) from (Below.refl _ _).alloc (Nat.le_refl _) _)
  have hA0 : (w0.alloc (.cells #[.int .i64 0, .slice none 0 0, .slice none 0 0, .int .i64 0] 26)).drew.heap[w.heap.size]? = some (.cells #[.int .i64 M, .slice s R.length cs, .slice a L.length ca, .int .i64 G] 26) := (bA.out.block _ (by omega)).trans hd0
  have hAx : (w0.alloc (.cells #[.int .i64 0, .slice none 0 0, .slice none 0 0, .int .i64 0] 26)).drew.heap[w0.drew.heap.size]? = some (.cells #[.int .i64 0, .slice none 0 0, .slice none 0 0, .int .i64 0] 26) := heap_lastB w0 _ _ rfl
  have HAX : Hid ((w0.alloc (.cells #[.int .i64 0, .slice none 0 0, .slice none 0 0, .int .i64 0] 26)).drew.heap[w0.drew.heap.size]? = some (.cells #[.int .i64 0, .slice none 0 0, .slice none 0 0, .int .i64 0] 26)) := hAx
  have HAL : Hid (w0.drew.heap.size < (w0.alloc (.cells #[.int .i64 0, .slice none 0 0, .slice none 0 0, .int .i64 0] 26)).drew.heap.size) := (show w0.heap.size < (w0.heap.push _).size by simp)
  have sA : ((w0.alloc (.cells #[.int .i64 0, .slice none 0 0, .slice none 0 0, .int .i64 0] 26)).drew.cell? ⟨w.heap.size, 0, none⟩ = some (.int .i64 M) ∧ (w0.alloc (.cells #[.int .i64 0, .slice none 0 0, .slice none 0 0, .int .i64 0] 26)).drew.cell? ⟨w.heap.size, 1, none⟩ = some (.slice s R.length cs) ∧ (w0.alloc (.cells #[.int .i64 0, .slice none 0 0, .slice none 0 0, .int .i64 0] 26)).drew.cell? ⟨w.heap.size, 2, none⟩ = some (.slice a L.length ca) ∧ (w0.alloc (.cells #[.int .i64 0, .slice none 0 0, .slice none 0 0, .int .i64 0] 26)).drew.cell? ⟨w.heap.size, 3, none⟩ = some (.int .i64 G)) := ⟨cell_ofB hA0 0, cell_ofB hA0 1, cell_ofB hA0 2, cell_ofB hA0 3⟩
  clear hA0 hAx
  clear iR iL iFR iFL iTR iTL hI hs hd0 hd1 hq1 hq2 hq3 A2 hsd
  go_enter Try.func52, Try.ntmps52
  go_wp2
  rw [← hw0]
  clear hw0
  go_region_held (fun w' => (w'.cell? ⟨w.heap.size, 0, none⟩ = some (.int .i64 M) ∧ w'.cell? ⟨w.heap.size, 1, none⟩ = some (.slice s R.length cs) ∧ w'.cell? ⟨w.heap.size, 2, none⟩ = some (.slice a L.length ca) ∧ w'.cell? ⟨w.heap.size, 3, none⟩ = some (.int .i64 G))) (first | assumption | go_keep) (first
    | (go_at_call 63
       (with_reducible refine Calls.mono (HCL.out wr bR.out) ?_)
       rintro r wz ⟨vL, rfl, oL, bz⟩
       obtain ⟨-, la, lc, rfl, -⟩ := ints_of_own oL
       have OO : Hid (Own3 wz (w.heap.size + 2) wz.heap.size (.slice ra (R.drop k).length rc) (.slice la (L.drop k).length lc) (.slice none 0 0) (R.drop k) (L.drop k) []) := Own3.mk _ (World.ownsRow.keepB oR.out bz) oL (World.ownsRow_nil wz (w.heap.size + 2) 3 1) (Nat.le_refl _) (Nat.le_trans hs2.out bR.out.size) (Nat.le_refl _) (apart_lt (fun g e => (World.ownsRow.lt oR.out g e).2) (fun g e => (World.ownsRow.lt oL g e).1)) (apart_nil _) (apart_nil _)
       have BZ : Hid (Below w0.drew.heap.size w0.drew wz) := bR.out.trans (bz.mono bR.out.size)
       have nez1 : ¬ wz.heap.size = w.heap.size := by have h := BZ.out.size; have h2 := HSD.out; omega
       have nez2 : ¬ w.heap.size = wz.heap.size := by omega
       have hz0 : wz.heap[w.heap.size]? = some (.cells #[.int .i64 M, .slice s R.length cs, .slice a L.length ca, .int .i64 G] 26) := (BZ.out.block _ (by rw [HSD.out]; omega)).trans HD0.out
       have sz : (wz.cell? ⟨w.heap.size, 0, none⟩ = some (.int .i64 M) ∧ wz.cell? ⟨w.heap.size, 1, none⟩ = some (.slice s R.length cs) ∧ wz.cell? ⟨w.heap.size, 2, none⟩ = some (.slice a L.length ca) ∧ wz.cell? ⟨w.heap.size, 3, none⟩ = some (.int .i64 G)) := ⟨cell_ofB hz0 0, cell_ofB hz0 1, cell_ofB hz0 2, cell_ofB hz0 3⟩
       (first | (have hx : wz.heap[w0.heap.size]? = some (.cells #[.int .i64 0, .slice none 0 0, .slice none 0 0, .int .i64 0] 26) := (bz.block w0.heap.size HXL.out).trans HX.out; have y0 : wz.cell? ⟨w0.heap.size, 0, none⟩ = some (.int .i64 0) := cell_ofB hx 0; have f0 : wz.frozen? ⟨w0.heap.size, 0, none⟩ = false := frozen_of_row wz _ _ _ _ hx; have y1 : wz.cell? ⟨w0.heap.size, 1, none⟩ = some (.slice none 0 0) := cell_ofB hx 1; have f1 : wz.frozen? ⟨w0.heap.size, 1, none⟩ = false := frozen_of_row wz _ _ _ _ hx; have y2 : wz.cell? ⟨w0.heap.size, 2, none⟩ = some (.slice none 0 0) := cell_ofB hx 2; have f2 : wz.frozen? ⟨w0.heap.size, 2, none⟩ = false := frozen_of_row wz _ _ _ _ hx; have y3 : wz.cell? ⟨w0.heap.size, 3, none⟩ = some (.int .i64 0) := cell_ofB hx 3; have f3 : wz.frozen? ⟨w0.heap.size, 3, none⟩ = false := frozen_of_row wz _ _ _ _ hx;  have HX2 : Hid (wz.heap[w0.heap.size]? = some (.cells #[.int .i64 0, .slice none 0 0, .slice none 0 0, .int .i64 0] 26)) := hx; clear hx) | skip)
       clear oL bz hz0)
    | (go_at_call 63
       (with_reducible refine Calls.mono (HCL.out (wr.alloc (.cells #[.int .i64 0, .slice none 0 0, .slice none 0 0, .int .i64 0] 26)) (bR.out.alloc bR.out.size _)) ?_)
       rintro r wz ⟨vL, rfl, oL, bz⟩
       obtain ⟨-, la, lc, rfl, -⟩ := ints_of_own oL
       have oR2 : (wr.alloc (.cells #[.int .i64 0, .slice none 0 0, .slice none 0 0, .int .i64 0] 26)).ownsRow (w.heap.size + 2) 3 1 (.slice ra (R.drop k).length rc) (R.drop k).length (ints (R.drop k)) := oR.out.alloc _
       have bR2 : Below w0.drew.heap.size w0.drew (wr.alloc (.cells #[.int .i64 0, .slice none 0 0, .slice none 0 0, .int .i64 0] 26)) := bR.out.alloc bR.out.size _
       have OO : Hid (Own3 wz (w.heap.size + 2) wz.heap.size (.slice ra (R.drop k).length rc) (.slice la (L.drop k).length lc) (.slice none 0 0) (R.drop k) (L.drop k) []) := Own3.mk _ (World.ownsRow.keepB oR2 bz) oL (World.ownsRow_nil wz (w.heap.size + 2) 3 1) (Nat.le_refl _) (Nat.le_trans hs2.out bR2.size) (Nat.le_refl _) (apart_lt (fun g e => (World.ownsRow.lt oR2 g e).2) (fun g e => (World.ownsRow.lt oL g e).1)) (apart_nil _) (apart_nil _)
       have BZ : Hid (Below w0.drew.heap.size w0.drew wz) := bR2.trans (bz.mono bR2.size)
       have nez1 : ¬ wz.heap.size = w.heap.size := by have h := BZ.out.size; have h2 := HSD.out; omega
       have nez2 : ¬ w.heap.size = wz.heap.size := by omega
       have hz0 : wz.heap[w.heap.size]? = some (.cells #[.int .i64 M, .slice s R.length cs, .slice a L.length ca, .int .i64 G] 26) := (BZ.out.block _ (by rw [HSD.out]; omega)).trans HD0.out
       have sz : (wz.cell? ⟨w.heap.size, 0, none⟩ = some (.int .i64 M) ∧ wz.cell? ⟨w.heap.size, 1, none⟩ = some (.slice s R.length cs) ∧ wz.cell? ⟨w.heap.size, 2, none⟩ = some (.slice a L.length ca) ∧ wz.cell? ⟨w.heap.size, 3, none⟩ = some (.int .i64 G)) := ⟨cell_ofB hz0 0, cell_ofB hz0 1, cell_ofB hz0 2, cell_ofB hz0 3⟩
       have hx : wz.heap[wr.heap.size]? = some (.cells #[.int .i64 0, .slice none 0 0, .slice none 0 0, .int .i64 0] 26) := (bz.block _ (by simp)).trans (heap_lastB _ _ _ rfl)
       have y0 : wz.cell? ⟨wr.heap.size, 0, none⟩ = some (.int .i64 0) := cell_ofB hx 0; have f0 : wz.frozen? ⟨wr.heap.size, 0, none⟩ = false := frozen_of_row wz _ _ _ _ hx; have y1 : wz.cell? ⟨wr.heap.size, 1, none⟩ = some (.slice none 0 0) := cell_ofB hx 1; have f1 : wz.frozen? ⟨wr.heap.size, 1, none⟩ = false := frozen_of_row wz _ _ _ _ hx; have y2 : wz.cell? ⟨wr.heap.size, 2, none⟩ = some (.slice none 0 0) := cell_ofB hx 2; have f2 : wz.frozen? ⟨wr.heap.size, 2, none⟩ = false := frozen_of_row wz _ _ _ _ hx; have y3 : wz.cell? ⟨wr.heap.size, 3, none⟩ = some (.int .i64 0) := cell_ofB hx 3; have f3 : wz.frozen? ⟨wr.heap.size, 3, none⟩ = false := frozen_of_row wz _ _ _ _ hx; 
       have HX2 : Hid (wz.heap[wr.heap.size]? = some (.cells #[.int .i64 0, .slice none 0 0, .slice none 0 0, .int .i64 0] 26)) := hx
       clear oL bz hz0 hx oR2 bR2)
    | (go_at_call 63
       (with_reducible refine Calls.mono (HCR.out w0.drew (Below.refl _ _)) ?_)
       rintro r wr ⟨vR, rfl, oR', bR'⟩
       obtain ⟨-, ra, rc, rfl, -⟩ := ints_of_own oR'
       have hs2 : Hid (w.heap.size + 2 ≤ w0.drew.heap.size) := (Nat.le_of_eq HSD.out.symm)
       have oR : Hid (wr.ownsRow (w.heap.size + 2) 3 1 (.slice ra (R.drop k).length rc) (R.drop k).length (ints (R.drop k))) := own_mono oR' hs2.out
       have bR : Hid (Below w0.drew.heap.size w0.drew wr) := bR'
       have ner1 : ¬ wr.heap.size = w.heap.size := by have h := bR.out.size; have h2 := HSD.out; omega
       have ner2 : ¬ w.heap.size = wr.heap.size := by omega
       have hy0 : wr.heap[w.heap.size]? = some (.cells #[.int .i64 M, .slice s R.length cs, .slice a L.length ca, .int .i64 G] 26) := (bR.out.block _ (by rw [HSD.out]; omega)).trans HD0.out
       have sr : (wr.cell? ⟨w.heap.size, 0, none⟩ = some (.int .i64 M) ∧ wr.cell? ⟨w.heap.size, 1, none⟩ = some (.slice s R.length cs) ∧ wr.cell? ⟨w.heap.size, 2, none⟩ = some (.slice a L.length ca) ∧ wr.cell? ⟨w.heap.size, 3, none⟩ = some (.int .i64 G)) := ⟨cell_ofB hy0 0, cell_ofB hy0 1, cell_ofB hy0 2, cell_ofB hy0 3⟩
       clear hy0 oR' bR')
    | (go_at_call 63
       (with_reducible refine Calls.mono (HCR.out ((w0.alloc (.cells #[.int .i64 0, .slice none 0 0, .slice none 0 0, .int .i64 0] 26)).drew) bA.out) ?_)
       rintro r wr ⟨vR, rfl, oR', bR'⟩
       obtain ⟨-, ra, rc, rfl, -⟩ := ints_of_own oR'
       have hs2 : Hid (w.heap.size + 2 ≤ w0.drew.heap.size) := (Nat.le_of_eq HSD.out.symm)
       have hs3 : w.heap.size + 2 ≤ ((w0.alloc (.cells #[.int .i64 0, .slice none 0 0, .slice none 0 0, .int .i64 0] 26)).drew).heap.size := Nat.le_trans hs2.out bA.out.size
       have oR : Hid (wr.ownsRow (w.heap.size + 2) 3 1 (.slice ra (R.drop k).length rc) (R.drop k).length (ints (R.drop k))) := own_mono oR' hs3
       have bR : Hid (Below w0.drew.heap.size w0.drew wr) := bA.out.trans (bR'.mono bA.out.size)
       have HX : Hid (wr.heap[w0.drew.heap.size]? = some (.cells #[.int .i64 0, .slice none 0 0, .slice none 0 0, .int .i64 0] 26)) := (bR'.block _ HAL.out).trans HAX.out
       have HXL : Hid (w0.drew.heap.size < wr.heap.size) := Nat.lt_of_lt_of_le HAL.out bR'.size
       have ner1 : ¬ wr.heap.size = w.heap.size := by have h := bR.out.size; have h2 := HSD.out; omega
       have ner2 : ¬ w.heap.size = wr.heap.size := by omega
       have hy0 : wr.heap[w.heap.size]? = some (.cells #[.int .i64 M, .slice s R.length cs, .slice a L.length ca, .int .i64 G] 26) := (bR.out.block _ (by rw [HSD.out]; omega)).trans HD0.out
       have sr : (wr.cell? ⟨w.heap.size, 0, none⟩ = some (.int .i64 M) ∧ wr.cell? ⟨w.heap.size, 1, none⟩ = some (.slice s R.length cs) ∧ wr.cell? ⟨w.heap.size, 2, none⟩ = some (.slice a L.length ca) ∧ wr.cell? ⟨w.heap.size, 3, none⟩ = some (.int .i64 G)) := ⟨cell_ofB hy0 0, cell_ofB hy0 1, cell_ofB hy0 2, cell_ofB hy0 3⟩
       clear hy0 oR' bR' hs3))
  · have oz : Own3 wz (w.heap.size + 2) wz.heap.size (.slice ra (R.length - k) rc) (.slice la (L.length - k) lc) (.slice none 0 0) (R.drop k) (L.drop k) [] := by have h := OO.out; simp only [List.length_drop] at h; exact h
    have bz9 : Below w.heap.size w wz := BD.out.trans (BZ.out.mono BD.out.size)
    have z1 : wz.heap[w.heap.size + 1]? = some (.cells #[.int .i64 0, .slice none 0 0, .slice none 0 0, .int .i64 0] 26) := (BZ.out.block _ (by rw [HSD.out]; omega)).trans HD1.out
    have z0 : wz.heap[w.heap.size]? = some (.cells #[.int .i64 M, .slice s R.length cs, .slice a L.length ca, .int .i64 G] 26) := (BZ.out.block _ (by rw [HSD.out]; omega)).trans HD0.out
    have lz : w.heap.size + 2 ≤ wz.heap.size := by have h1 := HSD.out; have h2 := BZ.out.size; omega
    obtain ⟨w5, hw5⟩ : ∃ w5, w5 = wz.alloc (.cells #[.int .i64 M, .slice ra (R.length - k) rc, .slice la (L.length - k) lc, .int .i64 G] 26) := ⟨_, rfl⟩
    have q5 : w5.heap[wz.heap.size]? = some (.cells #[.int .i64 M, .slice ra (R.length - k) rc, .slice la (L.length - k) lc, .int .i64 G] 26) := by rw [hw5]; exact heap_lastB _ _ _ rfl
    have q0 : w5.heap[w.heap.size]? = some (.cells #[.int .i64 M, .slice s R.length cs, .slice a L.length ca, .int .i64 G] 26) := by rw [hw5]; exact (heap_prevB _ _ _ (by omega)).trans z0
    have q1 : w5.heap[w.heap.size + 1]? = some (.cells #[.int .i64 0, .slice none 0 0, .slice none 0 0, .int .i64 0] 26) := by rw [hw5]; exact (heap_prevB _ _ _ (by omega)).trans z1
    have b5 : Below w.heap.size w w5 := by rw [hw5]; exact bz9.alloc bz9.size _
    have o5 : Own3 w5 (w.heap.size + 2) w5.heap.size (.slice ra (R.length - k) rc) (.slice la (L.length - k) lc) (.slice none 0 0) (R.drop k) (L.drop k) [] := by
      rw [hw5]
      have h := oz.keepB ((Below.refl _ _).alloc (Nat.le_refl _) (.cells #[.int .i64 M, .slice ra (R.length - k) rc, .slice la (L.length - k) lc, .int .i64 G] 26))
      exact ⟨h.1, ⟨fun g e => Nat.lt_of_lt_of_le (h.2.1.1 g e) (by simp), fun g e => Nat.lt_of_lt_of_le (h.2.1.2.1 g e) (by simp), fun g e => Nat.lt_of_lt_of_le (h.2.1.2.2 g e) (by simp)⟩, h.2.2⟩
    skip
    rw [← hw5]
    clear hw5
    obtain ⟨bx, hbx⟩ : ∃ bx, bx = wz.heap.size := ⟨_, rfl⟩
    rw [← hbx]
    rw [← hbx] at q5 lz
    have Q5 : Hid (w5.heap[bx]? = some (.cells #[.int .i64 M, .slice ra (R.length - k) rc, .slice la (L.length - k) lc, .int .i64 G] 26)) := q5
    have Q0 : Hid (w5.heap[w.heap.size]? = some (.cells #[.int .i64 M, .slice s R.length cs, .slice a L.length ca, .int .i64 G] 26)) := q0
    have Q1 : Hid (w5.heap[w.heap.size + 1]? = some (.cells #[.int .i64 0, .slice none 0 0, .slice none 0 0, .int .i64 0] 26)) := q1
    have B5 : Hid (Below w.heap.size w w5) := b5
    have O5 : Hid (Own3 w5 (w.heap.size + 2) w5.heap.size (.slice ra (R.length - k) rc) (.slice la (L.length - k) lc) (.slice none 0 0) (R.drop k) (L.drop k) []) := o5
    have LZ : Hid (w.heap.size + 2 ≤ bx) := lz
    have ne1 : ¬ bx = w.heap.size := by omega
    have ne2 : ¬ w.heap.size = bx := by omega
    have ne3 : ¬ bx = w.heap.size + 1 := by omega
    have ne4 : ¬ w.heap.size + 1 = bx := by omega
    clear hbx oz bz9 z1 z0 lz q5 q0 q1 b5 o5 OO BZ bR oR HCR HCL HD0 HD1 HSD sD sA neD neD' neE neE' ner1 ner2 nez1 nez2
    clear sz sr
    have c2 : w5.cell? ⟨w.heap.size, 2, none⟩ = some (.slice a L.length ca) := cell_ofB Q0.out 2
    go_wp2
    go_loopw [29] (fun i wr => ∃ j : Nat, j ≤ k ∧ i = .int .i64 j ∧ wr.heap[bx]? = some (.cells #[.int .i64 M, .slice ra (R.length - k) rc, .slice la (L.length - k) lc, .int .i64 (G + sumL (L.take j))] 26) ∧ wr.heap[w.heap.size]? = some (.cells #[.int .i64 M, .slice s R.length cs, .slice a L.length ca, .int .i64 G] 26) ∧ wr.heap[w.heap.size + 1]? = some (.cells #[.int .i64 0, .slice none 0 0, .slice none 0 0, .int .i64 0] 26) ∧ Own3 wr (w.heap.size + 2) wr.heap.size (.slice ra (R.length - k) rc) (.slice la (L.length - k) lc) (.slice none 0 0) (R.drop k) (L.drop k) [] ∧ Below w.heap.size w wr) (fun i _ => k - (intOf i).toNat)
    case atStart => exact ⟨0, Nat.zero_le _, rfl, by simpa [sumL] using Q5.out, Q0.out, Q1.out, O5.out, B5.out⟩
    case round =>
      obtain ⟨j, hj, rfl, p5, p0, p1, o6, b6⟩ := hrel
      have P5 : Hid (wr.heap[bx]? = some (.cells #[.int .i64 M, .slice ra (R.length - k) rc, .slice la (L.length - k) lc, .int .i64 (G + sumL (L.take j))] 26)) := p5
      have P0 : Hid (wr.heap[w.heap.size]? = some (.cells #[.int .i64 M, .slice s R.length cs, .slice a L.length ca, .int .i64 G] 26)) := p0
      have P1 : Hid (wr.heap[w.heap.size + 1]? = some (.cells #[.int .i64 0, .slice none 0 0, .slice none 0 0, .int .i64 0] 26)) := p1
      have O6 : Hid (Own3 wr (w.heap.size + 2) wr.heap.size (.slice ra (R.length - k) rc) (.slice la (L.length - k) lc) (.slice none 0 0) (R.drop k) (L.drop k) []) := o6
      have B6 : Hid (Below w.heap.size w wr) := b6
      clear p5 p0 p1 o6 b6
      by_cases hlt : j < k
      · have hltI : (j : Int) < (k : Int) := by omega
        have e1 := sumL_snoc L j (by omega)
        have x1 := HS.out j (by omega)
        have x2 := HS.out (j + 1) (by omega)
        have E1 : Hid _ := e1
        have hw : IntKind.i64.wrap (G + sumL (L.take j) + L.getD j 0) = G + sumL (L.take j) + L.getD j 0 := IntWalk.i64_in _ (by omega)
        have g3 : wr.cell? ⟨bx, 3, none⟩ = some (.int .i64 (G + sumL (L.take j))) := cell_ofB P5.out 3
        have f3 : wr.frozen? ⟨bx, 3, none⟩ = false := frozen_of_row wr _ _ _ _ P5.out
        have HN : Hid (∀ x, (wr.setCell ⟨bx, 3, none⟩ x).heap[bx]? = some (.cells #[.int .i64 M, .slice ra (R.length - k) rc, .slice la (L.length - k) lc, x] 26)) := fun x => blk_sameB P5.out 3 x
        have HN0 : Hid (∀ x, (wr.setCell ⟨bx, 3, none⟩ x).heap[w.heap.size]? = some (.cells #[.int .i64 M, .slice s R.length cs, .slice a L.length ca, .int .i64 G] 26)) := fun x => (blk_othB _ _ _ _ _ ne1).trans P0.out
        have HN1 : Hid (∀ x, (wr.setCell ⟨bx, 3, none⟩ x).heap[w.heap.size + 1]? = some (.cells #[.int .i64 0, .slice none 0 0, .slice none 0 0, .int .i64 0] 26)) := fun x => (blk_othB _ _ _ _ _ ne3).trans P1.out
        have HNO : Hid (∀ x, Own3 (wr.setCell ⟨bx, 3, none⟩ x) (w.heap.size + 2) (wr.setCell ⟨bx, 3, none⟩ x).heap.size (.slice ra (R.length - k) rc) (.slice la (L.length - k) lc) (.slice none 0 0) (R.drop k) (L.drop k) []) := fun x => by
          have e : (wr.setCell ⟨bx, 3, none⟩ x).heap.size = wr.heap.size := by simp [World.setCell]
          rw [e]
          exact O6.out.box (t := 26) P5.out (by decide) (grown_setB wr bx 3 x)
        have HNB : Hid (∀ x, Below w.heap.size w (wr.setCell ⟨bx, 3, none⟩ x)) := fun x => Below.grown B6.out (grown_setB wr bx 3 x) B6.out.size (fun g e => by have h := Option.some.inj e; have h2 := LZ.out; omega)
        obtain ⟨b1, o1, rfl, l1, h1⟩ := HL0.out j (by omega)
        have gx : wr.cell? ⟨b1, o1 + j, none⟩ = some (.int .i64 (L.getD j 0)) := (B6.out.cell (p := ⟨b1, o1 + j, none⟩) l1).trans h1
        clear e1 x1 x2 h1
        generalize L.getD j 0 = x at *
        generalize sumL (L.take j) = y at *
        go_wp2
        go_roundw
        case rel => exact ⟨j + 1, by omega, by go_num, by rw [E1.out, ← Int.add_assoc]; first | exact HN.out _ | (rw [← hw]; exact HN.out _), HN0.out _, HN1.out _, HNO.out _, HNB.out _⟩
        case measure => simp [intOf]; omega
      · obtain rfl : j = k := by omega
        have hlf : ¬ (j : Int) < (j : Int) := by omega
        have HCF : Hid (Calls Try.prog 63 #[.slice s j cs] wr.drew fun e w'' => ∃ v, e = .returned v ∧ w''.ownsRow wr.drew.heap.size 3 1 v (R.take j).length (ints (R.take j)) ∧ Below wr.drew.heap.size wr.drew w'') := sown_any (R.take j) s j cs wr.drew HK3.out HQ3.out (IntsAt.keepB (IntsAt.keepB HFR.out B6.out) ((Below.refl _ _).drew))
        have sE : (wr.drew.cell? ⟨w.heap.size, 1, none⟩ = some (.slice s R.length cs) ∧ wr.drew.cell? ⟨bx, 0, none⟩ = some (.int .i64 M) ∧ wr.drew.cell? ⟨bx, 1, none⟩ = some (.slice ra (R.length - j) rc) ∧ wr.drew.cell? ⟨bx, 2, none⟩ = some (.slice la (L.length - j) lc) ∧ wr.drew.cell? ⟨bx, 3, none⟩ = some (.int .i64 (G + sumL (L.take j)))) := ⟨cell_ofB (w := wr.drew) P0.out 1, cell_ofB (w := wr.drew) P5.out 0, cell_ofB (w := wr.drew) P5.out 1, cell_ofB (w := wr.drew) P5.out 2, cell_ofB (w := wr.drew) P5.out 3⟩
        clear HFR HTR HTL HL0
        generalize hy : sumL (L.take j) = y at *
        have HY : Hid (sumL (L.take j) = y) := hy
        clear hy
        go_wp2
        go_region_held (fun w' => (w'.cell? ⟨w.heap.size, 1, none⟩ = some (.slice s R.length cs) ∧ w'.cell? ⟨bx, 0, none⟩ = some (.int .i64 M) ∧ w'.cell? ⟨bx, 1, none⟩ = some (.slice ra (R.length - j) rc) ∧ w'.cell? ⟨bx, 2, none⟩ = some (.slice la (L.length - j) lc) ∧ w'.cell? ⟨bx, 3, none⟩ = some (.int .i64 (G + y)))) (first | assumption | go_keep) (first
          | (go_at_call 63
             (with_reducible refine Calls.mono HCF.out ?_)
             rintro r wt ⟨vT, rfl, oT, bt⟩
             obtain ⟨-, xa, xc, rfl, -⟩ := ints_of_own oT
             have t5 : wt.heap[bx]? = some (.cells #[.int .i64 M, .slice ra (R.length - j) rc, .slice la (L.length - j) lc, .int .i64 (G + y)] 26) := (bt.block _ (Array.getElem?_eq_some_iff.1 P5.out).1).trans P5.out
             have t0 : wt.heap[w.heap.size]? = some (.cells #[.int .i64 M, .slice s R.length cs, .slice a L.length ca, .int .i64 G] 26) := (bt.block _ (Array.getElem?_eq_some_iff.1 P0.out).1).trans P0.out
             have t1 : wt.heap[w.heap.size + 1]? = some (.cells #[.int .i64 0, .slice none 0 0, .slice none 0 0, .int .i64 0] 26) := (bt.block _ (Array.getElem?_eq_some_iff.1 P1.out).1).trans P1.out
             have st : (wt.cell? ⟨w.heap.size, 1, none⟩ = some (.slice s R.length cs) ∧ wt.cell? ⟨bx, 0, none⟩ = some (.int .i64 M) ∧ wt.cell? ⟨bx, 1, none⟩ = some (.slice ra (R.length - j) rc) ∧ wt.cell? ⟨bx, 2, none⟩ = some (.slice la (L.length - j) lc) ∧ wt.cell? ⟨bx, 3, none⟩ = some (.int .i64 (G + y))) := ⟨cell_ofB t0 1, cell_ofB t5 0, cell_ofB t5 1, cell_ofB t5 2, cell_ofB t5 3⟩
             have y0 : wt.cell? ⟨w.heap.size + 1, 0, none⟩ = some (.int .i64 0) := cell_ofB t1 0; have f0 : wt.frozen? ⟨w.heap.size + 1, 0, none⟩ = false := frozen_of_row wt _ _ _ _ t1; have y1 : wt.cell? ⟨w.heap.size + 1, 1, none⟩ = some (.slice none 0 0) := cell_ofB t1 1; have f1 : wt.frozen? ⟨w.heap.size + 1, 1, none⟩ = false := frozen_of_row wt _ _ _ _ t1; have y2 : wt.cell? ⟨w.heap.size + 1, 2, none⟩ = some (.slice none 0 0) := cell_ofB t1 2; have f2 : wt.frozen? ⟨w.heap.size + 1, 2, none⟩ = false := frozen_of_row wt _ _ _ _ t1; have y3 : wt.cell? ⟨w.heap.size + 1, 3, none⟩ = some (.int .i64 0) := cell_ofB t1 3; have f3 : wt.frozen? ⟨w.heap.size + 1, 3, none⟩ = false := frozen_of_row wt _ _ _ _ t1
             have T1 : Hid (wt.heap[w.heap.size + 1]? = some (.cells #[.int .i64 0, .slice none 0 0, .slice none 0 0, .int .i64 0] 26)) := t1
             have T5 : Hid (wt.heap[bx]? = some (.cells #[.int .i64 M, .slice ra (R.length - j) rc, .slice la (L.length - j) lc, .int .i64 (G + y)] 26)) := t5
             have OT : Hid (wt.ownsRow wr.heap.size 3 1 (.slice xa (R.take j).length xc) (R.take j).length (ints (R.take j))) := oT
             have BT : Hid (Below wr.drew.heap.size wr.drew wt) := bt
             clear oT bt t0 t1 t5))
        all_goals
          go_wp2
          obtain ⟨w9, hw9⟩ : ∃ w9, w9 = put4 wt (w.heap.size + 1) (.int .i64 M) (.slice ra (R.length - j) rc) (.slice la (L.length - j) lc) (.int .i64 (G + y)) := ⟨_, rfl⟩
          have hb9 : w9.heap[w.heap.size + 1]? = some (.cells #[.int .i64 M, .slice ra (R.length - j) rc, .slice la (L.length - j) lc, .int .i64 (G + y)] 26) := by rw [hw9]; exact put4_same T1.out _ _ _ _
          have o9 : Own3 w9 w.heap.size w9.heap.size (.slice ra (R.length - j) rc) (.slice la (L.length - j) lc) (.slice xa (R.take j).length xc) (R.drop j) (L.drop j) (R.take j) := by
            have h1 := O6.out.keepB ((Below.refl wr.heap.size wr).drew.trans BT.out)
            have h2 : Own3 wt (w.heap.size + 2) wt.heap.size (.slice ra (R.length - j) rc) (.slice la (L.length - j) lc) (.slice xa (R.take j).length xc) (R.drop j) (L.drop j) (R.take j) :=
              Own3.mk _ h1.1.1 h1.1.2.1 OT.out (Nat.le_refl _) (Nat.le_refl _) (Nat.le_trans (by have := LZ.out; have h := (Array.getElem?_eq_some_iff.1 P5.out).1; omega) (Nat.le_refl _)) h1.2.2.1 (apart_lt (fun g e => h1.2.1.1 g e) (fun g e => (World.ownsRow.lt OT.out g e).1)) (apart_lt (fun g e => h1.2.1.2.1 g e) (fun g e => (World.ownsRow.lt OT.out g e).1))
            rw [hw9, put4_size]
            exact (put4_own3 h2 (by omega) _ _ _ _).mono (by omega)
          have bel : Below w.heap.size w w9 := by
            rw [hw9]
            have q : Below w.heap.size w wt := (B6.out.drew).trans (BT.out.mono B6.out.size)
            exact put4_below q (by omega) q.size _ _ _ _
          unfold put4 at hw9
          rw [← hw9]
          have r0 : w9.cell? ⟨w.heap.size + 1, 0, none⟩ = some (.int .i64 M) := cell_ofB hb9 0
          have r1 : w9.cell? ⟨w.heap.size + 1, 1, none⟩ = some (.slice ra (R.length - j) rc) := cell_ofB hb9 1
          have r2 : w9.cell? ⟨w.heap.size + 1, 2, none⟩ = some (.slice la (L.length - j) lc) := cell_ofB hb9 2
          have r3 : w9.cell? ⟨w.heap.size + 1, 3, none⟩ = some (.int .i64 (G + y)) := cell_ofB hb9 3
          exact bodyPost_ret (v := .tuple #[.agg #[.int .i64 M, .slice ra (R.length - j) rc, .slice la (L.length - j) lc, .int .i64 (G + y)], .slice xa (R.take j).length xc]) (by simp [results, Try.results52, go_sem, r0, r1, r2, r3]; omega) rfl ⟨_, _, _, by rw [HY.out], o9, bel⟩
  · have oz : Own3 wz (w.heap.size + 2) wz.heap.size (.slice ra (R.length - k) rc) (.slice la (L.length - k) lc) (.slice none 0 0) (R.drop k) (L.drop k) [] := by have h := OO.out; simp only [List.length_drop] at h; exact h
    have bz9 : Below w.heap.size w wz := BD.out.trans (BZ.out.mono BD.out.size)
    have z1 : wz.heap[w.heap.size + 1]? = some (.cells #[.int .i64 0, .slice none 0 0, .slice none 0 0, .int .i64 0] 26) := (BZ.out.block _ (by rw [HSD.out]; omega)).trans HD1.out
    have z0 : wz.heap[w.heap.size]? = some (.cells #[.int .i64 M, .slice s R.length cs, .slice a L.length ca, .int .i64 G] 26) := (BZ.out.block _ (by rw [HSD.out]; omega)).trans HD0.out
    have lz : w.heap.size + 2 ≤ wr.heap.size := by have h1 := HSD.out; have h2 := bR.out.size; omega
    obtain ⟨w5, hw5⟩ : ∃ w5, w5 = put4 wz wr.heap.size (.int .i64 M) (.slice ra (R.length - k) rc) (.slice la (L.length - k) lc) (.int .i64 G) := ⟨_, rfl⟩
    have q5 : w5.heap[wr.heap.size]? = some (.cells #[.int .i64 M, .slice ra (R.length - k) rc, .slice la (L.length - k) lc, .int .i64 G] 26) := by rw [hw5]; exact put4_same HX2.out _ _ _ _
    have q0 : w5.heap[w.heap.size]? = some (.cells #[.int .i64 M, .slice s R.length cs, .slice a L.length ca, .int .i64 G] 26) := by rw [hw5]; exact (put4_oth _ _ _ _ _ _ _ (by omega)).trans z0
    have q1 : w5.heap[w.heap.size + 1]? = some (.cells #[.int .i64 0, .slice none 0 0, .slice none 0 0, .int .i64 0] 26) := by rw [hw5]; exact (put4_oth _ _ _ _ _ _ _ (by omega)).trans z1
    have b5 : Below w.heap.size w w5 := by rw [hw5]; exact put4_below bz9 (by omega) bz9.size _ _ _ _
    have o5 : Own3 w5 (w.heap.size + 2) w5.heap.size (.slice ra (R.length - k) rc) (.slice la (L.length - k) lc) (.slice none 0 0) (R.drop k) (L.drop k) [] := by
      rw [hw5, put4_size]
      exact oz.box (t := 26) HX2.out (by decide) (put4_grown _ _ _ _ _ _)
    unfold put4 at hw5
    rw [← hw5]
    clear hw5
    obtain ⟨bx, hbx⟩ : ∃ bx, bx = wr.heap.size := ⟨_, rfl⟩
    rw [← hbx]
    rw [← hbx] at q5 lz
    have Q5 : Hid (w5.heap[bx]? = some (.cells #[.int .i64 M, .slice ra (R.length - k) rc, .slice la (L.length - k) lc, .int .i64 G] 26)) := q5
    have Q0 : Hid (w5.heap[w.heap.size]? = some (.cells #[.int .i64 M, .slice s R.length cs, .slice a L.length ca, .int .i64 G] 26)) := q0
    have Q1 : Hid (w5.heap[w.heap.size + 1]? = some (.cells #[.int .i64 0, .slice none 0 0, .slice none 0 0, .int .i64 0] 26)) := q1
    have B5 : Hid (Below w.heap.size w w5) := b5
    have O5 : Hid (Own3 w5 (w.heap.size + 2) w5.heap.size (.slice ra (R.length - k) rc) (.slice la (L.length - k) lc) (.slice none 0 0) (R.drop k) (L.drop k) []) := o5
    have LZ : Hid (w.heap.size + 2 ≤ bx) := lz
    have ne1 : ¬ bx = w.heap.size := by omega
    have ne2 : ¬ w.heap.size = bx := by omega
    have ne3 : ¬ bx = w.heap.size + 1 := by omega
    have ne4 : ¬ w.heap.size + 1 = bx := by omega
    clear hbx oz bz9 z1 z0 lz q5 q0 q1 b5 o5 OO BZ bR oR HCR HCL HD0 HD1 HSD sD sA neD neD' neE neE' ner1 ner2 nez1 nez2
    clear sz sr HX2
    have c2 : w5.cell? ⟨w.heap.size, 2, none⟩ = some (.slice a L.length ca) := cell_ofB Q0.out 2
    go_wp2
    go_loopw [29] (fun i wr => ∃ j : Nat, j ≤ k ∧ i = .int .i64 j ∧ wr.heap[bx]? = some (.cells #[.int .i64 M, .slice ra (R.length - k) rc, .slice la (L.length - k) lc, .int .i64 (G + sumL (L.take j))] 26) ∧ wr.heap[w.heap.size]? = some (.cells #[.int .i64 M, .slice s R.length cs, .slice a L.length ca, .int .i64 G] 26) ∧ wr.heap[w.heap.size + 1]? = some (.cells #[.int .i64 0, .slice none 0 0, .slice none 0 0, .int .i64 0] 26) ∧ Own3 wr (w.heap.size + 2) wr.heap.size (.slice ra (R.length - k) rc) (.slice la (L.length - k) lc) (.slice none 0 0) (R.drop k) (L.drop k) [] ∧ Below w.heap.size w wr) (fun i _ => k - (intOf i).toNat)
    case atStart => exact ⟨0, Nat.zero_le _, rfl, by simpa [sumL] using Q5.out, Q0.out, Q1.out, O5.out, B5.out⟩
    case round =>
      obtain ⟨j, hj, rfl, p5, p0, p1, o6, b6⟩ := hrel
      have P5 : Hid (wr.heap[bx]? = some (.cells #[.int .i64 M, .slice ra (R.length - k) rc, .slice la (L.length - k) lc, .int .i64 (G + sumL (L.take j))] 26)) := p5
      have P0 : Hid (wr.heap[w.heap.size]? = some (.cells #[.int .i64 M, .slice s R.length cs, .slice a L.length ca, .int .i64 G] 26)) := p0
      have P1 : Hid (wr.heap[w.heap.size + 1]? = some (.cells #[.int .i64 0, .slice none 0 0, .slice none 0 0, .int .i64 0] 26)) := p1
      have O6 : Hid (Own3 wr (w.heap.size + 2) wr.heap.size (.slice ra (R.length - k) rc) (.slice la (L.length - k) lc) (.slice none 0 0) (R.drop k) (L.drop k) []) := o6
      have B6 : Hid (Below w.heap.size w wr) := b6
      clear p5 p0 p1 o6 b6
      by_cases hlt : j < k
      · have hltI : (j : Int) < (k : Int) := by omega
        have e1 := sumL_snoc L j (by omega)
        have x1 := HS.out j (by omega)
        have x2 := HS.out (j + 1) (by omega)
        have E1 : Hid _ := e1
        have hw : IntKind.i64.wrap (G + sumL (L.take j) + L.getD j 0) = G + sumL (L.take j) + L.getD j 0 := IntWalk.i64_in _ (by omega)
        have g3 : wr.cell? ⟨bx, 3, none⟩ = some (.int .i64 (G + sumL (L.take j))) := cell_ofB P5.out 3
        have f3 : wr.frozen? ⟨bx, 3, none⟩ = false := frozen_of_row wr _ _ _ _ P5.out
        have HN : Hid (∀ x, (wr.setCell ⟨bx, 3, none⟩ x).heap[bx]? = some (.cells #[.int .i64 M, .slice ra (R.length - k) rc, .slice la (L.length - k) lc, x] 26)) := fun x => blk_sameB P5.out 3 x
        have HN0 : Hid (∀ x, (wr.setCell ⟨bx, 3, none⟩ x).heap[w.heap.size]? = some (.cells #[.int .i64 M, .slice s R.length cs, .slice a L.length ca, .int .i64 G] 26)) := fun x => (blk_othB _ _ _ _ _ ne1).trans P0.out
        have HN1 : Hid (∀ x, (wr.setCell ⟨bx, 3, none⟩ x).heap[w.heap.size + 1]? = some (.cells #[.int .i64 0, .slice none 0 0, .slice none 0 0, .int .i64 0] 26)) := fun x => (blk_othB _ _ _ _ _ ne3).trans P1.out
        have HNO : Hid (∀ x, Own3 (wr.setCell ⟨bx, 3, none⟩ x) (w.heap.size + 2) (wr.setCell ⟨bx, 3, none⟩ x).heap.size (.slice ra (R.length - k) rc) (.slice la (L.length - k) lc) (.slice none 0 0) (R.drop k) (L.drop k) []) := fun x => by
          have e : (wr.setCell ⟨bx, 3, none⟩ x).heap.size = wr.heap.size := by simp [World.setCell]
          rw [e]
          exact O6.out.box (t := 26) P5.out (by decide) (grown_setB wr bx 3 x)
        have HNB : Hid (∀ x, Below w.heap.size w (wr.setCell ⟨bx, 3, none⟩ x)) := fun x => Below.grown B6.out (grown_setB wr bx 3 x) B6.out.size (fun g e => by have h := Option.some.inj e; have h2 := LZ.out; omega)
        obtain ⟨b1, o1, rfl, l1, h1⟩ := HL0.out j (by omega)
        have gx : wr.cell? ⟨b1, o1 + j, none⟩ = some (.int .i64 (L.getD j 0)) := (B6.out.cell (p := ⟨b1, o1 + j, none⟩) l1).trans h1
        clear e1 x1 x2 h1
        generalize L.getD j 0 = x at *
        generalize sumL (L.take j) = y at *
        go_wp2
        go_roundw
        case rel => exact ⟨j + 1, by omega, by go_num, by rw [E1.out, ← Int.add_assoc]; first | exact HN.out _ | (rw [← hw]; exact HN.out _), HN0.out _, HN1.out _, HNO.out _, HNB.out _⟩
        case measure => simp [intOf]; omega
      · obtain rfl : j = k := by omega
        have hlf : ¬ (j : Int) < (j : Int) := by omega
        have HCF : Hid (Calls Try.prog 63 #[.slice s j cs] wr.drew fun e w'' => ∃ v, e = .returned v ∧ w''.ownsRow wr.drew.heap.size 3 1 v (R.take j).length (ints (R.take j)) ∧ Below wr.drew.heap.size wr.drew w'') := sown_any (R.take j) s j cs wr.drew HK3.out HQ3.out (IntsAt.keepB (IntsAt.keepB HFR.out B6.out) ((Below.refl _ _).drew))
        have sE : (wr.drew.cell? ⟨w.heap.size, 1, none⟩ = some (.slice s R.length cs) ∧ wr.drew.cell? ⟨bx, 0, none⟩ = some (.int .i64 M) ∧ wr.drew.cell? ⟨bx, 1, none⟩ = some (.slice ra (R.length - j) rc) ∧ wr.drew.cell? ⟨bx, 2, none⟩ = some (.slice la (L.length - j) lc) ∧ wr.drew.cell? ⟨bx, 3, none⟩ = some (.int .i64 (G + sumL (L.take j)))) := ⟨cell_ofB (w := wr.drew) P0.out 1, cell_ofB (w := wr.drew) P5.out 0, cell_ofB (w := wr.drew) P5.out 1, cell_ofB (w := wr.drew) P5.out 2, cell_ofB (w := wr.drew) P5.out 3⟩
        clear HFR HTR HTL HL0
        generalize hy : sumL (L.take j) = y at *
        have HY : Hid (sumL (L.take j) = y) := hy
        clear hy
        go_wp2
        go_region_held (fun w' => (w'.cell? ⟨w.heap.size, 1, none⟩ = some (.slice s R.length cs) ∧ w'.cell? ⟨bx, 0, none⟩ = some (.int .i64 M) ∧ w'.cell? ⟨bx, 1, none⟩ = some (.slice ra (R.length - j) rc) ∧ w'.cell? ⟨bx, 2, none⟩ = some (.slice la (L.length - j) lc) ∧ w'.cell? ⟨bx, 3, none⟩ = some (.int .i64 (G + y)))) (first | assumption | go_keep) (first
          | (go_at_call 63
             (with_reducible refine Calls.mono HCF.out ?_)
             rintro r wt ⟨vT, rfl, oT, bt⟩
             obtain ⟨-, xa, xc, rfl, -⟩ := ints_of_own oT
             have t5 : wt.heap[bx]? = some (.cells #[.int .i64 M, .slice ra (R.length - j) rc, .slice la (L.length - j) lc, .int .i64 (G + y)] 26) := (bt.block _ (Array.getElem?_eq_some_iff.1 P5.out).1).trans P5.out
             have t0 : wt.heap[w.heap.size]? = some (.cells #[.int .i64 M, .slice s R.length cs, .slice a L.length ca, .int .i64 G] 26) := (bt.block _ (Array.getElem?_eq_some_iff.1 P0.out).1).trans P0.out
             have t1 : wt.heap[w.heap.size + 1]? = some (.cells #[.int .i64 0, .slice none 0 0, .slice none 0 0, .int .i64 0] 26) := (bt.block _ (Array.getElem?_eq_some_iff.1 P1.out).1).trans P1.out
             have st : (wt.cell? ⟨w.heap.size, 1, none⟩ = some (.slice s R.length cs) ∧ wt.cell? ⟨bx, 0, none⟩ = some (.int .i64 M) ∧ wt.cell? ⟨bx, 1, none⟩ = some (.slice ra (R.length - j) rc) ∧ wt.cell? ⟨bx, 2, none⟩ = some (.slice la (L.length - j) lc) ∧ wt.cell? ⟨bx, 3, none⟩ = some (.int .i64 (G + y))) := ⟨cell_ofB t0 1, cell_ofB t5 0, cell_ofB t5 1, cell_ofB t5 2, cell_ofB t5 3⟩
             have y0 : wt.cell? ⟨w.heap.size + 1, 0, none⟩ = some (.int .i64 0) := cell_ofB t1 0; have f0 : wt.frozen? ⟨w.heap.size + 1, 0, none⟩ = false := frozen_of_row wt _ _ _ _ t1; have y1 : wt.cell? ⟨w.heap.size + 1, 1, none⟩ = some (.slice none 0 0) := cell_ofB t1 1; have f1 : wt.frozen? ⟨w.heap.size + 1, 1, none⟩ = false := frozen_of_row wt _ _ _ _ t1; have y2 : wt.cell? ⟨w.heap.size + 1, 2, none⟩ = some (.slice none 0 0) := cell_ofB t1 2; have f2 : wt.frozen? ⟨w.heap.size + 1, 2, none⟩ = false := frozen_of_row wt _ _ _ _ t1; have y3 : wt.cell? ⟨w.heap.size + 1, 3, none⟩ = some (.int .i64 0) := cell_ofB t1 3; have f3 : wt.frozen? ⟨w.heap.size + 1, 3, none⟩ = false := frozen_of_row wt _ _ _ _ t1
             have T1 : Hid (wt.heap[w.heap.size + 1]? = some (.cells #[.int .i64 0, .slice none 0 0, .slice none 0 0, .int .i64 0] 26)) := t1
             have T5 : Hid (wt.heap[bx]? = some (.cells #[.int .i64 M, .slice ra (R.length - j) rc, .slice la (L.length - j) lc, .int .i64 (G + y)] 26)) := t5
             have OT : Hid (wt.ownsRow wr.heap.size 3 1 (.slice xa (R.take j).length xc) (R.take j).length (ints (R.take j))) := oT
             have BT : Hid (Below wr.drew.heap.size wr.drew wt) := bt
             clear oT bt t0 t1 t5))
        all_goals
          go_wp2
          obtain ⟨w9, hw9⟩ : ∃ w9, w9 = put4 wt (w.heap.size + 1) (.int .i64 M) (.slice ra (R.length - j) rc) (.slice la (L.length - j) lc) (.int .i64 (G + y)) := ⟨_, rfl⟩
          have hb9 : w9.heap[w.heap.size + 1]? = some (.cells #[.int .i64 M, .slice ra (R.length - j) rc, .slice la (L.length - j) lc, .int .i64 (G + y)] 26) := by rw [hw9]; exact put4_same T1.out _ _ _ _
          have o9 : Own3 w9 w.heap.size w9.heap.size (.slice ra (R.length - j) rc) (.slice la (L.length - j) lc) (.slice xa (R.take j).length xc) (R.drop j) (L.drop j) (R.take j) := by
            have h1 := O6.out.keepB ((Below.refl wr.heap.size wr).drew.trans BT.out)
            have h2 : Own3 wt (w.heap.size + 2) wt.heap.size (.slice ra (R.length - j) rc) (.slice la (L.length - j) lc) (.slice xa (R.take j).length xc) (R.drop j) (L.drop j) (R.take j) :=
              Own3.mk _ h1.1.1 h1.1.2.1 OT.out (Nat.le_refl _) (Nat.le_refl _) (Nat.le_trans (by have := LZ.out; have h := (Array.getElem?_eq_some_iff.1 P5.out).1; omega) (Nat.le_refl _)) h1.2.2.1 (apart_lt (fun g e => h1.2.1.1 g e) (fun g e => (World.ownsRow.lt OT.out g e).1)) (apart_lt (fun g e => h1.2.1.2.1 g e) (fun g e => (World.ownsRow.lt OT.out g e).1))
            rw [hw9, put4_size]
            exact (put4_own3 h2 (by omega) _ _ _ _).mono (by omega)
          have bel : Below w.heap.size w w9 := by
            rw [hw9]
            have q : Below w.heap.size w wt := (B6.out.drew).trans (BT.out.mono B6.out.size)
            exact put4_below q (by omega) q.size _ _ _ _
          unfold put4 at hw9
          rw [← hw9]
          have r0 : w9.cell? ⟨w.heap.size + 1, 0, none⟩ = some (.int .i64 M) := cell_ofB hb9 0
          have r1 : w9.cell? ⟨w.heap.size + 1, 1, none⟩ = some (.slice ra (R.length - j) rc) := cell_ofB hb9 1
          have r2 : w9.cell? ⟨w.heap.size + 1, 2, none⟩ = some (.slice la (L.length - j) lc) := cell_ofB hb9 2
          have r3 : w9.cell? ⟨w.heap.size + 1, 3, none⟩ = some (.int .i64 (G + y)) := cell_ofB hb9 3
          exact bodyPost_ret (v := .tuple #[.agg #[.int .i64 M, .slice ra (R.length - j) rc, .slice la (L.length - j) lc, .int .i64 (G + y)], .slice xa (R.take j).length xc]) (by simp [results, Try.results52, go_sem, r0, r1, r2, r3]; omega) rfl ⟨_, _, _, by rw [HY.out], o9, bel⟩
  · have oz : Own3 wz (w.heap.size + 2) wz.heap.size (.slice ra (R.length - k) rc) (.slice la (L.length - k) lc) (.slice none 0 0) (R.drop k) (L.drop k) [] := by have h := OO.out; simp only [List.length_drop] at h; exact h
    have bz9 : Below w.heap.size w wz := BD.out.trans (BZ.out.mono BD.out.size)
    have z1 : wz.heap[w.heap.size + 1]? = some (.cells #[.int .i64 0, .slice none 0 0, .slice none 0 0, .int .i64 0] 26) := (BZ.out.block _ (by rw [HSD.out]; omega)).trans HD1.out
    have z0 : wz.heap[w.heap.size]? = some (.cells #[.int .i64 M, .slice s R.length cs, .slice a L.length ca, .int .i64 G] 26) := (BZ.out.block _ (by rw [HSD.out]; omega)).trans HD0.out
    have lz : w.heap.size + 2 ≤ w0.heap.size := by have h1 := HSD.out; have h2 : w0.drew.heap.size = w0.heap.size := rfl; omega
    obtain ⟨w5, hw5⟩ : ∃ w5, w5 = put4 wz w0.heap.size (.int .i64 M) (.slice ra (R.length - k) rc) (.slice la (L.length - k) lc) (.int .i64 G) := ⟨_, rfl⟩
    have q5 : w5.heap[w0.heap.size]? = some (.cells #[.int .i64 M, .slice ra (R.length - k) rc, .slice la (L.length - k) lc, .int .i64 G] 26) := by rw [hw5]; exact put4_same HX2.out _ _ _ _
    have q0 : w5.heap[w.heap.size]? = some (.cells #[.int .i64 M, .slice s R.length cs, .slice a L.length ca, .int .i64 G] 26) := by rw [hw5]; exact (put4_oth _ _ _ _ _ _ _ (by omega)).trans z0
    have q1 : w5.heap[w.heap.size + 1]? = some (.cells #[.int .i64 0, .slice none 0 0, .slice none 0 0, .int .i64 0] 26) := by rw [hw5]; exact (put4_oth _ _ _ _ _ _ _ (by omega)).trans z1
    have b5 : Below w.heap.size w w5 := by rw [hw5]; exact put4_below bz9 (by omega) bz9.size _ _ _ _
    have o5 : Own3 w5 (w.heap.size + 2) w5.heap.size (.slice ra (R.length - k) rc) (.slice la (L.length - k) lc) (.slice none 0 0) (R.drop k) (L.drop k) [] := by
      rw [hw5, put4_size]
      exact oz.box (t := 26) HX2.out (by decide) (put4_grown _ _ _ _ _ _)
    unfold put4 at hw5
    rw [← hw5]
    clear hw5
    obtain ⟨bx, hbx⟩ : ∃ bx, bx = w0.heap.size := ⟨_, rfl⟩
    rw [← hbx]
    rw [← hbx] at q5 lz
    have Q5 : Hid (w5.heap[bx]? = some (.cells #[.int .i64 M, .slice ra (R.length - k) rc, .slice la (L.length - k) lc, .int .i64 G] 26)) := q5
    have Q0 : Hid (w5.heap[w.heap.size]? = some (.cells #[.int .i64 M, .slice s R.length cs, .slice a L.length ca, .int .i64 G] 26)) := q0
    have Q1 : Hid (w5.heap[w.heap.size + 1]? = some (.cells #[.int .i64 0, .slice none 0 0, .slice none 0 0, .int .i64 0] 26)) := q1
    have B5 : Hid (Below w.heap.size w w5) := b5
    have O5 : Hid (Own3 w5 (w.heap.size + 2) w5.heap.size (.slice ra (R.length - k) rc) (.slice la (L.length - k) lc) (.slice none 0 0) (R.drop k) (L.drop k) []) := o5
    have LZ : Hid (w.heap.size + 2 ≤ bx) := lz
    have ne1 : ¬ bx = w.heap.size := by omega
    have ne2 : ¬ w.heap.size = bx := by omega
    have ne3 : ¬ bx = w.heap.size + 1 := by omega
    have ne4 : ¬ w.heap.size + 1 = bx := by omega
    clear hbx oz bz9 z1 z0 lz q5 q0 q1 b5 o5 OO BZ bR oR HCR HCL HD0 HD1 HSD sD sA neD neD' neE neE' ner1 ner2 nez1 nez2
    clear sz sr HX2 HX HXL
    have c2 : w5.cell? ⟨w.heap.size, 2, none⟩ = some (.slice a L.length ca) := cell_ofB Q0.out 2
    go_wp2
    go_loopw [29] (fun i wr => ∃ j : Nat, j ≤ k ∧ i = .int .i64 j ∧ wr.heap[bx]? = some (.cells #[.int .i64 M, .slice ra (R.length - k) rc, .slice la (L.length - k) lc, .int .i64 (G + sumL (L.take j))] 26) ∧ wr.heap[w.heap.size]? = some (.cells #[.int .i64 M, .slice s R.length cs, .slice a L.length ca, .int .i64 G] 26) ∧ wr.heap[w.heap.size + 1]? = some (.cells #[.int .i64 0, .slice none 0 0, .slice none 0 0, .int .i64 0] 26) ∧ Own3 wr (w.heap.size + 2) wr.heap.size (.slice ra (R.length - k) rc) (.slice la (L.length - k) lc) (.slice none 0 0) (R.drop k) (L.drop k) [] ∧ Below w.heap.size w wr) (fun i _ => k - (intOf i).toNat)
    case atStart => exact ⟨0, Nat.zero_le _, rfl, by simpa [sumL] using Q5.out, Q0.out, Q1.out, O5.out, B5.out⟩
    case round =>
      obtain ⟨j, hj, rfl, p5, p0, p1, o6, b6⟩ := hrel
      have P5 : Hid (wr.heap[bx]? = some (.cells #[.int .i64 M, .slice ra (R.length - k) rc, .slice la (L.length - k) lc, .int .i64 (G + sumL (L.take j))] 26)) := p5
      have P0 : Hid (wr.heap[w.heap.size]? = some (.cells #[.int .i64 M, .slice s R.length cs, .slice a L.length ca, .int .i64 G] 26)) := p0
      have P1 : Hid (wr.heap[w.heap.size + 1]? = some (.cells #[.int .i64 0, .slice none 0 0, .slice none 0 0, .int .i64 0] 26)) := p1
      have O6 : Hid (Own3 wr (w.heap.size + 2) wr.heap.size (.slice ra (R.length - k) rc) (.slice la (L.length - k) lc) (.slice none 0 0) (R.drop k) (L.drop k) []) := o6
      have B6 : Hid (Below w.heap.size w wr) := b6
      clear p5 p0 p1 o6 b6
      by_cases hlt : j < k
      · have hltI : (j : Int) < (k : Int) := by omega
        have e1 := sumL_snoc L j (by omega)
        have x1 := HS.out j (by omega)
        have x2 := HS.out (j + 1) (by omega)
        have E1 : Hid _ := e1
        have hw : IntKind.i64.wrap (G + sumL (L.take j) + L.getD j 0) = G + sumL (L.take j) + L.getD j 0 := IntWalk.i64_in _ (by omega)
        have g3 : wr.cell? ⟨bx, 3, none⟩ = some (.int .i64 (G + sumL (L.take j))) := cell_ofB P5.out 3
        have f3 : wr.frozen? ⟨bx, 3, none⟩ = false := frozen_of_row wr _ _ _ _ P5.out
        have HN : Hid (∀ x, (wr.setCell ⟨bx, 3, none⟩ x).heap[bx]? = some (.cells #[.int .i64 M, .slice ra (R.length - k) rc, .slice la (L.length - k) lc, x] 26)) := fun x => blk_sameB P5.out 3 x
        have HN0 : Hid (∀ x, (wr.setCell ⟨bx, 3, none⟩ x).heap[w.heap.size]? = some (.cells #[.int .i64 M, .slice s R.length cs, .slice a L.length ca, .int .i64 G] 26)) := fun x => (blk_othB _ _ _ _ _ ne1).trans P0.out
        have HN1 : Hid (∀ x, (wr.setCell ⟨bx, 3, none⟩ x).heap[w.heap.size + 1]? = some (.cells #[.int .i64 0, .slice none 0 0, .slice none 0 0, .int .i64 0] 26)) := fun x => (blk_othB _ _ _ _ _ ne3).trans P1.out
        have HNO : Hid (∀ x, Own3 (wr.setCell ⟨bx, 3, none⟩ x) (w.heap.size + 2) (wr.setCell ⟨bx, 3, none⟩ x).heap.size (.slice ra (R.length - k) rc) (.slice la (L.length - k) lc) (.slice none 0 0) (R.drop k) (L.drop k) []) := fun x => by
          have e : (wr.setCell ⟨bx, 3, none⟩ x).heap.size = wr.heap.size := by simp [World.setCell]
          rw [e]
          exact O6.out.box (t := 26) P5.out (by decide) (grown_setB wr bx 3 x)
        have HNB : Hid (∀ x, Below w.heap.size w (wr.setCell ⟨bx, 3, none⟩ x)) := fun x => Below.grown B6.out (grown_setB wr bx 3 x) B6.out.size (fun g e => by have h := Option.some.inj e; have h2 := LZ.out; omega)
        obtain ⟨b1, o1, rfl, l1, h1⟩ := HL0.out j (by omega)
        have gx : wr.cell? ⟨b1, o1 + j, none⟩ = some (.int .i64 (L.getD j 0)) := (B6.out.cell (p := ⟨b1, o1 + j, none⟩) l1).trans h1
        clear e1 x1 x2 h1
        generalize L.getD j 0 = x at *
        generalize sumL (L.take j) = y at *
        go_wp2
        go_roundw
        case rel => exact ⟨j + 1, by omega, by go_num, by rw [E1.out, ← Int.add_assoc]; first | exact HN.out _ | (rw [← hw]; exact HN.out _), HN0.out _, HN1.out _, HNO.out _, HNB.out _⟩
        case measure => simp [intOf]; omega
      · obtain rfl : j = k := by omega
        have hlf : ¬ (j : Int) < (j : Int) := by omega
        have HCF : Hid (Calls Try.prog 63 #[.slice s j cs] wr.drew fun e w'' => ∃ v, e = .returned v ∧ w''.ownsRow wr.drew.heap.size 3 1 v (R.take j).length (ints (R.take j)) ∧ Below wr.drew.heap.size wr.drew w'') := sown_any (R.take j) s j cs wr.drew HK3.out HQ3.out (IntsAt.keepB (IntsAt.keepB HFR.out B6.out) ((Below.refl _ _).drew))
        have sE : (wr.drew.cell? ⟨w.heap.size, 1, none⟩ = some (.slice s R.length cs) ∧ wr.drew.cell? ⟨bx, 0, none⟩ = some (.int .i64 M) ∧ wr.drew.cell? ⟨bx, 1, none⟩ = some (.slice ra (R.length - j) rc) ∧ wr.drew.cell? ⟨bx, 2, none⟩ = some (.slice la (L.length - j) lc) ∧ wr.drew.cell? ⟨bx, 3, none⟩ = some (.int .i64 (G + sumL (L.take j)))) := ⟨cell_ofB (w := wr.drew) P0.out 1, cell_ofB (w := wr.drew) P5.out 0, cell_ofB (w := wr.drew) P5.out 1, cell_ofB (w := wr.drew) P5.out 2, cell_ofB (w := wr.drew) P5.out 3⟩
        clear HFR HTR HTL HL0
        generalize hy : sumL (L.take j) = y at *
        have HY : Hid (sumL (L.take j) = y) := hy
        clear hy
        go_wp2
        go_region_held (fun w' => (w'.cell? ⟨w.heap.size, 1, none⟩ = some (.slice s R.length cs) ∧ w'.cell? ⟨bx, 0, none⟩ = some (.int .i64 M) ∧ w'.cell? ⟨bx, 1, none⟩ = some (.slice ra (R.length - j) rc) ∧ w'.cell? ⟨bx, 2, none⟩ = some (.slice la (L.length - j) lc) ∧ w'.cell? ⟨bx, 3, none⟩ = some (.int .i64 (G + y)))) (first | assumption | go_keep) (first
          | (go_at_call 63
             (with_reducible refine Calls.mono HCF.out ?_)
             rintro r wt ⟨vT, rfl, oT, bt⟩
             obtain ⟨-, xa, xc, rfl, -⟩ := ints_of_own oT
             have t5 : wt.heap[bx]? = some (.cells #[.int .i64 M, .slice ra (R.length - j) rc, .slice la (L.length - j) lc, .int .i64 (G + y)] 26) := (bt.block _ (Array.getElem?_eq_some_iff.1 P5.out).1).trans P5.out
             have t0 : wt.heap[w.heap.size]? = some (.cells #[.int .i64 M, .slice s R.length cs, .slice a L.length ca, .int .i64 G] 26) := (bt.block _ (Array.getElem?_eq_some_iff.1 P0.out).1).trans P0.out
             have t1 : wt.heap[w.heap.size + 1]? = some (.cells #[.int .i64 0, .slice none 0 0, .slice none 0 0, .int .i64 0] 26) := (bt.block _ (Array.getElem?_eq_some_iff.1 P1.out).1).trans P1.out
             have st : (wt.cell? ⟨w.heap.size, 1, none⟩ = some (.slice s R.length cs) ∧ wt.cell? ⟨bx, 0, none⟩ = some (.int .i64 M) ∧ wt.cell? ⟨bx, 1, none⟩ = some (.slice ra (R.length - j) rc) ∧ wt.cell? ⟨bx, 2, none⟩ = some (.slice la (L.length - j) lc) ∧ wt.cell? ⟨bx, 3, none⟩ = some (.int .i64 (G + y))) := ⟨cell_ofB t0 1, cell_ofB t5 0, cell_ofB t5 1, cell_ofB t5 2, cell_ofB t5 3⟩
             have y0 : wt.cell? ⟨w.heap.size + 1, 0, none⟩ = some (.int .i64 0) := cell_ofB t1 0; have f0 : wt.frozen? ⟨w.heap.size + 1, 0, none⟩ = false := frozen_of_row wt _ _ _ _ t1; have y1 : wt.cell? ⟨w.heap.size + 1, 1, none⟩ = some (.slice none 0 0) := cell_ofB t1 1; have f1 : wt.frozen? ⟨w.heap.size + 1, 1, none⟩ = false := frozen_of_row wt _ _ _ _ t1; have y2 : wt.cell? ⟨w.heap.size + 1, 2, none⟩ = some (.slice none 0 0) := cell_ofB t1 2; have f2 : wt.frozen? ⟨w.heap.size + 1, 2, none⟩ = false := frozen_of_row wt _ _ _ _ t1; have y3 : wt.cell? ⟨w.heap.size + 1, 3, none⟩ = some (.int .i64 0) := cell_ofB t1 3; have f3 : wt.frozen? ⟨w.heap.size + 1, 3, none⟩ = false := frozen_of_row wt _ _ _ _ t1
             have T1 : Hid (wt.heap[w.heap.size + 1]? = some (.cells #[.int .i64 0, .slice none 0 0, .slice none 0 0, .int .i64 0] 26)) := t1
             have T5 : Hid (wt.heap[bx]? = some (.cells #[.int .i64 M, .slice ra (R.length - j) rc, .slice la (L.length - j) lc, .int .i64 (G + y)] 26)) := t5
             have OT : Hid (wt.ownsRow wr.heap.size 3 1 (.slice xa (R.take j).length xc) (R.take j).length (ints (R.take j))) := oT
             have BT : Hid (Below wr.drew.heap.size wr.drew wt) := bt
             clear oT bt t0 t1 t5))
        all_goals
          go_wp2
          obtain ⟨w9, hw9⟩ : ∃ w9, w9 = put4 wt (w.heap.size + 1) (.int .i64 M) (.slice ra (R.length - j) rc) (.slice la (L.length - j) lc) (.int .i64 (G + y)) := ⟨_, rfl⟩
          have hb9 : w9.heap[w.heap.size + 1]? = some (.cells #[.int .i64 M, .slice ra (R.length - j) rc, .slice la (L.length - j) lc, .int .i64 (G + y)] 26) := by rw [hw9]; exact put4_same T1.out _ _ _ _
          have o9 : Own3 w9 w.heap.size w9.heap.size (.slice ra (R.length - j) rc) (.slice la (L.length - j) lc) (.slice xa (R.take j).length xc) (R.drop j) (L.drop j) (R.take j) := by
            have h1 := O6.out.keepB ((Below.refl wr.heap.size wr).drew.trans BT.out)
            have h2 : Own3 wt (w.heap.size + 2) wt.heap.size (.slice ra (R.length - j) rc) (.slice la (L.length - j) lc) (.slice xa (R.take j).length xc) (R.drop j) (L.drop j) (R.take j) :=
              Own3.mk _ h1.1.1 h1.1.2.1 OT.out (Nat.le_refl _) (Nat.le_refl _) (Nat.le_trans (by have := LZ.out; have h := (Array.getElem?_eq_some_iff.1 P5.out).1; omega) (Nat.le_refl _)) h1.2.2.1 (apart_lt (fun g e => h1.2.1.1 g e) (fun g e => (World.ownsRow.lt OT.out g e).1)) (apart_lt (fun g e => h1.2.1.2.1 g e) (fun g e => (World.ownsRow.lt OT.out g e).1))
            rw [hw9, put4_size]
            exact (put4_own3 h2 (by omega) _ _ _ _).mono (by omega)
          have bel : Below w.heap.size w w9 := by
            rw [hw9]
            have q : Below w.heap.size w wt := (B6.out.drew).trans (BT.out.mono B6.out.size)
            exact put4_below q (by omega) q.size _ _ _ _
          unfold put4 at hw9
          rw [← hw9]
          have r0 : w9.cell? ⟨w.heap.size + 1, 0, none⟩ = some (.int .i64 M) := cell_ofB hb9 0
          have r1 : w9.cell? ⟨w.heap.size + 1, 1, none⟩ = some (.slice ra (R.length - j) rc) := cell_ofB hb9 1
          have r2 : w9.cell? ⟨w.heap.size + 1, 2, none⟩ = some (.slice la (L.length - j) lc) := cell_ofB hb9 2
          have r3 : w9.cell? ⟨w.heap.size + 1, 3, none⟩ = some (.int .i64 (G + y)) := cell_ofB hb9 3
          exact bodyPost_ret (v := .tuple #[.agg #[.int .i64 M, .slice ra (R.length - j) rc, .slice la (L.length - j) lc, .int .i64 (G + y)], .slice xa (R.take j).length xc]) (by simp [results, Try.results52, go_sem, r0, r1, r2, r3]; omega) rfl ⟨_, _, _, by rw [HY.out], o9, bel⟩
end Go.Proofs.Ytklgagonbehpeaa
