/-
  BordersOf of both.
-/
import Derived.Test.YtabjjlcjephhkaaW8K
import Derived.Test.YtabjjlcjephhkaaW8I
import Derived.Test.YtabjjlcjephhkaaN3B
namespace Go.Proofs.Ytabjjlcjephhkaa
open Go.ChangeShapes Go.WideShapes Go.ChangeAt Go.RowKit Go.Maps
def bordA (L : List Int) : List Int := if okL L = true then bordL L L.length else []
theorem own_cap8 {w : World} {base : Nat} {e : TypeId} {size n n' c : Nat} {a : Option Addr} {xs : List Value} (h : w.ownsRow base e size (.slice a n c) n' xs) : n ≤ c := by
  rcases h.2 with ⟨e1, -⟩ | ⟨g, cap, cur, e1, -, -, k3, -⟩
  · simp only [Value.slice.injEq] at e1; omega
  · simp only [Value.slice.injEq] at e1; omega
theorem bordA_len (L : List Int) (hl : L.length ≤ 1048576) : (bordA L).length ≤ 1048576 := by
  unfold bordA
  split
  · rw [show (bordL L L.length).length = L.length by simp [bordL]]; exact hl
  · exact Nat.zero_le _
theorem okL_true {L : List Int} (h : okL L = true) : allG L = true ∧ L.length ≤ 120 := by
  unfold okL at h
  simpa [Bool.and_eq_true] using h
set_option maxRecDepth 100000 in
set_option maxHeartbeats 1000000 in
theorem sbordersOf_any (L : List Int) (ao : Option Addr) (cap : Nat) (w : World) (hl : L.length ≤ 1048576) (hcap : L.length ≤ cap) (hA : IntsAt w ao L) :
    Calls Try.prog 15 #[.slice ao L.length cap] w fun e w' => ∃ v, e = .returned (.tuple #[v, .bool (okL L)]) ∧ w'.ownsRow w.heap.size 3 1 v (bordA L).length (ints (bordA L)) ∧ Below w.heap.size w w' := by
  have HLI : Hid (Calls Try.prog 55 #[.slice ao L.length cap] w fun e w' => e = .returned (.bool (okL L)) ∧ Below w.heap.size w w') := slist8_any L ao cap w hl hA
  have HA : Hid _ := hA
  clear hA
  cases hg : okL L
  · have HB : Hid (bordA L = []) := (by unfold bordA; rw [hg]; rfl : bordA L = [])
    rw [hg] at HLI
    go_enter Try.func15, Try.ntmps15
    go_wp2_with fail
    refine Calls.mono HLI.out ?_
    rintro e w1 ⟨rfl, b1⟩
    go_wp2
    go_ret2
    exact ⟨_, rfl, by rw [HB.out]; exact World.ownsRow_nil _ _ _ _, b1⟩
  · have HB : Hid (bordA L = bordL L L.length) := (by unfold bordA; rw [hg]; rfl : bordA L = bordL L L.length)
    have h120 := (okL_true hg).2
    rw [hg] at HLI
    have HS : Hid (∀ w', Below w.heap.size w w' → Calls Try.prog 56 #[.slice ao L.length cap] w' fun e w'' => ∃ v, e = .returned v ∧ w''.ownsRow w'.heap.size 3 1 v L.length (ints (bordL L L.length)) ∧ Below w'.heap.size w' w'') := fun w' hb => sborders_any L ao cap w' (by omega) hcap (IntsAt.keepB HA.out hb)
    go_enter Try.func15, Try.ntmps15
    go_wp2_with fail
    refine Calls.mono HLI.out ?_
    rintro e w1 ⟨rfl, b1⟩
    have B1 : Hid (Below w.heap.size w w1) := b1
    clear b1
    go_wp2_with fail
    refine Calls.mono (HS.out _ B1.out) ?_
    rintro e w2 ⟨v, rfl, o2, b2⟩
    have O2 : Hid (w2.ownsRow w.heap.size 3 1 v L.length (ints (bordL L L.length))) := own_mono o2 B1.out.size
    have B2 : Hid (Below w.heap.size w w2) := B1.out.trans (b2.mono B1.out.size)
    clear o2 b2
    go_wp2
    go_ret2
    exact ⟨v, rfl, by rw [HB.out, bordL_len]; exact O2.out, B2.out⟩
set_option maxRecDepth 100000 in
set_option maxHeartbeats 1000000 in
theorem istream_any (L : List Int) (ao : Option Addr) (cap : Nat) (w : World) (hl : L.length ≤ 1048576) (hA : IntsAt w ao L) :
    Calls Try.prog 53 #[.slice ao L.length cap] w fun e w' => e = .returned (.bool (okL L)) ∧ w' = w := by
  have HALL : Hid (Calls Try.prog 80 #[.slice ao L.length cap] w fun e w' => e = .returned (.bool (allG L)) ∧ w' = w) := iall3_any L ao cap w hl hA
  clear hA
  by_cases h120 : L.length ≤ 120
  · have HO : Hid (okL L = allG L) := (by unfold okL; simp [h120] : okL L = allG L)
    have hI : decide ((L.length : Int) ≤ 120) = true := decide_eq_true (by omega)
    clear h120
    generalize hga : allG L = ga at HALL HO
    cases ga
    all_goals
      go_enter Try.func53, Try.ntmps53
      go_wp2_with fail
      refine Calls.mono HALL.out ?_
      rintro e w1 ⟨rfl, rfl⟩
      go_wp2
      go_ret
      exact ⟨by rw [HO.out] <;> rfl, rfl⟩
  · have HO : Hid (okL L = false) := (by unfold okL; simp [h120] : okL L = false)
    have hI : decide ((L.length : Int) ≤ 120) = false := decide_eq_false (by omega)
    clear h120
    go_enter Try.func53, Try.ntmps53
    go_wp2
    go_ret
    exact ⟨by rw [HO.out] <;> rfl, rfl⟩
set_option maxRecDepth 100000 in
/-- All states but the first. -/
theorem tail_st (g n cap : Nat) (hc : n + 1 ≤ cap) : ∃ A C, (∀ w, (Instr.slice 74 (.slice (some ⟨g, 0, none⟩) (n + 1) cap) (some (.int .i64 1)) none none).run Try.prog w = .ok (.slice A n C) w) ∧ (0 < n → A = some ⟨g, 5, none⟩) := by
  obtain ⟨i0, hi, hz0, hz1, hz2⟩ := infoSt
  refine ⟨if cap = 1 then some ⟨g, 0, none⟩ else some ⟨g, 5, none⟩, cap - 1, fun w => ?_, fun h => if_neg (by omega)⟩
  rw [run_slice_l w 74 (some ⟨g, 0, none⟩) (n + 1) cap Try.underlying74 .i64 1 (by omega) (by omega), show Try.prog.elem 74 = 83 by kernel_rfl]
  by_cases e : cap = 1
  · simp [sizeOf, typeInfo, hi, hz1, sliced, e]
  · simp [sizeOf, typeInfo, hi, hz1, sliced, e, Addr.add]
theorem make0 (w : World) (n : Nat) (hn : n ≤ 1048576) : ∃ w', (Instr.makeSlice 24 (.int .i64 0) (.int .i64 (n : Int))).run Try.prog w = .ok (.slice (some ⟨w.heap.size, 0, none⟩) 0 n) w' ∧ w'.ownsRow w.heap.size 3 1 (.slice (some ⟨w.heap.size, 0, none⟩) 0 n) 0 [] ∧ Below w.heap.size w w' := by
  obtain ⟨i0, hi, hz0, hz1, hz2⟩ := info_parts Try.info3
  obtain ⟨w', h1, h2, h3⟩ := run_make_own (P := Try.prog) w w.heap.size 24 3 i0 (.int .i64 0) 1 Try.underlying24 hi hz0 hz1 .i64 .i64 n (by rw [hz2]; omega) (by unfold maxLen; omega) (Nat.le_refl _)
  exact ⟨w', h1, h2, Below.grown (Below.refl _ _) h3 (Nat.le_refl _) (fun g hg => by cases hg)⟩
theorem goodB_wf {x : Int} (h : goodB x = true) : wf64 x := by
  have := goodB_true h
  exact WalkArith.wf_i64 (by omega)
theorem allG_at {L : List Int} (h : allG L = true) {j : Nat} (hj : j < L.length) : goodB (L.getD j 0) = true := by
  unfold allG at h
  rw [List.all_eq_true] at h
  exact h _ (by simp [List.getD, hj])
theorem one_wf {L : List Int} (h : allG L = true) (k j : Nat) : wf64 ((rw_ [L] k).getD j 0) := by
  have z : wf64 0 := WalkArith.wf_i64 (by omega)
  cases k with
  | zero =>
    show wf64 (L.getD j 0)
    by_cases hj : j < L.length
    · exact goodB_wf (allG_at h hj)
    · simpa [List.getD, hj] using z
  | succ k => exact z
set_option maxRecDepth 100000 in
set_option maxHeartbeats 4000000 in
theorem ibordersOf_any (L : List Int) (ao : Option Addr) (cap : Nat) (w : World) (hl : L.length ≤ 1048576) (hcap : L.length ≤ cap) (hA : IntsAt w ao L) :
    Calls Try.prog 14 #[.slice ao L.length cap] w fun e w' => ∃ v, e = .returned (.tuple #[v, .bool (okL L)]) ∧ w'.ownsRow w.heap.size 3 1 v (bordA L).length (ints (bordA L)) ∧ Below w.heap.size w w' := by
  have HST : Hid (Calls Try.prog 53 #[.slice ao L.length cap] w fun e w' => e = .returned (.bool (okL L)) ∧ w' = w) := istream_any L ao cap w hl hA
  have HA : Hid _ := hA
  clear hA
  cases hg : okL L
  · have HB : Hid (bordA L = []) := (by unfold bordA; rw [hg]; rfl : bordA L = [])
    rw [hg] at HST
    go_enter Try.func14, Try.ntmps14
    go_wp2_with fail
    refine Calls.mono HST.out ?_
    rintro e w1 ⟨rfl, rfl⟩
    go_wp2
    go_ret2
    exact ⟨_, rfl, by rw [HB.out]; exact World.ownsRow_nil _ _ _ _, Below.refl _ _⟩
  · have HB : Hid (bordA L = bordL L L.length) := (by unfold bordA; rw [hg]; rfl : bordA L = bordL L L.length)
    obtain ⟨hall, h120⟩ := okL_true hg
    rw [hg] at HST
    obtain ⟨w2, hmk, how, b2⟩ := make0 w L.length hl
    have HT2 : Hid _ := fun o => trieOf_any (-1) [L] (some ⟨w2.heap.size, 0, none⟩) 1 (w2.alloc (.cells #[.slice ao L.length cap] o)) (fun j hj => by
      obtain rfl : j = 0 := by simp at hj; omega
      exact ⟨w2.heap.size, 0, ao, cap, rfl, by simp, cell_of (heap_last2 w2 _ _ rfl) 0, IntsAt.keepB (IntsAt.keepB HA.out b2) (al_W w2 _)⟩) (by simp) (one_wf hall) (fun k => by
      cases k with
      | zero => show L.length ≤ _; omega
      | succ k => exact Nat.zero_le _)
    have HTO : Hid (∀ o, Calls Try.prog 54 #[.int .i64 (-1), .slice (some ⟨w2.heap.size, 0, none⟩) 1 1] (w2.alloc (.cells #[.slice ao L.length cap] o)) fun e w' => ∃ tb Q', e = .returned (.pointer (some ⟨tb, 0, none⟩)) ∧ SameQ (outT [L] (-1) 120).1 Q' ∧ TrieAt w' (w2.alloc (.cells #[.slice ao L.length cap] o)).heap.size tb Q' (outT [L] (-1) 120).2.1 ∧ EndsW w' (w2.alloc (.cells #[.slice ao L.length cap] o)).heap.size Q' (endsK [L] (-1) 1) ∧ Below (w2.alloc (.cells #[.slice ao L.length cap] o)).heap.size (w2.alloc (.cells #[.slice ao L.length cap] o)) w') := HT2.out
    have HOW : Hid (w2.ownsRow w.heap.size 3 1 (.slice (some ⟨w.heap.size, 0, none⟩) 0 L.length) 0 []) := how
    have BB2 : Hid (Below w.heap.size w w2) := b2
    have HRUN : Hid (∀ Q', SameQ (outT [L] (-1) 120).1 Q' → Q'.length = L.length + 1 ∧ ∀ k, k < L.length → (sq Q' (k + 1)).q = (bestK L k k : Nat)) := fun Q' hs => by
      have h1 := (one_run L (-1) 120).1
      rw [show min 120 L.length = L.length by omega] at h1
      refine ⟨by rw [hs.1, h1], fun k hk => ?_⟩
      rw [← fail_best L (-1) h120 k hk, (hs.2 _).2.2.2]
      exact ((one_run L (-1) 120).2.2.inv.2.1.lt (by omega) (by rw [h1]; omega)).2.symm
    obtain ⟨n, hn⟩ : ∃ n, n = L.length := ⟨_, rfl⟩
    rw [← hn] at hmk HOW hl hcap h120 HST HTO
    have HN : Hid (n = L.length) := hn
    rw [← hn]
    clear hn how b2 HT2 hall hg
    go_enter Try.func14, Try.ntmps14
    go_wp2_with fail
    refine Calls.mono HST.out ?_
    rintro e w1 ⟨rfl, rfl⟩
    go_wp2_with fail
    refine Calls.mono (HTO.out _) ?_
    rintro e w4 ⟨tb, Q', rfl, hs, hT, hE, b4⟩
    obtain ⟨hlQ, hq⟩ := HRUN.out Q' hs
    obtain ⟨g, cp, m, p1, p2, p3, p5, p4, p6, p7⟩ := hT.form' (by omega)
    have hz1 : ∀ o, w1.heap.size ≤ (w2.alloc o).heap.size := fun o => Nat.le_trans BB2.out.size (al_W w2 o).size
    have B4 : Hid (Below w1.heap.size w1 w4) := (BB2.out.trans ((al_W w2 _).mono BB2.out.size)).trans (b4.mono (hz1 _))
    have O4 : Hid (w4.ownsRow w1.heap.size 3 1 (.slice (some ⟨w1.heap.size, 0, none⟩) 0 n) 0 (ints (bordL L 0))) := World.ownsRow.keepB (World.ownsRow.keepB HOW.out (al_W w2 _)) b4
    have c0 : w4.cell? ⟨tb, 0, none⟩ = some (.slice (some ⟨g, 0, none⟩) (n + 1) cp) := by rw [HN.out, ← hlQ]; exact cell_of p3 0
    have hcp : n + 1 ≤ cp := by
      rcases p6.2 with ⟨h, -⟩ | ⟨g', c', cur, e, -, -, k3, -⟩
      · cases h
      · simp only [Value.slice.injEq, true_and] at e
        have := HN.out
        omega
    obtain ⟨A, C, htl, hA5⟩ := tail_st g n cp hcp
    have P6 : Hid (w4.ownsRow (w2.alloc (.cells #[.slice ao n cap] 24)).heap.size 83 5 (.slice (some ⟨g, 0, none⟩) Q'.length cp) Q'.length (fl5 Q')) := p6
    have HSL : Hid (∀ j, j < Q'.length → ∃ a l c, (sq Q' j).e = .slice a l c) := fun j hj => by
      obtain ⟨a, c, e⟩ := own_slice (hE.1 j hj)
      exact ⟨a, _, c, e⟩
    have HLQ : Hid (Q'.length = n + 1) := (by rw [hlQ, HN.out] : Q'.length = n + 1)
    have HQV : Hid (∀ k, k < n → (sq Q' (k + 1)).q = (bestK L k k : Nat)) := fun k hk => hq k (by rw [← HN.out]; exact hk)
    clear hs hT hE b4 hlQ hq p1 p2 p3 p5 p4 p6 p7 hz1
    go_wp2
    go_loopw [21, 4] (fun i v wr => ∃ k : Nat, k ≤ n ∧ i = .int .i64 k ∧ wr.ownsRow w1.heap.size 3 1 v k (ints (bordL L k)) ∧ wr.ownsRow (w2.alloc (.cells #[.slice ao n cap] 24)).heap.size 83 5 (.slice (some ⟨g, 0, none⟩) Q'.length cp) Q'.length (fl5 Q') ∧ Below w1.heap.size w1 wr) (fun i _ _ => n - (intOf i).toNat)
    case atStart => exact ⟨0, Nat.zero_le _, rfl, O4.out, P6.out, B4.out⟩
    case round =>
      obtain ⟨k, hk, rfl, hO, hP, hB⟩ := hrel
      clear O4 P6 B4 c0
      by_cases hlt : k < n
      · have hltI : (k : Int) < (n : Int) := by omega
        obtain rfl := hA5 (by omega)
        obtain ⟨av, cv, rfl⟩ := own_slice hO
        obtain ⟨ea, el, ec, hev⟩ := HSL.out (k + 1) (by rw [HLQ.out]; omega)
        obtain ⟨a0, a1, a2, a3, a4⟩ := fl5_at Q' (k + 1) (by rw [HLQ.out]; omega)
        have hlq := HLQ.out
        have d0 : wr.cell? ⟨g, 5 + k * 5, none⟩ = some (.int .i64 (sq Q' (k + 1)).f) := by rw [show 5 + k * 5 = (k + 1) * 5 by omega]; exact (hP.cellAt _ (by omega)).trans a0
        have d1 : wr.cell? ⟨g, 5 + k * 5 + 1, none⟩ = some (.int .i64 (sq Q' (k + 1)).b) := by rw [show 5 + k * 5 + 1 = (k + 1) * 5 + 1 by omega]; exact (hP.cellAt _ (by omega)).trans a1
        have d2 : wr.cell? ⟨g, 5 + k * 5 + 2, none⟩ = some (.int .i64 (sq Q' (k + 1)).l) := by rw [show 5 + k * 5 + 2 = (k + 1) * 5 + 2 by omega]; exact (hP.cellAt _ (by omega)).trans a2
        have d3 : wr.cell? ⟨g, 5 + k * 5 + 3, none⟩ = some (.int .i64 (sq Q' (k + 1)).q) := by rw [show 5 + k * 5 + 3 = (k + 1) * 5 + 3 by omega]; exact (hP.cellAt _ (by omega)).trans a3
        have d4 : wr.cell? ⟨g, 5 + k * 5 + 4, none⟩ = some (sq Q' (k + 1)).e := by rw [show 5 + k * 5 + 4 = (k + 1) * 5 + 4 by omega]; exact (hP.cellAt _ (by omega)).trans a4
        rw [HQV.out k hlt] at d3
        rw [hev] at d4
        have HO : Hid _ := hO
        have HP : Hid _ := hP
        have HB9 : Hid (Below w1.heap.size w1 wr) := hB
        generalize (sq Q' (k + 1)).f = xf at d0
        generalize (sq Q' (k + 1)).b = xb at d1
        generalize (sq Q' (k + 1)).l = xl at d2
        have HST9 : Hid (ints (bordL L (k + 1)) = ints (bordL L k) ++ ints [((bestK L k k : Nat) : Int)]) := (by rw [bordL_step]; simp [ints] : ints (bordL L (k + 1)) = ints (bordL L k) ++ ints [((bestK L k k : Nat) : Int)])
        generalize bestK L k k = bv at d3 HST9
        clear hO hP hB a0 a1 a2 a3 a4 hev hlq
        have AL2 : ∀ o p, Below wr.heap.size wr ((wr.alloc o).alloc p) := fun o p => (al_W wr o).trans ((al_W (wr.alloc o) p).mono (al_W wr o).size)
        have EO : Hid (∀ o p, ((wr.alloc o).alloc p).ownsRow w1.heap.size 3 1 (.slice av k cv) k (ints (bordL L k))) := fun o p => World.ownsRow.keepB HO.out (AL2 o p)
        have HZ : Hid (∀ o p, w1.heap.size ≤ ((wr.alloc o).alloc p).heap.size) := fun o p => Nat.le_trans HB9.out.size (AL2 o p).size
        have ZN : Hid (∀ o : Obj, wr.heap.size + 1 = (wr.alloc o).heap.size) := fun o => (by simp : wr.heap.size + 1 = (wr.alloc o).heap.size)
        have PUSH : Hid (∀ o p v' w3, w3.ownsRow w1.heap.size 3 1 v' (k + 1) (ints (bordL L k) ++ ints [(bv : Int)]) → ((wr.alloc o).alloc p).grownBy w3 (Value.ownBlock (.slice av k cv)) → w3.ownsRow w1.heap.size 3 1 v' (k + 1) (ints (bordL L (k + 1))) ∧ w3.ownsRow (w2.alloc (.cells #[.slice ao n cap] 24)).heap.size 83 5 (.slice (some ⟨g, 0, none⟩) Q'.length cp) Q'.length (fl5 Q') ∧ Below w1.heap.size w1 w3) := fun o p v' w3 hr hg =>
          ⟨by rw [HST9.out]; exact hr, World.ownsRow.kept (World.ownsRow.keepB HP.out (AL2 o p)) hg (types_apart (by decide) (World.ownsRow.keepB HP.out (AL2 o p)) (EO.out o p)), Below.grown (HB9.out.trans ((AL2 o p).mono HB9.out.size)) hg (HZ.out o p) (fun B hB' => (World.ownsRow.lt HO.out B hB').1)⟩
        clear AL2
        go_wp2_with (at_builtin; refine wpA _ rfl (.tmp 25) (.tmp 28) rfl w1.heap.size (.slice av k cv) k (ints (bordL L k)) rfl (EO.out _ _) (some ⟨wr.heap.size + 1, 0, none⟩) [(bv : Int)] 1 1 rfl rfl (ints_new _ _ 3 _ (ZN.out _)) (by omega) (HZ.out _ _) ?_; intro v' w3 hr hg hat; have RS : Hid _ := PUSH.out _ _ v' w3 hr hg; clear hr hg hat)
        go_wp2
        go_roundw
        case rel => exact ⟨k + 1, by omega, by go_num, RS.out⟩
        case measure => simp [intOf]; omega
      · obtain rfl : k = n := by omega
        have END : Hid _ := (⟨hO, hB⟩ : wr.ownsRow w1.heap.size 3 1 u4 k (ints (bordL L k)) ∧ Below w1.heap.size w1 wr)
        clear hO hP hB
        go_wp2
        go_ret2
        exact ⟨_, rfl, by rw [HB.out, bordL_len, ← HN.out]; exact END.out.1, END.out.2⟩
end Go.Proofs.Ytabjjlcjephhkaa
