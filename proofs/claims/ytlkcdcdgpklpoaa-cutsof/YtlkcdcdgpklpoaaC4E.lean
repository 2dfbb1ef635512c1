/-
  impl.readSet.
-/
import Derived.Test.YtlkcdcdgpklpoaaC4D
import Derived.Deep.DeepCutAuto
namespace Go.Proofs.Ytlkcdcdgpklpoaa
open Go.ChangeShapes Go.WideShapes Go.ChangeAt Go.RowKit
/-- The whole array as a list of twelve spans. -/
theorem SetAt.spans {w : World} {R : Nat} {A : List (Int × Int)} (h : SetAt w R A) : SpansAt w (some ⟨R, 0, none⟩) (A ++ List.replicate (12 - A.length) (0, 0)) := by
  intro j hj
  have hA := h.le
  have hl := pad_len h.le
  have hfl := fl_len A
  simp at hj
  refine ⟨R, 0, rfl, h.lt, ?_⟩
  have hj12 : j < 12 := by omega
  have key : ∀ (A : List (Int × Int)) (j : Nat), j < A.length → (fl A)[2 * j]? = some (A.getD j (0, 0)).1 ∧ (fl A)[2 * j + 1]? = some (A.getD j (0, 0)).2 := by
    intro A
    induction A with
    | nil => intro j hj; simp at hj
    | cons p r ih =>
      intro j hj
      cases j with
      | zero => exact ⟨rfl, rfl⟩
      | succ j =>
        have := ih j (by simp at hj; omega)
        rw [show 2 * (j + 1) = 2 * j + 1 + 1 by omega]
        simpa [fl] using this
  have both : (pad A)[2 * j]? = some ((A ++ List.replicate (12 - A.length) (0, 0)).getD j (0, 0)).1 ∧ (pad A)[2 * j + 1]? = some ((A ++ List.replicate (12 - A.length) (0, 0)).getD j (0, 0)).2 := by
    unfold pad
    by_cases hjA : j < A.length
    · have k := key A j hjA
      rw [List.getElem?_append_left (by omega), List.getElem?_append_left (by omega), k.1, k.2]
      simp [List.getD, List.getElem?_append_left hjA]
    · rw [List.getElem?_append_right (by omega), List.getElem?_append_right (by omega), List.getElem?_replicate, List.getElem?_replicate, if_pos (by omega), if_pos (by omega)]
      rw [List.getD_eq_getElem?_getD, List.getElem?_append_right (by omega), List.getElem?_replicate, if_pos (by omega)]
      exact ⟨rfl, rfl⟩
  constructor
  · have := h.ra (2 * j) (.int .i64 ((A ++ List.replicate (12 - A.length) (0, 0)).getD j (0, 0)).1) (by simp only [ints, List.getElem?_map, both.1]; rfl)
    rw [Nat.mul_comm] at this
    exact this
  · have := h.ra (2 * j + 1) (.int .i64 ((A ++ List.replicate (12 - A.length) (0, 0)).getD j (0, 0)).2) (by simp only [ints, List.getElem?_map, both.2]; rfl)
    rw [Nat.mul_comm] at this
    exact this
theorem gen_world {P : Program} {c : Code} {Q : Exit → Act → World → Prop} {a : Act} {w0 : World} (Rel : World → Prop) (h0 : Rel w0) (h : ∀ W, Rel W → Code.wp P c Q a W) : Code.wp P c Q a w0 := h w0 h0
/-- What readSet answers. -/
def ReadE (L : List Int) (e : Ending) : Prop := (goodS L = true ∧ e = .returned (.tuple #[setV (PR L (L.length / 2)), .bool true])) ∨ (goodS L = false ∧ e = .returned (.tuple #[setV [], .bool false]))
set_option maxRecDepth 100000 in
set_option maxHeartbeats 4000000 in
theorem read_any (L : List Int) (ao : Option Addr) (cap : Nat) (w : World) (hl : L.length ≤ 1048576) (hA : IntsAt w ao L) :
    Calls Try.prog 156 #[.slice ao L.length cap] w fun e w' => ReadE L e ∧ Below w.heap.size w w' := by
  have HA : Hid _ := hA
  clear hA
  by_cases h1 : L.length % 2 = 1
  · have HB : Hid (goodS L = false) := by
      show goodS L = false
      simp [goodS, show ¬ L.length % 2 = 0 by omega]
    have h1I : (L.length : Int) % 2 = 1 := by omega
    go_enter Try.func156, Try.ntmps156
    go_upto_region 2 with fail
    refine gen_world (fun W => SetAt W w.heap.size [] ∧ Below w.heap.size w W) ⟨(SetAt.new w _ rfl).keep ((Below.refl _ _).alloc (Nat.le_refl _) _), ((Below.refl _ _).alloc (Nat.le_refl _) _).alloc (by simp) _⟩ ?_
    rintro W ⟨s0, hb⟩
    obtain ⟨w', hst, s0', hg⟩ := s0.store [] (by simp)
    have HST : Hid _ := hst
    have HRV : Hid _ := s0'.loadV
    have HG : Hid _ := hg
    have HBW : Hid _ := hb
    clear hst hg s0' s0 hb
    go_wp2_with (refine wpList_store_set rfl (.tmp 2) (.tmp 19) rfl w.heap.size rfl rfl HST.out ?_)
    exact bodyPost_ret (v := .tuple #[setV [], .bool false]) (by simp [results, Try.results156, asAddr, HRV.out]) rfl ⟨.inr ⟨HB.out, rfl⟩, Below.grown HBW.out HG.out (Below.size HBW.out) (fun g e => by have := Option.some.inj e; omega)⟩
  have h1I : (L.length : Int) % 2 = 0 := by omega
  by_cases h2 : (24 : Int) < (L.length : Int)
  · have HB : Hid (goodS L = false) := by
      show goodS L = false
      simp [goodS, show ¬ L.length ≤ 24 by omega]
    go_enter Try.func156, Try.ntmps156
    go_upto_region 2 with fail
    refine gen_world (fun W => SetAt W w.heap.size [] ∧ Below w.heap.size w W) ⟨(SetAt.new w _ rfl).keep ((Below.refl _ _).alloc (Nat.le_refl _) _), ((Below.refl _ _).alloc (Nat.le_refl _) _).alloc (by simp) _⟩ ?_
    rintro W ⟨s0, hb⟩
    obtain ⟨w', hst, s0', hg⟩ := s0.store [] (by simp)
    have HST : Hid _ := hst
    have HRV : Hid _ := s0'.loadV
    have HG : Hid _ := hg
    have HBW : Hid _ := hb
    clear hst hg s0' s0 hb
    go_wp2_with (refine wpList_store_set rfl (.tmp 2) (.tmp 19) rfl w.heap.size rfl rfl HST.out ?_)
    exact bodyPost_ret (v := .tuple #[setV [], .bool false]) (by simp [results, Try.results156, asAddr, HRV.out]) rfl ⟨.inr ⟨HB.out, rfl⟩, Below.grown HBW.out HG.out (Below.size HBW.out) (fun g e => by have := Option.some.inj e; omega)⟩
  obtain ⟨n, hn⟩ : ∃ n, L.length = 2 * n := ⟨L.length / 2, by omega⟩
  have HNN : Hid _ := hn
  have hn12 : n ≤ 12 := by omega
  have hdv : (L.length : Int) / 2 = (n : Int) := by omega
  clear hn
  go_enter Try.func156, Try.ntmps156
  go_upto_region 2 with fail
  refine gen_world (fun W => SetAt W w.heap.size [] ∧ SetAt W (w.heap.size + 1) [] ∧ Below w.heap.size w W) ⟨(SetAt.new w _ rfl).keep ((Below.refl _ _).alloc (Nat.le_refl _) _), SetAt.new (w.alloc _) _ (by simp), ((Below.refl _ _).alloc (Nat.le_refl _) _).alloc (by simp) _⟩ ?_
  rintro W ⟨s0, s1, hb⟩
  have Z0 : Hid _ := s0
  have Z1 : Hid _ := s1
  have ZB : Hid _ := hb
  clear s0 s1 hb
  go_wp2
  go_loopw [23] (fun i wr => ∃ k : Nat, k ≤ n ∧ i = .int .i64 k ∧ (∀ j, j < k → spok L j) ∧ SetAt wr w.heap.size [] ∧ SetAt wr (w.heap.size + 1) (PR L k) ∧ Below w.heap.size w wr) (fun i _ => n - (intOf i).toNat)
  case atStart => exact ⟨0, Nat.zero_le _, rfl, fun j hj => absurd hj (by omega), Z0.out, Z1.out, ZB.out⟩
  case round =>
    obtain ⟨k, hk, rfl, hall, s0, s1, hbw⟩ := hrel
    have HALL : Hid _ := hall
    have S0 : Hid _ := s0
    have S1 : Hid _ := s1
    have HB : Hid _ := hbw
    clear hall s0 s1
    by_cases hlt : k < n
    · have hltI : (k : Int) < (n : Int) := by omega
      have q1 : 2 * k < L.length := by have := HNN.out; omega
      have q2 : 2 * k + 1 < L.length := by have := HNN.out; omega
      have q1I : 2 * (k : Int) < (L.length : Int) := by omega
      have q2I : 2 * (k : Int) + 1 < (L.length : Int) := by omega
      obtain ⟨b1, o1, rfl, l1, c1⟩ := HA.out (2 * k) q1
      obtain ⟨b2, o2, e2, l2, c2⟩ := HA.out (2 * k + 1) q2
      obtain ⟨rfl, rfl⟩ : b1 = b2 ∧ o1 = o2 := by simp at e2; exact e2
      have g1 : wr.cell? ⟨b1, o1 + 2 * k, none⟩ = some (.int .i64 (L.getD (2 * k) 0)) := (hbw.cell (p := ⟨b1, o1 + 2 * k, none⟩) l1).trans c1
      have g2 : wr.cell? ⟨b1, o1 + (2 * k + 1), none⟩ = some (.int .i64 (L.getD (2 * k + 1) 0)) := (hbw.cell (p := ⟨b1, o1 + (2 * k + 1), none⟩) l1).trans c2
      have hw1 : IntKind.i64.wrap (2 * (k : Int)) = 2 * (k : Int) := IntWalk.i64_in _ (by omega)
      have hw2 : IntKind.i64.wrap (2 * (k : Int) + 1) = 2 * (k : Int) + 1 := IntWalk.i64_in _ (by omega)
      have hn1 : (2 * (k : Int)).toNat = 2 * k := by omega
      have hn2 : (2 * (k : Int) + 1).toNat = 2 * k + 1 := by omega
      have hp1 : (0 : Int) ≤ 2 * (k : Int) := by omega
      have hp2 : (0 : Int) ≤ 2 * (k : Int) + 1 := by omega
      clear c1 c2 e2 hbw
      by_cases hs : spok L k
      · have HS : Hid _ := hs
        have HSN : Hid (∀ j, j < k + 1 → spok L j) := fun j hj => by
          by_cases e : j = k
          · subst e; exact hs
          · exact HALL.out j (by omega)
        have HPR : Hid _ := PR_succ L k
        unfold spok at hs
        obtain ⟨s1, s2, s3⟩ := hs
        obtain ⟨v1, d1⟩ := S1.out.isThere (k * 2) (by omega)
        obtain ⟨v2, d2⟩ := S1.out.isThere (k * 2 + 1) (by omega)
        have f1 := S1.out.fz (k * 2) (by omega)
        have f2 := S1.out.fz (k * 2 + 1) (by omega)
        have h12 : (k : Int) < 12 := by omega
        generalize L.getD (2 * k) 0 = x at *
        generalize L.getD (2 * k + 1) 0 = y at *
        go_wp2
        go_quiet (fail)
        go_wp2
        go_roundw
        case rel => exact ⟨k + 1, by omega, by go_num, HSN.out, (S0.out.drew nq |>.kept (grown_set _ _ _ _) (by omega)).kept (grown_set _ _ _ _) (by omega), by rw [HPR.out]; exact (S1.out.drew nq).put2' (x, y + 1) (by rw [PR_len]; omega) _ _ (by rw [PR_len]; omega) (by rw [PR_len]; omega), below_set (below_set (below_drewN HB.out _) (by omega) _ _) (by omega) _ _⟩
        case measure => simp [intOf]; omega
      · have HX : Hid (goodS L = false) := by
          show goodS L = false
          rw [Bool.eq_false_iff]
          intro hg
          exact hs ((goodS_spok HNN.out hg).1 k hlt)
        unfold spok at hs
        rcases (by omega : L.getD (2 * k) 0 < 0 ∨ (0 ≤ L.getD (2 * k) 0 ∧ L.getD (2 * k + 1) 0 < L.getD (2 * k) 0) ∨ (0 ≤ L.getD (2 * k) 0 ∧ L.getD (2 * k) 0 ≤ L.getD (2 * k + 1) 0 ∧ 1114111 < L.getD (2 * k + 1) 0)) with y1 | ⟨y1, y2⟩ | ⟨y1, y2, y3⟩
        all_goals
          clear hs
          generalize L.getD (2 * k) 0 = x at *
          generalize L.getD (2 * k + 1) 0 = y at *
          go_wp2
          go_quiet (fail)
          obtain ⟨w', hst, s0', hg⟩ := (S0.out.drew nq).store [] (by simp)
          have HST : Hid _ := hst
          have HRV : Hid _ := s0'.loadV
          have HG : Hid _ := hg
          clear hst hg s0'
          go_wp2_with (refine wpList_store_set rfl (.tmp 2) (.tmp 48) rfl w.heap.size rfl rfl HST.out ?_)
          exact bodyPost_ret (v := .tuple #[setV [], .bool false]) (by simp [results, Try.results156, asAddr, HRV.out]) rfl ⟨.inr ⟨HX.out, rfl⟩, Below.grown (below_drewN HB.out _) HG.out (Below.size (below_drewN HB.out _)) (fun g e => by have := Option.some.inj e; omega)⟩
    · obtain rfl : k = n := by omega
      have hP := PR_len L k
      have HSP : Hid (SpansAt wr (some ⟨w.heap.size + 1, 0, none⟩) (PR L k ++ List.replicate (12 - k) (0, 0))) := by have := S1.out.spans; rw [hP] at this; exact this
      have HLN : Hid ((PR L k ++ List.replicate (12 - k) (0, 0)).length = 12) := by show (PR L k ++ List.replicate (12 - k) (0, 0)).length = 12; simp [hP]; omega
      have HJ : Hid _ := joinF_pad (PR L k) (12 - k)
      have HJL : Hid ((joinF (PR L k)).length ≤ 12) := by show (joinF (PR L k)).length ≤ 12; have := joinF_le (PR L k); omega
      clear hP hbw HA
      go_wp2_with fail
      rw [show (12 : Nat) = (PR L k ++ List.replicate (12 - k) (0, 0)).length from HLN.out.symm]
      refine (join_any _ _ _ _ (by rw [HLN.out]; omega) HSP.out).mono ?_
      rintro e w2 ⟨hor, b2⟩
      rw [HJ.out] at hor
      obtain ⟨-, rfl⟩ | ⟨h12, -⟩ := hor
      case inr => exact absurd h12 (by have := HJL.out; omega)
      have T0 : Hid (SetAt w2 w.heap.size []) := S0.out.keep b2
      have T1 : Hid (SetAt w2 (w.heap.size + 1) (PR L k)) := S1.out.keep b2
      have BB : Hid (Below w.heap.size w w2) := HB.out.trans (b2.mono HB.out.size)
      have AL : ∀ o, Below w2.heap.size w2 (w2.alloc o) := fun o => (Below.refl _ _).alloc (Nat.le_refl _) o
      obtain ⟨w3, hst, j3, hg3⟩ := (SetAt.new w2 w2.heap.size rfl).store (joinF (PR L k)) HJL.out
      have V0 : Hid (SetAt w3 w.heap.size []) := (T0.out.keep (AL _)).kept hg3 (by have := T0.out.lt; omega)
      have V1 : Hid (SetAt w3 (w.heap.size + 1) (PR L k)) := (T1.out.keep (AL _)).kept hg3 (by have := T1.out.lt; omega)
      have VB : Hid (Below w.heap.size w w3) := Below.grown (BB.out.trans ((AL _).mono BB.out.size)) hg3 (Below.size (BB.out.trans ((AL _).mono BB.out.size))) (fun g e => by have := Option.some.inj e; have := BB.out.size; omega)
      have J3 : Hid _ := j3
      have HST : Hid _ := hst
      have hq := set_eq (joinF (PR L k)) (PR L k) HJL.out T1.out.le
      have HNE : Hid (∀ p ∈ PR L k, p.1 < p.2) := fun p hp => by
        simp only [PR, List.mem_map, List.mem_range] at hp
        obtain ⟨j, hj, rfl⟩ := hp
        have := (HALL.out j hj).2.1
        show L.getD (2 * j) 0 < L.getD (2 * j + 1) 0 + 1
        omega
      have HGE : Hid (∀ p ∈ PR L k, -1 < p.1) := fun p hp => by
        simp only [PR, List.mem_map, List.mem_range] at hp
        obtain ⟨j, hj, rfl⟩ := hp
        have := (HALL.out j hj).1
        show -1 < L.getD (2 * j) 0
        omega
      have HIF : Hid _ := joinF_iff HNE.out HGE.out
      have HK2 : Hid (L.length / 2 = k) := by show L.length / 2 = k; have := HNN.out; omega
      clear b2 AL hst j3 hg3
      by_cases hcan : Can (-1) (PR L k)
      · have HX : Hid (goodS L = true) := goodS_of HNN.out (by have := HNN.out; omega) HALL.out hcan
        have hpe : pad (joinF (PR L k)) = pad (PR L k) := by rw [HIF.out.2 hcan]
        rw [decide_eq_true hpe] at hq
        obtain ⟨w4, hst4, j4, hg4⟩ := V0.out.store (PR L k) T1.out.le
        have HST4 : Hid _ := hst4
        have HRV : Hid _ := j4.loadV
        have HG4 : Hid _ := hg4
        clear hcan hpe hst4 j4 hg4
        go_wp2_with (first | (refine wpList_store_set rfl (.tmp 8) (.tmp 59) rfl w2.heap.size rfl rfl HST.out ?_) | (refine wpList_load_mid rfl 205 (.tmp 8) rfl w2.heap.size 0 rfl (ints (pad (joinF (PR L k)))) _ J3.out.ra Try.underlying205 rfl (by rw [info64, ints_len, pad_len HJL.out]) ?_) | (refine wpList_load_mid rfl 205 (.tmp 4) rfl (w.heap.size + 1) 0 rfl (ints (pad (PR L k))) _ V1.out.ra Try.underlying205 rfl (by rw [info64, ints_len, pad_len T1.out.le]) ?_) | (refine wpList_store_set rfl (.tmp 2) (.tmp 65) rfl w.heap.size rfl rfl HST4.out ?_))
        exact bodyPost_ret (v := .tuple #[setV (PR L k), .bool true]) (by simp [results, Try.results156, asAddr, HRV.out]) rfl ⟨.inl ⟨HX.out, by rw [HK2.out]⟩, Below.grown VB.out HG4.out (Below.size VB.out) (fun g e => by have := Option.some.inj e; omega)⟩
      · have HX : Hid (goodS L = false) := by
          show goodS L = false
          rw [Bool.eq_false_iff]
          intro hg
          exact hcan (goodS_spok HNN.out hg).2
        have hpe : ¬ pad (joinF (PR L k)) = pad (PR L k) := fun h => hcan (HIF.out.1 (pad_inj (joinF_ne _) HNE.out h))
        rw [decide_eq_false hpe] at hq
        obtain ⟨w4, hst4, j4, hg4⟩ := V0.out.store [] (by simp)
        have HST4 : Hid _ := hst4
        have HRV : Hid _ := j4.loadV
        have HG4 : Hid _ := hg4
        clear hcan hpe hst4 j4 hg4
        go_wp2_with (first | (refine wpList_store_set rfl (.tmp 8) (.tmp 59) rfl w2.heap.size rfl rfl HST.out ?_) | (refine wpList_load_mid rfl 205 (.tmp 8) rfl w2.heap.size 0 rfl (ints (pad (joinF (PR L k)))) _ J3.out.ra Try.underlying205 rfl (by rw [info64, ints_len, pad_len HJL.out]) ?_) | (refine wpList_load_mid rfl 205 (.tmp 4) rfl (w.heap.size + 1) 0 rfl (ints (pad (PR L k))) _ V1.out.ra Try.underlying205 rfl (by rw [info64, ints_len, pad_len T1.out.le]) ?_) | (refine wpList_store_set rfl (.tmp 2) (.tmp 64) rfl w.heap.size rfl rfl HST4.out ?_))
        exact bodyPost_ret (v := .tuple #[setV [], .bool false]) (by simp [results, Try.results156, asAddr, HRV.out]) rfl ⟨.inr ⟨HX.out, rfl⟩, Below.grown VB.out HG4.out (Below.size VB.out) (fun g e => by have := Option.some.inj e; omega)⟩
end Go.Proofs.Ytlkcdcdgpklpoaa
