/-
  Contract of impl.GoodDfa.
-/
import Derived.Test.YtnlccplpcbdmnaaM6E
namespace Go.Proofs.Ytnlccplpcbdmnaa
open Go.ChangeShapes Go.WideShapes Go.ChangeAt Go.RowKit
set_option maxRecDepth 100000 in
set_option maxHeartbeats 1000000 in
theorem igoodD_any (C : List Int) (R : Rw) (F : List Bool) (a b e : Option Addr) (ca cb ce : Nat) (w : World) (hl : szD C R F ≤ 1048576) (hA : IntsAt w a C) (hB : RowsAt w b R) :
    Calls Try.prog 11 #[.agg #[.slice a C.length ca, .slice b R.length cb, .slice e F.length ce]] w fun r w' => r = .returned (.bool (goodD C R F)) ∧ Below w.heap.size w w' := by
  have HA : Hid _ := hA
  have HB : Hid _ := hB
  have hlC : C.length ≤ 1048576 := by unfold szD at hl; omega
  have hlF : F.length ≤ 1048576 := by unfold szD at hl; omega
  have hlR : R.length ≤ 1048576 := by unfold szD szR at hl; omega
  have HLR : Hid (szR R ≤ 1048576) := by unfold szD at hl; exact (by omega : szR R ≤ 1048576)
  clear hA hB hl
  have A1 : ∀ o, Below w.heap.size w (w.alloc o) := fun o => (Below.refl _ _).alloc (Nat.le_refl _) o
  by_cases h1 : 1 ≤ R.length
  case neg =>
    have HG : Hid _ := goodD_no1 (C := C) (R := R) (F := F) (fun h => h1 h.1)
    have h1' : (R.length : Int) < 1 := by omega
    go_enter Try.func11, Try.ntmps11
    go_wp2
    go_ret
    exact ⟨by rw [HG.out]; rfl, A1 _⟩
  by_cases h6 : R.length ≤ 60
  case neg =>
    have HG : Hid _ := goodD_no1 (C := C) (R := R) (F := F) (fun h => h6 h.2)
    have h1' : ¬ (R.length : Int) < 1 := by omega
    have h6' : (60 : Int) < (R.length : Int) := by omega
    go_enter Try.func11, Try.ntmps11
    go_wp2
    go_ret
    exact ⟨by rw [HG.out]; rfl, A1 _⟩
  have h1' : ¬ (R.length : Int) < 1 := by omega
  have h6' : ¬ (60 : Int) < (R.length : Int) := by omega
  by_cases h2 : F.length = R.length
  case neg =>
    have HG : Hid _ := goodD_no2 (C := C) h2
    have h2' : ((F.length : Int) == (R.length : Int)) = false := by simp; omega
    have h2'' : ¬ (F.length : Int) = (R.length : Int) := by omega
    go_enter Try.func11, Try.ntmps11
    go_wp2
    go_ret
    exact ⟨by rw [HG.out]; rfl, A1 _⟩
  rw [h2]
  have H2 : Hid _ := h2
  clear h2
  cases h4 : (decide (C.length ≤ 40) && risB 1 1114111 C)
  case false =>
    have HG : Hid (goodD C R F = false) := by
      rw [Bool.and_eq_false_iff] at h4
      rcases h4 with h4 | h4
      · exact goodD_no3 (of_decide_eq_false h4)
      · exact goodD_no4 h4
    have H4 : Hid _ := h4
    clear h4
    go_enter Try.func11, Try.ntmps11
    go_wp2_with (first | (go_at_call 35; refine (icuts_any C _ _ _ hlC (IntsAt.keepB HA.out (A1 _))).mono ?_; rintro r w' ⟨rfl, rfl⟩; rw [H4.out]) | fail)
    go_ret
    exact ⟨by rw [HG.out]; rfl, A1 _⟩
  have H4 : Hid _ := h4
  have h40 : C.length ≤ 40 := by simp at h4; exact h4.1
  have HR4 : Hid (risB 1 1114111 C = true) := by simp at h4; exact h4.2
  clear h4
  go_enter Try.func11, Try.ntmps11
  go_wp2_with (first | (go_at_call 35; refine (icuts_any C _ _ _ hlC (IntsAt.keepB HA.out (A1 _))).mono ?_; rintro r w' ⟨rfl, rfl⟩; rw [H4.out]) | fail)
  go_loopw [31] (fun i wr => ∃ k : Nat, k ≤ R.length ∧ i = .int .i64 k ∧ (∀ j, j < k → rowB C.length R.length (rw_ R j) = true) ∧ wr.heap[w.heap.size]? = some (.cells #[.slice a C.length ca, .slice b R.length cb, .slice e R.length ce] 29) ∧ Below w.heap.size w wr) (fun i _ => R.length - (intOf i).toNat)
  case atStart => exact ⟨0, Nat.zero_le _, rfl, fun j hj => absurd hj (by omega), heap_last2 _ _ _ rfl, A1 _⟩
  case round =>
    obtain ⟨k, hk, rfl, hall, hbl, hbw⟩ := hrel
    have HALL : Hid (∀ j, j < k → rowB C.length R.length (rw_ R j) = true) := hall
    have BW0 : Hid _ := hbw
    have d0 : wr.cell? ⟨w.heap.size, 0, none⟩ = some (.slice a C.length ca) := cell_of hbl 0
    have HBL : Hid _ := hbl
    clear hall hbw hbl
    by_cases hlt : k < R.length
    · have hltI : (k : Int) < (R.length : Int) := by omega
      obtain ⟨b1, o1, sa, sc, rfl, l1, c1, iS⟩ := HB.out k hlt
      have hls : (rw_ R k).length ≤ 1048576 := Nat.le_trans (rw_len R k hlt) HLR.out
      have g1 : wr.cell? ⟨b1, o1 + k, none⟩ = some (.slice sa (rw_ R k).length sc) := (BW0.out.cell (p := ⟨b1, o1 + k, none⟩) l1).trans c1
      have IS : Hid _ := IntsAt.keepB iS BW0.out
      have hw1 : IntKind.i64.wrap ((C.length : Int) + 1) = (C.length : Int) + 1 := IntWalk.i64_in _ (by omega)
      clear c1 iS
      by_cases q : (rw_ R k).length = C.length + 1
      · have Q : Hid _ := q
        have HP : Hid (0 < (rw_ R k).length) := by rw [q]; exact Nat.succ_pos _
        go_wp2_with fail
        refine (slmin' (rw_ R k) _ _ _ _ Q.out.symm HP.out hls IS.out).mono ?_
        rintro r w' ⟨x, rfl, hx1, hx2, rfl⟩
        have HX1 : Hid _ := hx1
        have HX2 : Hid _ := hx2
        clear hx1 hx2
        by_cases q2 : x < 0
        · have HG : Hid (goodD C R F = false) := goodD_no5 hlt (by
            obtain ⟨j, hj, e⟩ := HX1.out
            have := inB_bad (lo := 0) (hi := (R.length : Int) - 1) hj (by omega)
            simp [rowB, this])
          go_wp2
          go_ret
          exact ⟨by rw [HG.out]; rfl, BW0.out⟩
        · go_wp2_with fail
          refine (slmax' (rw_ R k) _ _ _ _ Q.out.symm HP.out hls IS.out).mono ?_
          rintro r w' ⟨y, rfl, hy1, hy2, rfl⟩
          have HY1 : Hid _ := hy1
          have HY2 : Hid _ := hy2
          clear hy1 hy2
          by_cases q3 : y ≥ (R.length : Int)
          · have HG : Hid (goodD C R F = false) := goodD_no5 hlt (by
              obtain ⟨j, hj, e⟩ := HY1.out
              have := inB_bad (lo := 0) (hi := (R.length : Int) - 1) hj (by omega)
              simp [rowB, this])
            go_wp2
            go_ret
            exact ⟨by rw [HG.out]; rfl, BW0.out⟩
          · have HN : Hid (∀ j, j < k + 1 → rowB C.length R.length (rw_ R j) = true) := fun j hj => by
              by_cases e : j = k
              · subst e
                have : inB 0 ((R.length : Int) - 1) (rw_ R j) = true := inB_iff.2 fun i hi => ⟨by have := HX2.out i hi; omega, by have := HY2.out i hi; omega⟩
                simp [rowB, Q.out, this]
              · exact HALL.out j (by omega)
            have q3' : ¬ (R.length : Int) ≤ y := by omega
            go_wp2
            go_roundw
            case rel => exact ⟨k + 1, by omega, by go_num, HN.out, HBL.out, BW0.out⟩
            case measure => simp [intOf]; omega
      · have q1 : (((rw_ R k).length : Int) == (C.length : Int) + 1) = false := by simp; omega
        have HG : Hid (goodD C R F = false) := goodD_no5 hlt (by simp [rowB, q])
        go_wp2
        go_ret
        exact ⟨by rw [HG.out]; rfl, BW0.out⟩
    · obtain rfl : k = R.length := by omega
      have HG : Hid (goodD C R F = true) := goodD_yes ⟨h1, h6⟩ H2.out h40 HR4.out HALL.out
      go_wp2
      go_ret
      exact ⟨by rw [HG.out]; rfl, BW0.out⟩
end Go.Proofs.Ytnlccplpcbdmnaa
