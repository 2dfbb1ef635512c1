/-
  Where a list is cut, in both.
-/
import Derived.Test.YtjfehgmpcgepnaaN3K
namespace Go.Proofs.Ytjfehgmpcgepnaa
open Go.ChangeShapes Go.WideShapes Go.ChangeAt Go.RowKit
theorem cutFrom_yes (L : List Int) (k : Nat) (h : 0 < k) (hf : freshB (L.getD k 0) = true) : cutFrom L k = k := by
  obtain ⟨j, rfl⟩ : ∃ j, k = j + 1 := ⟨k - 1, by omega⟩
  unfold cutFrom
  rw [if_pos hf]
theorem cutFrom_no (L : List Int) (k : Nat) (h : 0 < k) (hf : freshB (L.getD k 0) = false) : cutFrom L k = cutFrom L (k - 1) := by
  obtain ⟨j, rfl⟩ : ∃ j, k = j + 1 := ⟨k - 1, by omega⟩
  conv => lhs; unfold cutFrom
  rw [if_neg (by rw [hf]; simp)]
  simp
set_option maxRecDepth 100000 in
set_option maxHeartbeats 2000000 in
theorem icut_any (L : List Int) (ao : Option Addr) (n cap : Nat) (w : World) (hn : n = L.length) (hl : L.length ≤ 1048576) (hA : IntsAt w ao L) :
    Calls Try.prog 18 #[.slice ao n cap] w fun e w' => e = .returned (.int .i64 (cutN L : Int)) ∧ w = w' := by
  subst hn
  have HA : Hid _ := hA
  clear hA
  by_cases h0 : L.length = 0
  · have hc : cutN L = 0 := by unfold cutN; rw [h0]; rfl
    rw [hc]
    have h0I : (L.length : Int) = 0 := by omega
    go_enter Try.func18, Try.ntmps18
    go_wp2
    refine wp_loop_rounds 1 ?_
    rw [rounds_succ]
    go_wp2
    go_ret
    exact ⟨rfl, rfl⟩
  · go_enter Try.func18, Try.ntmps18
    go_wp2
    go_loopw [3] (fun i wr => ∃ k : Nat, k < L.length ∧ i = .int .i64 k ∧ cutFrom L k = cutN L ∧ w = wr) (fun i _ => (intOf i).toNat)
    case atStart => exact ⟨L.length - 1, by omega, by go_num, rfl, rfl⟩
    case round =>
      obtain ⟨k, hk, rfl, hcut, rfl⟩ := hrel
      have HCUT : Hid _ := hcut
      clear hcut
      by_cases hk0 : k = 0
      · subst hk0
        have HC : Hid (cutN L = 0) := HCUT.out.symm
        go_wp2
        go_ret
        exact ⟨by rw [HC.out]; rfl, rfl⟩
      · have hkI : (0 : Int) < (k : Int) := by omega
        have hklI : (k : Int) < (L.length : Int) := by omega
        obtain ⟨b1, o1, rfl, l1, h1⟩ := HA.out k hk
        cases hf : freshB (L.getD k 0)
        · have HF : Hid _ := hf
          have HN : Hid _ := (cutFrom_no L k (by omega) hf).symm.trans HCUT.out
          clear hf
          generalize L.getD k 0 = x at *
          go_wp2_with (go_at_call 29; refine (ahead_any x _).mono ?_; rintro e w' ⟨rfl, rfl⟩; rw [HF.out])
          go_roundw
          case rel => exact ⟨k - 1, by omega, by go_num, HN.out, by first | rfl | trivial⟩
          case measure => simp [intOf]; omega
        · have HF : Hid _ := hf
          have HN : Hid (cutN L = k) := HCUT.out.symm.trans (cutFrom_yes L k (by omega) hf)
          clear hf
          generalize L.getD k 0 = x at *
          go_wp2_with (go_at_call 29; refine (ahead_any x _).mono ?_; rintro e w' ⟨rfl, rfl⟩; rw [HF.out])
          go_ret
          exact ⟨by rw [HN.out]; rfl, rfl⟩
set_option maxRecDepth 100000 in
set_option maxHeartbeats 4000000 in
theorem scut_any (L : List Int) (ao : Option Addr) (n cap : Nat) (w : World) (hn : n = L.length) (hl : L.length ≤ 1048576) (hA : IntsAt w ao L) :
    Calls Try.prog 35 #[.slice ao n cap] w fun e w' => e = .returned (.int .i64 (cutN L : Int)) ∧ w = w' := by
  subst hn
  have HA : Hid _ := hA
  clear hA
  by_cases h0 : L.length = 0
  · have hc : cutN L = 0 := by unfold cutN; rw [h0]; rfl
    rw [hc]
    have h0I : (L.length : Int) = 0 := by omega
    go_enter Try.func35, Try.ntmps35
    go_wp2
    refine wp_loop_rounds 1 ?_
    rw [rounds_succ]
    go_wp2
    go_ret
    exact ⟨rfl, rfl⟩
  · go_enter Try.func35, Try.ntmps35
    go_wp2
    go_loopw [3] (fun i wr => ∃ k : Nat, k < L.length ∧ i = .int .i64 k ∧ cutFrom L k = cutN L ∧ w = wr) (fun i _ => (intOf i).toNat)
    case atStart => exact ⟨L.length - 1, by omega, by go_num, rfl, rfl⟩
    case round =>
      obtain ⟨k, hk, rfl, hcut, rfl⟩ := hrel
      have HCUT : Hid _ := hcut
      clear hcut
      by_cases hk0 : k = 0
      · subst hk0
        have HC : Hid (cutN L = 0) := HCUT.out.symm
        go_wp2
        go_ret
        exact ⟨by rw [HC.out]; rfl, rfl⟩
      · have hkI : (0 : Int) < (k : Int) := by omega
        have hklI : (k : Int) < (L.length : Int) := by omega
        obtain ⟨b1, o1, rfl, l1, h1⟩ := HA.out k hk
        have HN : Hid (freshB (L.getD k 0) = false → cutFrom L (k - 1) = cutN L) := fun hf => (cutFrom_no L k (by omega) hf).symm.trans HCUT.out
        have HY : Hid (freshB (L.getD k 0) = true → cutN L = k) := fun hf => HCUT.out.symm.trans (cutFrom_yes L k (by omega) hf)
        clear HCUT
        generalize L.getD k 0 = x at *
        rcases (by omega : x < 768 ∨ (768 ≤ x ∧ x ≤ 879) ∨ (879 < x ∧ x < 4449) ∨ (4449 ≤ x ∧ x ≤ 4469) ∨ (4469 < x ∧ x < 4520) ∨ (4520 ≤ x ∧ x ≤ 4546) ∨ 4546 < x) with h1' | ⟨h1', h2'⟩ | ⟨h1', h2'⟩ | ⟨h1', h2'⟩ | ⟨h1', h2'⟩ | ⟨h1', h2'⟩ | h1'
        all_goals
          first
            | have HM : Hid (markB x = true) := decide_eq_true (by omega)
            | have HM : Hid (markB x = false) := decide_eq_false (by omega)
          first
            | (have HE : Hid _ := HY.out (decide_eq_true (by omega))
               go_wp2_with (first | (go_at_call 36; refine (smark_any x _).mono ?_; rintro e w' ⟨rfl, hw⟩; obtain rfl := hw.symm; rw [HM.out]) | (go_at_call 48; first | (refine (in_yes (by omega) _).mono ?_; rintro e w' ⟨rfl, rfl⟩) | (refine (in_no (by omega) _).mono ?_; rintro e w' ⟨rfl, rfl⟩)))
               go_ret
               exact ⟨by rw [HE.out]; rfl, rfl⟩)
            | (have HE : Hid _ := HN.out (decide_eq_false (by omega))
               go_wp2_with (first | (go_at_call 36; refine (smark_any x _).mono ?_; rintro e w' ⟨rfl, hw⟩; obtain rfl := hw.symm; rw [HM.out]) | (go_at_call 48; first | (refine (in_yes (by omega) _).mono ?_; rintro e w' ⟨rfl, rfl⟩) | (refine (in_no (by omega) _).mono ?_; rintro e w' ⟨rfl, rfl⟩)))
               go_roundw
               case rel => exact ⟨k - 1, by omega, by go_num, HE.out, by first | rfl | trivial⟩
               case measure => simp [intOf]; omega)
end Go.Proofs.Ytjfehgmpcgepnaa
