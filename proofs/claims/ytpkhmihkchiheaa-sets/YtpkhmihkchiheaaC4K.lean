/-
  InSet of the program.
-/
import Derived.Test.YtpkhmihkchiheaaC4J
namespace Go.Proofs.Ytpkhmihkchiheaa
open Go.ChangeShapes Go.WideShapes Go.ChangeAt Go.RowKit
set_option maxRecDepth 100000 in
set_option maxHeartbeats 1000000 in
theorem iin_no (L : List Int) (r : Int) (ao : Option Addr) (cap : Nat) (w : World) (hl : L.length ≤ 1048576) (hg : ¬ (goodS L = true ∧ goodB r = true)) (hA : IntsAt w ao L) :
    Calls Try.prog 25 #[.slice ao L.length cap, .int .i64 r] w fun e w' => e = .returned (.tuple #[.bool false, .bool false]) ∧ Below w.heap.size w w' := by
  have HA : Hid _ := hA
  cases h : goodS L
  · have HG : Hid _ := h
    clear hA hg h
    go_enter Try.func25, Try.ntmps25
    go_wp2_with fail
    refine (read_no L ao cap _ hl HG.out HA.out).mono ?_
    rintro e w2 ⟨rfl, b2⟩
    obtain ⟨w3, hst, s3, b3⟩ := new_set w2 [] (by simp)
    have HST : Hid _ := hst
    clear hst s3
    go_wp2_with (refine wpList_store_set rfl (.tmp 6) (.tmp 13) rfl w2.heap.size rfl rfl HST.out ?_)
    go_ret2
    exact ⟨rfl, b2.trans (b3.mono b2.size)⟩
  · have HG : Hid _ := h
    have HR : Hid (goodB r = false) := by
      show goodB r = false
      cases hb : goodB r
      · rfl
      · exact absurd ⟨h, hb⟩ hg
    clear hA hg h
    go_enter Try.func25, Try.ntmps25
    go_wp2_with fail
    refine (read_yes L ao cap _ HG.out HA.out).mono ?_
    rintro e w2 ⟨rfl, b2⟩
    obtain ⟨w3, hst, s3, b3⟩ := new_set w2 _ (goodS_le HG.out)
    have HST : Hid _ := hst
    have B3 : Hid (Below w.heap.size w w3) := b2.trans (b3.mono b2.size)
    clear hst s3 b2 b3
    go_wp2_with (first | (refine wpList_store_set rfl (.tmp 6) (.tmp 13) rfl w2.heap.size rfl rfl HST.out ?_) | (go_at_call 51; refine (igood_not HR.out _).mono ?_; rintro e w4 ⟨rfl, rfl⟩))
    go_ret2
    exact ⟨rfl, B3.out⟩
set_option maxRecDepth 100000 in
set_option maxHeartbeats 1000000 in
theorem iin_yes (L : List Int) (r : Int) (ao : Option Addr) (cap : Nat) (w : World) (hg : goodS L = true) (hr : goodB r = true) (hA : IntsAt w ao L) :
    Calls Try.prog 25 #[.slice ao L.length cap, .int .i64 r] w fun e w' => e = .returned (.tuple #[.bool (memS L r), .bool true]) ∧ Below w.heap.size w w' := by
  have HA : Hid _ := hA
  have HG : Hid _ := hg
  have HR : Hid _ := hr
  have hr0 := (goodB_true hr).1
  have HLE : Hid _ := goodS_le hg
  have h24 := (goodS_true hg).2.1
  clear hA hg hr
  go_enter Try.func25, Try.ntmps25
  go_wp2_with fail
  refine (read_yes L ao cap _ HG.out HA.out).mono ?_
  rintro e w2 ⟨rfl, b2⟩
  obtain ⟨w3, hst, s3, b3⟩ := new_set w2 _ HLE.out
  have B3 : Hid (Below w.heap.size w w3) := b2.trans (b3.mono b2.size)
  obtain ⟨n, hn⟩ : ∃ n, L.length / 2 = n := ⟨_, rfl⟩
  rw [hn] at hst s3 ⊢
  have HST : Hid _ := hst
  have S3 : Hid _ := s3
  have HN : Hid (n = L.length / 2) := hn.symm
  have hn12 : n ≤ 12 := by omega
  have HFL : Hid ((pad (PR L n)).length = 24) := pad_len (by rw [PR_len]; exact hn12)
  have hix := index64 (pad (PR L n)) HFL.out
  clear hst s3 b2 b3 HA hn
  go_wp2_with (first | (refine wpList_store_set rfl (.tmp 6) (.tmp 13) rfl w2.heap.size rfl rfl HST.out ?_) | (refine wpList_load_mid rfl 61 (.tmp 6) rfl w2.heap.size 0 rfl (ints (pad (PR L n))) _ S3.out.ra Try.underlying61 rfl (by rw [info64, ints_len, HFL.out]) ?_) | (go_at_call 51; refine (igood_yes HR.out _).mono ?_; rintro e w4 ⟨rfl, rfl⟩))
  go_loopw [23] (fun i wr => ∃ k : Nat, k ≤ 12 ∧ i = .int .i64 k ∧ (∀ j, j < k → j < n → ¬ (L.getD (2 * j) 0 ≤ r ∧ r ≤ L.getD (2 * j + 1) 0)) ∧ Below w.heap.size w wr) (fun i _ => 12 - (intOf i).toNat)
  case atStart => exact ⟨0, Nat.zero_le _, rfl, fun j hj => absurd hj (by omega), B3.out⟩
  case round =>
    obtain ⟨k, hk, rfl, hall, hbw⟩ := hrel
    have HALL : Hid _ := hall
    clear hall
    by_cases hlt : k < 12
    · have hltI : (k : Int) < 12 := by omega
      have hik := fun w => hix k hlt w
      have hp := pad_PR L n k
      have HP : Hid _ := hp
      by_cases hm : (pad (PR L n)).getD (k * 2) 0 ≤ r ∧ r < (pad (PR L n)).getD (k * 2 + 1) 0
      · have HB : Hid (memS L r = true) := by
          rw [hp.1, hp.2] at hm
          by_cases h : k < n
          · rw [if_pos h, if_pos h] at hm
            exact memS_true (j := k) (by have := HN.out; omega) (by omega)
          · rw [if_neg h, if_neg h] at hm
            omega
        obtain ⟨m1, m2⟩ := hm
        clear hp hix
        generalize (pad (PR L n)).getD (k * 2) 0 = x at *
        generalize (pad (PR L n)).getD (k * 2 + 1) 0 = y at *
        go_wp2
        go_ret2
        exact ⟨by rw [HB.out]; rfl, hbw.alloc (Below.size hbw) _⟩
      · have HNX : Hid (∀ j, j < k + 1 → j < n → ¬ (L.getD (2 * j) 0 ≤ r ∧ r ≤ L.getD (2 * j + 1) 0)) := fun j hj hjn => by
          by_cases e : j = k
          · subst e
            rw [hp.1, hp.2, if_pos hjn, if_pos hjn] at hm
            omega
          · exact HALL.out j (by omega) hjn
        clear hix
        generalize (pad (PR L n)).getD (k * 2) 0 = x at *
        generalize (pad (PR L n)).getD (k * 2 + 1) 0 = y at *
        clear hp HP
        rcases (by omega : r < x ∨ (x ≤ r ∧ y ≤ r)) with m1 | ⟨m1, m2⟩
        all_goals
          clear hm
          go_wp2
          go_roundw
          case rel => exact ⟨k + 1, by omega, by go_num, HNX.out, hbw.alloc (Below.size hbw) _⟩
          case measure => simp [intOf]; omega
    · have hk12 : k = 12 := by omega
      subst hk12
      have HB : Hid (memS L r = false) := memS_false (fun j hj => HALL.out j (by omega) (by have := HN.out; omega))
      clear hix
      go_wp2
      go_ret2
      exact ⟨by rw [HB.out]; rfl, hbw⟩
end Go.Proofs.Ytpkhmihkchiheaa
