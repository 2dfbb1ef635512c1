/-
  InSet and CountSet of the program.
-/
import Derived.Test.YtpkhmihkchiheaaC4H
namespace Go.Proofs.Ytpkhmihkchiheaa
open Go.ChangeShapes Go.WideShapes Go.ChangeAt Go.RowKit
set_option maxRecDepth 100000 in
set_option maxHeartbeats 1000000 in
theorem icount_no (L : List Int) (ao : Option Addr) (cap : Nat) (w : World) (hl : L.length ≤ 1048576) (hg : goodS L = false) (hA : IntsAt w ao L) :
    Calls Try.prog 26 #[.slice ao L.length cap] w fun e w' => e = .returned (.tuple #[.int .i64 0, .bool false]) ∧ Below w.heap.size w w' := by
  have HA : Hid _ := hA
  have HG : Hid _ := hg
  clear hA hg
  go_enter Try.func26, Try.ntmps26
  go_wp2_with fail
  refine (read_no L ao cap _ hl HG.out HA.out).mono ?_
  rintro e w2 ⟨rfl, b2⟩
  obtain ⟨w3, hst, s3, b3⟩ := new_set w2 [] (by simp)
  have HST : Hid _ := hst
  clear hst
  go_wp2_with (refine wpList_store_set rfl (.tmp 4) (.tmp 12) rfl w2.heap.size rfl rfl HST.out ?_)
  go_ret2
  exact ⟨rfl, b2.trans (b3.mono b2.size)⟩
theorem cntP (L : List Int) (n k : Nat) : cntN L (min k n) + ((pad (PR L n)).getD (k * 2 + 1) 0 - (pad (PR L n)).getD (k * 2) 0) = cntN L (min (k + 1) n) := by
  obtain ⟨h1, h2⟩ := pad_PR L n k
  rw [h1, h2]
  by_cases h : k < n
  · rw [if_pos h, if_pos h, show min (k + 1) n = k + 1 by omega, show min k n = k by omega, cntN]
    omega
  · rw [if_neg h, if_neg h, show min (k + 1) n = n by omega, show min k n = n by omega]
    omega
set_option maxRecDepth 100000 in
set_option maxHeartbeats 1000000 in
theorem icount_yes (L : List Int) (ao : Option Addr) (cap : Nat) (w : World) (hg : goodS L = true) (hA : IntsAt w ao L) :
    Calls Try.prog 26 #[.slice ao L.length cap] w fun e w' => e = .returned (.tuple #[.int .i64 (cntN L (L.length / 2)), .bool true]) ∧ Below w.heap.size w w' := by
  have HA : Hid _ := hA
  have HG : Hid _ := hg
  have HLE : Hid _ := goodS_le hg
  have HSP : Hid (∀ j, j < L.length / 2 → spok L j) := (goodS_spok (n := L.length / 2) (by have := (goodS_true hg).1; omega) hg).1
  have h24 := (goodS_true hg).2.1
  clear hA hg
  go_enter Try.func26, Try.ntmps26
  go_wp2_with fail
  refine (read_yes L ao cap _ HG.out HA.out).mono ?_
  rintro e w2 ⟨rfl, b2⟩
  obtain ⟨w3, hst, s3, b3⟩ := new_set w2 _ HLE.out
  have B3 : Hid (Below w.heap.size w w3) := b2.trans (b3.mono b2.size)
  obtain ⟨n, hn⟩ : ∃ n, L.length / 2 = n := ⟨_, rfl⟩
  rw [hn] at hst s3 ⊢
  have HST : Hid _ := hst
  have S3 : Hid _ := s3
  have HN : Hid (n = L.length / 2) := hn.symm
  have hn12 : n ≤ 12 := by omega
  have HFL : Hid ((pad (PR L n)).length = 24) := pad_len (by rw [PR_len]; exact hn12)
  have hix := index64 (pad (PR L n)) HFL.out
  clear hst s3 b2 b3 HA hn
  go_wp2_with (first | (refine wpList_store_set rfl (.tmp 4) (.tmp 12) rfl w2.heap.size rfl rfl HST.out ?_) | (refine wpList_load_mid rfl 61 (.tmp 4) rfl w2.heap.size 0 rfl (ints (pad (PR L n))) _ S3.out.ra Try.underlying61 rfl (by rw [info64, ints_len, HFL.out]) ?_))
  go_loopw [6, 17] (fun c i wr => ∃ k : Nat, k ≤ 12 ∧ i = .int .i64 k ∧ c = .int .i64 (cntN L (min k n)) ∧ Below w.heap.size w wr) (fun _ i _ => 12 - (intOf i).toNat)
  case atStart => exact ⟨0, Nat.zero_le _, rfl, by simp [cntN], B3.out⟩
  case round =>
    obtain ⟨k, hk, rfl, rfl, hbw⟩ := hrel
    by_cases hlt : k < 12
    · have hltI : (k : Int) < 12 := by omega
      have hik := fun w => hix k hlt w
      have HC : Hid _ := cntP L n k
      have hp := pad_PR L n k
      obtain ⟨n1, n2⟩ := cntN_le HSP.out (min k n) (by have := HN.out; omega)
      have n3 : cntN L (min k n) ≤ 20000000 := by omega
      have r1 : 0 ≤ (pad (PR L n)).getD (k * 2) 0 ∧ (pad (PR L n)).getD (k * 2) 0 ≤ 1114112 ∧ 0 ≤ (pad (PR L n)).getD (k * 2 + 1) 0 ∧ (pad (PR L n)).getD (k * 2 + 1) 0 ≤ 1114112 := by
        rw [hp.1, hp.2]
        by_cases h : k < n
        · have hs := HSP.out k (by have := HN.out; omega)
          unfold spok at hs
          rw [if_pos h, if_pos h]
          omega
        · rw [if_neg h, if_neg h]; omega
      obtain ⟨r1, r2, r3, r4⟩ := r1
      clear hp hix n2
      generalize (pad (PR L n)).getD (k * 2) 0 = x at *
      generalize (pad (PR L n)).getD (k * 2 + 1) 0 = y at *
      generalize cntN L (min k n) = c at *
      go_wp2
      go_roundw
      case rel => exact ⟨k + 1, by omega, by go_num, by rw [← HC.out], hbw.alloc (Below.size hbw) _⟩
      case measure => simp [intOf]; omega
    · have hk12 : k = 12 := by omega
      subst hk12
      have HC : Hid (min 12 n = L.length / 2) := by show min 12 n = L.length / 2; have := HN.out; omega
      clear hix
      go_wp2
      go_ret2
      exact ⟨by rw [← HC.out]; rfl, hbw⟩
end Go.Proofs.Ytpkhmihkchiheaa
