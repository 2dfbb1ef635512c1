/-
  Contract of the specification's reading of one rune (spec.l1At): at each place of a text of at most 2000 bytes it tells what the model's ranging over a text tells.
-/
import Derived.Test.YtklgagonbehpeaaDoorReg
import Derived.Test.YtklgagonbehpeaaDoorDec
namespace Go.Proofs.YtklgagonbehpeaaDoor
open Go.ChangeShapes Go.WideShapes Go.ChangeAt Go.RowKit
set_option maxRecDepth 100000 in
set_option maxHeartbeats 1000000 in
theorem at_1y (s : ByteArray) (i : Nat) (R : Int) (w : World) (hs : s.size ≤ 2000) (hi : i < s.size) (b1 : (0 : Int) ≤ (s[i].toNat : Int)) (b2 : (s[i].toNat : Int) < 128)
    (hR : (s[i].toNat : Int) = R)
    (hg : goodB R = true) (he : ((encS R).toList == (s.extract i (i + 1)).toList) = true) :
    Calls Tryd.prog 35 #[.string s, .int .i64 i] w fun e w' => e = .returned (.tuple #[.int .i64 R, .int .i64 1]) ∧ Below w.heap.size w w' := by
  have HL : Hid (longN (s[i].toNat : Int) = 1) := by unfold longN; rw [if_pos (by omega)]; rfl
  have HG : Hid _ := hg
  have HR : Hid _ := hR
  have hR0 : 0 ≤ R := by omega
  have hR1 : R ≤ 1114111 := (goodB_true hg).2.1
  have hsl := slice_run s i (i + 1) ((i : Int) + 1) (by omega) (by omega) (by omega)
  clear hg hR
  go_enter Tryd.func35, Tryd.ntmps35
  go_wp2_with (go_at_call 34; refine (long_any _ _ (by omega) (by omega)).mono ?_; rintro e w' ⟨rfl, rfl⟩; rw [HL.out])
  refine wp_loop_rounds 1 ?_
  rw [rounds_succ]
  go_wp2
  rw [HR.out]
  clear b1 b2 HR
  have hne := BW.some w'
  refine wp_region_below (by kernel_rfl) (by kernel_rfl) ?_
  repeat (go_big_quiet_step (first | (go_at_call 36; exact BW.same (good_yes HG.out _)) | (go_at_call 40; exact BW.call (utf8_any _ _ hR0 hR1))))
  refine wpQuiet_nil ?_
  rintro _ ⟨⟨wq, hbq⟩, rfl⟩
  go_wp2
  go_ret2
  exact ⟨rfl, hbq⟩
set_option maxRecDepth 100000 in
set_option maxHeartbeats 1000000 in
theorem at_2y (s : ByteArray) (i : Nat) (R : Int) (w : World) (hs : s.size ≤ 2000) (hi : i < s.size) (b1 : 192 ≤ (s[i].toNat : Int)) (b2 : (s[i].toNat : Int) < 224) (hz : i + 1 < s.size)
    (hR : (s[i].toNat : Int) % 32 * 64 + (s[i + 1].toNat : Int) % 64 = R)
    (hg : goodB R = true) (he : ((encS R).toList == (s.extract i (i + 2)).toList) = true) :
    Calls Tryd.prog 35 #[.string s, .int .i64 i] w fun e w' => e = .returned (.tuple #[.int .i64 R, .int .i64 2]) ∧ Below w.heap.size w w' := by
  have HL : Hid (longN (s[i].toNat : Int) = 2) := by unfold longN; rw [if_neg (by omega), if_neg (by omega), if_pos (by omega)]; rfl
  have HG : Hid _ := hg
  have HR : Hid _ := hR
  have c1 := byte_le s (i + 1) (by omega)
  have hR0 : 0 ≤ R := by omega
  have hR1 : R ≤ 1114111 := (goodB_true hg).2.1
  have hsl := slice_run s i (i + 2) ((i : Int) + 2) (by omega) (by omega) (by omega)
  clear hg hR
  go_enter Tryd.func35, Tryd.ntmps35
  go_wp2_with (go_at_call 34; refine (long_any _ _ (by omega) (by omega)).mono ?_; rintro e w' ⟨rfl, rfl⟩; rw [HL.out])
  refine wp_loop_rounds 2 ?_
  rw [rounds_succ]
  go_wp2
  rw [rounds_succ]
  go_wp2
  rw [HR.out]
  clear b1 b2 c1 HR
  have hne := BW.some w'
  refine wp_region_below (by kernel_rfl) (by kernel_rfl) ?_
  repeat (go_big_quiet_step (first | (go_at_call 36; exact BW.same (good_yes HG.out _)) | (go_at_call 40; exact BW.call (utf8_any _ _ hR0 hR1))))
  refine wpQuiet_nil ?_
  rintro _ ⟨⟨wq, hbq⟩, rfl⟩
  go_wp2
  go_ret2
  exact ⟨rfl, hbq⟩
set_option maxRecDepth 100000 in
set_option maxHeartbeats 1000000 in
theorem at_2n (s : ByteArray) (i : Nat) (R : Int) (w : World) (hs : s.size ≤ 2000) (hi : i < s.size) (b1 : 192 ≤ (s[i].toNat : Int)) (b2 : (s[i].toNat : Int) < 224) (hz : i + 1 < s.size)
    (hR : (s[i].toNat : Int) % 32 * 64 + (s[i + 1].toNat : Int) % 64 = R)
    (hg : goodB R = true) (he : ((encS R).toList == (s.extract i (i + 2)).toList) = false) :
    Calls Tryd.prog 35 #[.string s, .int .i64 i] w fun e w' => e = .returned (.tuple #[.int .i64 65533, .int .i64 1]) ∧ Below w.heap.size w w' := by
  have HL : Hid (longN (s[i].toNat : Int) = 2) := by unfold longN; rw [if_neg (by omega), if_neg (by omega), if_pos (by omega)]; rfl
  have HG : Hid _ := hg
  have HR : Hid _ := hR
  have c1 := byte_le s (i + 1) (by omega)
  have hR0 : 0 ≤ R := by omega
  have hR1 : R ≤ 1114111 := (goodB_true hg).2.1
  have hsl := slice_run s i (i + 2) ((i : Int) + 2) (by omega) (by omega) (by omega)
  clear hg hR
  go_enter Tryd.func35, Tryd.ntmps35
  go_wp2_with (go_at_call 34; refine (long_any _ _ (by omega) (by omega)).mono ?_; rintro e w' ⟨rfl, rfl⟩; rw [HL.out])
  refine wp_loop_rounds 2 ?_
  rw [rounds_succ]
  go_wp2
  rw [rounds_succ]
  go_wp2
  rw [HR.out]
  clear b1 b2 c1 HR
  have hne := BW.some w'
  refine wp_region_below (by kernel_rfl) (by kernel_rfl) ?_
  repeat (go_big_quiet_step (first | (go_at_call 36; exact BW.same (good_yes HG.out _)) | (go_at_call 40; exact BW.call (utf8_any _ _ hR0 hR1))))
  refine wpQuiet_nil ?_
  rintro _ ⟨⟨wq, hbq⟩, rfl⟩
  go_wp2
  go_ret2
  exact ⟨rfl, hbq⟩
set_option maxRecDepth 100000 in
set_option maxHeartbeats 1000000 in
theorem at_2g (s : ByteArray) (i : Nat) (R : Int) (w : World) (hs : s.size ≤ 2000) (hi : i < s.size) (b1 : 192 ≤ (s[i].toNat : Int)) (b2 : (s[i].toNat : Int) < 224) (hz : i + 1 < s.size)
    (hR : (s[i].toNat : Int) % 32 * 64 + (s[i + 1].toNat : Int) % 64 = R)
    (hg : goodB R = false) :
    Calls Tryd.prog 35 #[.string s, .int .i64 i] w fun e w' => e = .returned (.tuple #[.int .i64 65533, .int .i64 1]) ∧ Below w.heap.size w w' := by
  have HL : Hid (longN (s[i].toNat : Int) = 2) := by unfold longN; rw [if_neg (by omega), if_neg (by omega), if_pos (by omega)]; rfl
  have HG : Hid _ := hg
  have HR : Hid _ := hR
  have c1 := byte_le s (i + 1) (by omega)
  clear hg hR
  go_enter Tryd.func35, Tryd.ntmps35
  go_wp2_with (go_at_call 34; refine (long_any _ _ (by omega) (by omega)).mono ?_; rintro e w' ⟨rfl, rfl⟩; rw [HL.out])
  refine wp_loop_rounds 2 ?_
  rw [rounds_succ]
  go_wp2
  rw [rounds_succ]
  go_wp2
  rw [HR.out]
  clear b1 b2 c1 HR
  have hne := BW.some w'
  refine wp_region_below (by kernel_rfl) (by kernel_rfl) ?_
  repeat (go_big_quiet_step ((go_at_call 36; exact BW.same (good_not HG.out _))))
  refine wpQuiet_nil ?_
  rintro _ ⟨⟨wq, hbq⟩, rfl⟩
  go_wp2
  go_ret2
  exact ⟨rfl, hbq⟩
set_option maxRecDepth 100000 in
set_option maxHeartbeats 1000000 in
theorem at_3y (s : ByteArray) (i : Nat) (R : Int) (w : World) (hs : s.size ≤ 2000) (hi : i < s.size) (b1 : 224 ≤ (s[i].toNat : Int)) (b2 : (s[i].toNat : Int) < 240) (hz : i + 2 < s.size)
    (hR : ((s[i].toNat : Int) % 16 * 64 + (s[i + 1].toNat : Int) % 64) * 64 + (s[i + 2].toNat : Int) % 64 = R)
    (hg : goodB R = true) (he : ((encS R).toList == (s.extract i (i + 3)).toList) = true) :
    Calls Tryd.prog 35 #[.string s, .int .i64 i] w fun e w' => e = .returned (.tuple #[.int .i64 R, .int .i64 3]) ∧ Below w.heap.size w w' := by
  have HL : Hid (longN (s[i].toNat : Int) = 3) := by unfold longN; rw [if_neg (by omega), if_neg (by omega), if_neg (by omega), if_pos (by omega)]; rfl
  have HG : Hid _ := hg
  have HR : Hid _ := hR
  have c1 := byte_le s (i + 1) (by omega)
  have c2 := byte_le s (i + 2) (by omega)
  have hR0 : 0 ≤ R := by omega
  have hR1 : R ≤ 1114111 := (goodB_true hg).2.1
  have hsl := slice_run s i (i + 3) ((i : Int) + 3) (by omega) (by omega) (by omega)
  clear hg hR
  go_enter Tryd.func35, Tryd.ntmps35
  go_wp2_with (go_at_call 34; refine (long_any _ _ (by omega) (by omega)).mono ?_; rintro e w' ⟨rfl, rfl⟩; rw [HL.out])
  refine wp_loop_rounds 3 ?_
  rw [rounds_succ]
  go_wp2
  rw [rounds_succ]
  go_wp2
  rw [rounds_succ]
  go_wp2
  rw [HR.out]
  clear b1 b2 c1 c2 HR
  have hne := BW.some w'
  refine wp_region_below (by kernel_rfl) (by kernel_rfl) ?_
  repeat (go_big_quiet_step (first | (go_at_call 36; exact BW.same (good_yes HG.out _)) | (go_at_call 40; exact BW.call (utf8_any _ _ hR0 hR1))))
  refine wpQuiet_nil ?_
  rintro _ ⟨⟨wq, hbq⟩, rfl⟩
  go_wp2
  go_ret2
  exact ⟨rfl, hbq⟩
set_option maxRecDepth 100000 in
set_option maxHeartbeats 1000000 in
theorem at_3n (s : ByteArray) (i : Nat) (R : Int) (w : World) (hs : s.size ≤ 2000) (hi : i < s.size) (b1 : 224 ≤ (s[i].toNat : Int)) (b2 : (s[i].toNat : Int) < 240) (hz : i + 2 < s.size)
    (hR : ((s[i].toNat : Int) % 16 * 64 + (s[i + 1].toNat : Int) % 64) * 64 + (s[i + 2].toNat : Int) % 64 = R)
    (hg : goodB R = true) (he : ((encS R).toList == (s.extract i (i + 3)).toList) = false) :
    Calls Tryd.prog 35 #[.string s, .int .i64 i] w fun e w' => e = .returned (.tuple #[.int .i64 65533, .int .i64 1]) ∧ Below w.heap.size w w' := by
  have HL : Hid (longN (s[i].toNat : Int) = 3) := by unfold longN; rw [if_neg (by omega), if_neg (by omega), if_neg (by omega), if_pos (by omega)]; rfl
  have HG : Hid _ := hg
  have HR : Hid _ := hR
  have c1 := byte_le s (i + 1) (by omega)
  have c2 := byte_le s (i + 2) (by omega)
  have hR0 : 0 ≤ R := by omega
  have hR1 : R ≤ 1114111 := (goodB_true hg).2.1
  have hsl := slice_run s i (i + 3) ((i : Int) + 3) (by omega) (by omega) (by omega)
  clear hg hR
  go_enter Tryd.func35, Tryd.ntmps35
  go_wp2_with (go_at_call 34; refine (long_any _ _ (by omega) (by omega)).mono ?_; rintro e w' ⟨rfl, rfl⟩; rw [HL.out])
  refine wp_loop_rounds 3 ?_
  rw [rounds_succ]
  go_wp2
  rw [rounds_succ]
  go_wp2
  rw [rounds_succ]
  go_wp2
  rw [HR.out]
  clear b1 b2 c1 c2 HR
  have hne := BW.some w'
  refine wp_region_below (by kernel_rfl) (by kernel_rfl) ?_
  repeat (go_big_quiet_step (first | (go_at_call 36; exact BW.same (good_yes HG.out _)) | (go_at_call 40; exact BW.call (utf8_any _ _ hR0 hR1))))
  refine wpQuiet_nil ?_
  rintro _ ⟨⟨wq, hbq⟩, rfl⟩
  go_wp2
  go_ret2
  exact ⟨rfl, hbq⟩
set_option maxRecDepth 100000 in
set_option maxHeartbeats 1000000 in
theorem at_3g (s : ByteArray) (i : Nat) (R : Int) (w : World) (hs : s.size ≤ 2000) (hi : i < s.size) (b1 : 224 ≤ (s[i].toNat : Int)) (b2 : (s[i].toNat : Int) < 240) (hz : i + 2 < s.size)
    (hR : ((s[i].toNat : Int) % 16 * 64 + (s[i + 1].toNat : Int) % 64) * 64 + (s[i + 2].toNat : Int) % 64 = R)
    (hg : goodB R = false) :
    Calls Tryd.prog 35 #[.string s, .int .i64 i] w fun e w' => e = .returned (.tuple #[.int .i64 65533, .int .i64 1]) ∧ Below w.heap.size w w' := by
  have HL : Hid (longN (s[i].toNat : Int) = 3) := by unfold longN; rw [if_neg (by omega), if_neg (by omega), if_neg (by omega), if_pos (by omega)]; rfl
  have HG : Hid _ := hg
  have HR : Hid _ := hR
  have c1 := byte_le s (i + 1) (by omega)
  have c2 := byte_le s (i + 2) (by omega)
  clear hg hR
  go_enter Tryd.func35, Tryd.ntmps35
  go_wp2_with (go_at_call 34; refine (long_any _ _ (by omega) (by omega)).mono ?_; rintro e w' ⟨rfl, rfl⟩; rw [HL.out])
  refine wp_loop_rounds 3 ?_
  rw [rounds_succ]
  go_wp2
  rw [rounds_succ]
  go_wp2
  rw [rounds_succ]
  go_wp2
  rw [HR.out]
  clear b1 b2 c1 c2 HR
  have hne := BW.some w'
  refine wp_region_below (by kernel_rfl) (by kernel_rfl) ?_
  repeat (go_big_quiet_step ((go_at_call 36; exact BW.same (good_not HG.out _))))
  refine wpQuiet_nil ?_
  rintro _ ⟨⟨wq, hbq⟩, rfl⟩
  go_wp2
  go_ret2
  exact ⟨rfl, hbq⟩
set_option maxRecDepth 100000 in
set_option maxHeartbeats 1000000 in
theorem at_4y (s : ByteArray) (i : Nat) (R : Int) (w : World) (hs : s.size ≤ 2000) (hi : i < s.size) (b1 : 240 ≤ (s[i].toNat : Int)) (b2 : (s[i].toNat : Int) < 248) (hz : i + 3 < s.size)
    (hR : (((s[i].toNat : Int) % 8 * 64 + (s[i + 1].toNat : Int) % 64) * 64 + (s[i + 2].toNat : Int) % 64) * 64 + (s[i + 3].toNat : Int) % 64 = R)
    (hg : goodB R = true) (he : ((encS R).toList == (s.extract i (i + 4)).toList) = true) :
    Calls Tryd.prog 35 #[.string s, .int .i64 i] w fun e w' => e = .returned (.tuple #[.int .i64 R, .int .i64 4]) ∧ Below w.heap.size w w' := by
  have HL : Hid (longN (s[i].toNat : Int) = 4) := by unfold longN; rw [if_neg (by omega), if_neg (by omega), if_neg (by omega), if_neg (by omega), if_pos (by omega)]; rfl
  have HG : Hid _ := hg
  have HR : Hid _ := hR
  have c1 := byte_le s (i + 1) (by omega)
  have c2 := byte_le s (i + 2) (by omega)
  have c3 := byte_le s (i + 3) (by omega)
  have hR0 : 0 ≤ R := by omega
  have hR1 : R ≤ 1114111 := (goodB_true hg).2.1
  have hsl := slice_run s i (i + 4) ((i : Int) + 4) (by omega) (by omega) (by omega)
  clear hg hR
  go_enter Tryd.func35, Tryd.ntmps35
  go_wp2_with (go_at_call 34; refine (long_any _ _ (by omega) (by omega)).mono ?_; rintro e w' ⟨rfl, rfl⟩; rw [HL.out])
  refine wp_loop_rounds 4 ?_
  rw [rounds_succ]
  go_wp2
  rw [rounds_succ]
  go_wp2
  rw [rounds_succ]
  go_wp2
  rw [rounds_succ]
  go_wp2
  rw [HR.out]
  clear b1 b2 c1 c2 c3 HR
  have hne := BW.some w'
  refine wp_region_below (by kernel_rfl) (by kernel_rfl) ?_
  repeat (go_big_quiet_step (first | (go_at_call 36; exact BW.same (good_yes HG.out _)) | (go_at_call 40; exact BW.call (utf8_any _ _ hR0 hR1))))
  refine wpQuiet_nil ?_
  rintro _ ⟨⟨wq, hbq⟩, rfl⟩
  go_wp2
  go_ret2
  exact ⟨rfl, hbq⟩
set_option maxRecDepth 100000 in
set_option maxHeartbeats 1000000 in
theorem at_4n (s : ByteArray) (i : Nat) (R : Int) (w : World) (hs : s.size ≤ 2000) (hi : i < s.size) (b1 : 240 ≤ (s[i].toNat : Int)) (b2 : (s[i].toNat : Int) < 248) (hz : i + 3 < s.size)
    (hR : (((s[i].toNat : Int) % 8 * 64 + (s[i + 1].toNat : Int) % 64) * 64 + (s[i + 2].toNat : Int) % 64) * 64 + (s[i + 3].toNat : Int) % 64 = R)
    (hg : goodB R = true) (he : ((encS R).toList == (s.extract i (i + 4)).toList) = false) :
    Calls Tryd.prog 35 #[.string s, .int .i64 i] w fun e w' => e = .returned (.tuple #[.int .i64 65533, .int .i64 1]) ∧ Below w.heap.size w w' := by
  have HL : Hid (longN (s[i].toNat : Int) = 4) := by unfold longN; rw [if_neg (by omega), if_neg (by omega), if_neg (by omega), if_neg (by omega), if_pos (by omega)]; rfl
  have HG : Hid _ := hg
  have HR : Hid _ := hR
  have c1 := byte_le s (i + 1) (by omega)
  have c2 := byte_le s (i + 2) (by omega)
  have c3 := byte_le s (i + 3) (by omega)
  have hR0 : 0 ≤ R := by omega
  have hR1 : R ≤ 1114111 := (goodB_true hg).2.1
  have hsl := slice_run s i (i + 4) ((i : Int) + 4) (by omega) (by omega) (by omega)
  clear hg hR
  go_enter Tryd.func35, Tryd.ntmps35
  go_wp2_with (go_at_call 34; refine (long_any _ _ (by omega) (by omega)).mono ?_; rintro e w' ⟨rfl, rfl⟩; rw [HL.out])
  refine wp_loop_rounds 4 ?_
  rw [rounds_succ]
  go_wp2
  rw [rounds_succ]
  go_wp2
  rw [rounds_succ]
  go_wp2
  rw [rounds_succ]
  go_wp2
  rw [HR.out]
  clear b1 b2 c1 c2 c3 HR
  have hne := BW.some w'
  refine wp_region_below (by kernel_rfl) (by kernel_rfl) ?_
  repeat (go_big_quiet_step (first | (go_at_call 36; exact BW.same (good_yes HG.out _)) | (go_at_call 40; exact BW.call (utf8_any _ _ hR0 hR1))))
  refine wpQuiet_nil ?_
  rintro _ ⟨⟨wq, hbq⟩, rfl⟩
  go_wp2
  go_ret2
  exact ⟨rfl, hbq⟩
set_option maxRecDepth 100000 in
set_option maxHeartbeats 1000000 in
theorem at_4g (s : ByteArray) (i : Nat) (R : Int) (w : World) (hs : s.size ≤ 2000) (hi : i < s.size) (b1 : 240 ≤ (s[i].toNat : Int)) (b2 : (s[i].toNat : Int) < 248) (hz : i + 3 < s.size)
    (hR : (((s[i].toNat : Int) % 8 * 64 + (s[i + 1].toNat : Int) % 64) * 64 + (s[i + 2].toNat : Int) % 64) * 64 + (s[i + 3].toNat : Int) % 64 = R)
    (hg : goodB R = false) :
    Calls Tryd.prog 35 #[.string s, .int .i64 i] w fun e w' => e = .returned (.tuple #[.int .i64 65533, .int .i64 1]) ∧ Below w.heap.size w w' := by
  have HL : Hid (longN (s[i].toNat : Int) = 4) := by unfold longN; rw [if_neg (by omega), if_neg (by omega), if_neg (by omega), if_neg (by omega), if_pos (by omega)]; rfl
  have HG : Hid _ := hg
  have HR : Hid _ := hR
  have c1 := byte_le s (i + 1) (by omega)
  have c2 := byte_le s (i + 2) (by omega)
  have c3 := byte_le s (i + 3) (by omega)
  clear hg hR
  go_enter Tryd.func35, Tryd.ntmps35
  go_wp2_with (go_at_call 34; refine (long_any _ _ (by omega) (by omega)).mono ?_; rintro e w' ⟨rfl, rfl⟩; rw [HL.out])
  refine wp_loop_rounds 4 ?_
  rw [rounds_succ]
  go_wp2
  rw [rounds_succ]
  go_wp2
  rw [rounds_succ]
  go_wp2
  rw [rounds_succ]
  go_wp2
  rw [HR.out]
  clear b1 b2 c1 c2 c3 HR
  have hne := BW.some w'
  refine wp_region_below (by kernel_rfl) (by kernel_rfl) ?_
  repeat (go_big_quiet_step ((go_at_call 36; exact BW.same (good_not HG.out _))))
  refine wpQuiet_nil ?_
  rintro _ ⟨⟨wq, hbq⟩, rfl⟩
  go_wp2
  go_ret2
  exact ⟨rfl, hbq⟩
set_option maxRecDepth 100000 in
set_option maxHeartbeats 1000000 in
theorem at_short (s : ByteArray) (i : Nat) (w : World) (hs : s.size ≤ 2000) (hi : i < s.size) (L : Int) (hL : longN (s[i].toNat : Int) = L) (hz : L = 0 ∨ (L ≠ 0 ∧ 0 ≤ L ∧ L ≤ 4 ∧ (s.size : Int) < i + L)) :
    Calls Tryd.prog 35 #[.string s, .int .i64 i] w fun e w' => e = .returned (.tuple #[.int .i64 65533, .int .i64 1]) ∧ Below w.heap.size w w' := by
  have c0 := byte_le s i hi
  have HL : Hid _ := hL
  clear hL
  rcases hz with rfl | ⟨h0, h1, h2, h3⟩
  · go_enter Tryd.func35, Tryd.ntmps35
    go_wp2_with (go_at_call 34; refine (long_any _ _ (by omega) (by omega)).mono ?_; rintro e w' ⟨rfl, rfl⟩; rw [HL.out])
    go_ret2
    exact ⟨rfl, Below.refl _ _⟩
  · have h0' : (L == 0) = false := by simpa using h0
    clear h0
    go_enter Tryd.func35, Tryd.ntmps35
    go_wp2_with (go_at_call 34; refine (long_any _ _ (by omega) (by omega)).mono ?_; rintro e w' ⟨rfl, rfl⟩; rw [HL.out])
    go_ret2
    exact ⟨rfl, Below.refl _ _⟩
theorem at_any2 (s : ByteArray) (i : Nat) (w : World) (hs : s.size ≤ 2000) (hi : i < s.size) :
    Calls Tryd.prog 35 #[.string s, .int .i64 i] w fun e w' => e = .returned (.tuple #[.int .i64 (decR s i), .int .i64 (decW s i)]) ∧ Below w.heap.size w w' := by
  have q0 := byte_le s i hi
  have bad : (∀ r' w', ¬ Enc s i r' w') → decR s i = 65533 ∧ decW s i = 1 := fun hn => by
    have := dec_is hi (.inr ⟨rfl, rfl, hn⟩)
    exact ⟨this.1.symm, this.2.symm⟩
  have e0 := byt_eq hi
  have long0 : (128 ≤ (s[i].toNat : Int) ∧ (s[i].toNat : Int) < 192) ∨ 248 ≤ (s[i].toNat : Int) → longN (s[i].toNat : Int) = 0 := by
    intro h; unfold longN
    rcases h with h | h
    · rw [if_neg (by omega), if_pos (by omega)]
    · rw [if_neg (by omega), if_neg (by omega), if_neg (by omega), if_neg (by omega), if_neg (by omega)]
  rcases (by omega : (s[i].toNat : Int) < 128 ∨ ((128 ≤ (s[i].toNat : Int) ∧ (s[i].toNat : Int) < 192) ∨ 248 ≤ (s[i].toNat : Int)) ∨ (192 ≤ (s[i].toNat : Int) ∧ (s[i].toNat : Int) < 224) ∨ (224 ≤ (s[i].toNat : Int) ∧ (s[i].toNat : Int) < 240) ∨ (240 ≤ (s[i].toNat : Int) ∧ (s[i].toNat : Int) < 248)) with h | h | ⟨h, h'⟩ | ⟨h, h'⟩ | ⟨h, h'⟩
  · have hE : Enc s i (s[i].toNat : Int) 1 := ⟨goodB_mk (by omega), by omega, .inl ⟨rfl, h, e0⟩⟩
    obtain ⟨r1, r2⟩ := dec_is hi (.inl hE)
    rw [← r1, ← r2]
    exact at_1y s i _ w hs hi (by omega) h rfl hE.1 (by rw [beq_iff_eq]; exact (enc_iff s i _ hE.1 1 (by omega)).1 hE)
  · obtain ⟨r1, r2⟩ := bad (fun r' w' ⟨g, hw, hh⟩ => by have := goodB_true g; omega)
    rw [r1, r2]
    exact at_short s i w hs hi 0 (long0 h) (.inl rfl)
  · by_cases hz : i + 1 < s.size
    · obtain ⟨R, hR⟩ : ∃ R, (s[i].toNat : Int) % 32 * 64 + (s[i + 1].toNat : Int) % 64 = R := ⟨_, rfl⟩
      have e1 := byt_eq (s := s) (k := i + 1) (by omega)
      have q1 := byte_le s (i + 1) (by omega)
      have key : ∀ r' w', Enc s i r' w' → r' = R ∧ w' = 2 := fun r' w' ⟨g, hw, hh⟩ => by have := goodB_true g; omega
      by_cases hg : goodB R = true
      · by_cases he : (encS R).toList = (s.extract i (i + 2)).toList
        · obtain ⟨r1, r2⟩ := dec_is hi (.inl ((enc_iff s i R hg 2 (by omega)).2 he))
          rw [← r1, ← r2]
          exact at_2y s i R w hs hi h h' hz hR hg (by rw [beq_iff_eq]; exact he)
        · obtain ⟨r1, r2⟩ := bad (fun r' w' hE => by
            obtain ⟨rfl, rfl⟩ := key r' w' hE
            exact he ((enc_iff s i _ hg 2 (by omega)).1 hE))
          rw [r1, r2]
          exact at_2n s i R w hs hi h h' hz hR hg (by rw [beq_eq_false_iff_ne]; exact he)
      · obtain ⟨r1, r2⟩ := bad (fun r' w' hE => by
          obtain ⟨rfl, rfl⟩ := key r' w' hE
          exact hg hE.1)
        rw [r1, r2]
        exact at_2g s i R w hs hi h h' hz hR (by simpa using hg)
    · obtain ⟨r1, r2⟩ := bad (fun r' w' ⟨g, hw, hh⟩ => by have := goodB_true g; omega)
      rw [r1, r2]
      exact at_short s i w hs hi 2 (by unfold longN; rw [if_neg (by omega), if_neg (by omega), if_pos (by omega)]) (.inr ⟨by omega, by omega, by omega, by omega⟩)
  · by_cases hz : i + 2 < s.size
    · obtain ⟨R, hR⟩ : ∃ R, ((s[i].toNat : Int) % 16 * 64 + (s[i + 1].toNat : Int) % 64) * 64 + (s[i + 2].toNat : Int) % 64 = R := ⟨_, rfl⟩
      have e1 := byt_eq (s := s) (k := i + 1) (by omega)
      have q1 := byte_le s (i + 1) (by omega)
      have e2 := byt_eq (s := s) (k := i + 2) (by omega)
      have q2 := byte_le s (i + 2) (by omega)
      have key : ∀ r' w', Enc s i r' w' → r' = R ∧ w' = 3 := fun r' w' ⟨g, hw, hh⟩ => by have := goodB_true g; omega
      by_cases hg : goodB R = true
      · by_cases he : (encS R).toList = (s.extract i (i + 3)).toList
        · obtain ⟨r1, r2⟩ := dec_is hi (.inl ((enc_iff s i R hg 3 (by omega)).2 he))
          rw [← r1, ← r2]
          exact at_3y s i R w hs hi h h' hz hR hg (by rw [beq_iff_eq]; exact he)
        · obtain ⟨r1, r2⟩ := bad (fun r' w' hE => by
            obtain ⟨rfl, rfl⟩ := key r' w' hE
            exact he ((enc_iff s i _ hg 3 (by omega)).1 hE))
          rw [r1, r2]
          exact at_3n s i R w hs hi h h' hz hR hg (by rw [beq_eq_false_iff_ne]; exact he)
      · obtain ⟨r1, r2⟩ := bad (fun r' w' hE => by
          obtain ⟨rfl, rfl⟩ := key r' w' hE
          exact hg hE.1)
        rw [r1, r2]
        exact at_3g s i R w hs hi h h' hz hR (by simpa using hg)
    · obtain ⟨r1, r2⟩ := bad (fun r' w' ⟨g, hw, hh⟩ => by have := goodB_true g; omega)
      rw [r1, r2]
      exact at_short s i w hs hi 3 (by unfold longN; rw [if_neg (by omega), if_neg (by omega), if_neg (by omega), if_pos (by omega)]) (.inr ⟨by omega, by omega, by omega, by omega⟩)
  · by_cases hz : i + 3 < s.size
    · obtain ⟨R, hR⟩ : ∃ R, (((s[i].toNat : Int) % 8 * 64 + (s[i + 1].toNat : Int) % 64) * 64 + (s[i + 2].toNat : Int) % 64) * 64 + (s[i + 3].toNat : Int) % 64 = R := ⟨_, rfl⟩
      have e1 := byt_eq (s := s) (k := i + 1) (by omega)
      have q1 := byte_le s (i + 1) (by omega)
      have e2 := byt_eq (s := s) (k := i + 2) (by omega)
      have q2 := byte_le s (i + 2) (by omega)
      have e3 := byt_eq (s := s) (k := i + 3) (by omega)
      have q3 := byte_le s (i + 3) (by omega)
      have key : ∀ r' w', Enc s i r' w' → r' = R ∧ w' = 4 := fun r' w' ⟨g, hw, hh⟩ => by have := goodB_true g; omega
      by_cases hg : goodB R = true
      · by_cases he : (encS R).toList = (s.extract i (i + 4)).toList
        · obtain ⟨r1, r2⟩ := dec_is hi (.inl ((enc_iff s i R hg 4 (by omega)).2 he))
          rw [← r1, ← r2]
          exact at_4y s i R w hs hi h h' hz hR hg (by rw [beq_iff_eq]; exact he)
        · obtain ⟨r1, r2⟩ := bad (fun r' w' hE => by
            obtain ⟨rfl, rfl⟩ := key r' w' hE
            exact he ((enc_iff s i _ hg 4 (by omega)).1 hE))
          rw [r1, r2]
          exact at_4n s i R w hs hi h h' hz hR hg (by rw [beq_eq_false_iff_ne]; exact he)
      · obtain ⟨r1, r2⟩ := bad (fun r' w' hE => by
          obtain ⟨rfl, rfl⟩ := key r' w' hE
          exact hg hE.1)
        rw [r1, r2]
        exact at_4g s i R w hs hi h h' hz hR (by simpa using hg)
    · obtain ⟨r1, r2⟩ := bad (fun r' w' ⟨g, hw, hh⟩ => by have := goodB_true g; omega)
      rw [r1, r2]
      exact at_short s i w hs hi 4 (by unfold longN; rw [if_neg (by omega), if_neg (by omega), if_neg (by omega), if_neg (by omega), if_pos (by omega)]) (.inr ⟨by omega, by omega, by omega, by omega⟩)
theorem at_any (s : ByteArray) (i : Nat) (w : World) (hs : s.size ≤ 1000) (hi : i < s.size) :
    Calls Tryd.prog 35 #[.string s, .int .i64 i] w fun e w' => e = .returned (.tuple #[.int .i64 (decR s i), .int .i64 (decW s i)]) ∧ Below w.heap.size w w' := at_any2 s i w (by omega) hi
end Go.Proofs.YtklgagonbehpeaaDoor
