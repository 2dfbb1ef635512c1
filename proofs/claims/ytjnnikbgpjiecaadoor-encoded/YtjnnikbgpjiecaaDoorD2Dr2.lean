/-
  Contracts of the draws DrawDecodeAll, DrawGuessCode, DrawNewDecoder, and of the laws' sum; both DecodeAlls at once.
-/
import Derived.Test.YtjnnikbgpjiecaaDoorD2Coded
import Derived.Test.YtjnnikbgpjiecaaDoorD2DrawE
import Derived.Test.YtjnnikbgpjiecaaDoorD2Rt3
import Derived.Test.YtjnnikbgpjiecaaDoorI2DecA
import Derived.Test.YtjnnikbgpjiecaaDoorI2Enc
import Derived.Test.YtjnnikbgpjiecaaDoorMarks2
namespace Go.Proofs.YtjnnikbgpjiecaaDoor
open Go.ChangeShapes Go.WideShapes Go.ChangeAt Go.RowKit
set_option maxRecDepth 100000 in
set_option maxHeartbeats 1000000 in
theorem ddec_any (ao : Option Addr) (n cap : Nat) (w : World) (h : ArgB w ao n) :
    Calls Tryd.prog 26 #[.slice ao n cap] w fun e w' => ∃ (en : Int) (s : ByteArray), e = .returned (.tuple #[.int .i64 en, .string s]) ∧ s.size ≤ 1028 ∧ Below w.heap.size w w' := by
  have HC : Hid _ := cur_new cap h
  clear h
  go_enter Tryd.func26, Tryd.ntmps26
  go_wp2_with fail
  refine (cen_any _ _ ao n cap 0 _ (by omega) HC.out).mono ?_
  rintro e w1 ⟨r, k1, rfl, p0, p1, hk1, C1, g1⟩
  have HC1 : Hid _ := C1
  have G1 : Hid _ := g1
  clear C1 g1
  go_wp2_with fail
  refine (coded_any r _ _ ao n cap k1 _ (by omega) HC1.out).mono ?_
  rintro e w2 ⟨s, k2, rfl, hs, hk2, C2, g2⟩
  have G2 : Hid _ := grown_trans' G1.out g2
  clear C2 g2
  go_wp2
  go_ret2
  exact ⟨r, s, rfl, hs, below_of_cur G2.out⟩
set_option maxRecDepth 100000 in
set_option maxHeartbeats 1000000 in
theorem dnew_any (ao : Option Addr) (n cap : Nat) (w : World) (h : ArgB w ao n) :
    Calls Tryd.prog 31 #[.slice ao n cap] w fun e w' => ∃ (en : Int), e = .returned (.int .i64 en) ∧ Below w.heap.size w w' := by
  have HC : Hid _ := cur_new cap h
  clear h
  go_enter Tryd.func31, Tryd.ntmps31
  go_wp2_with fail
  refine (cen_any _ _ ao n cap 0 _ (by omega) HC.out).mono ?_
  rintro e w1 ⟨r, k1, rfl, p0, p1, hk1, C1, g1⟩
  have G1 : Hid _ := g1
  clear C1 g1
  go_wp2
  go_ret
  exact ⟨r, rfl, below_of_cur G1.out⟩
def markL : List ByteArray := [⟨#[254, 255]⟩, ⟨#[255, 254]⟩, ⟨#[239, 187, 191]⟩, ⟨#[254]⟩, ⟨#[239, 187]⟩]
theorem markL_size (y : ByteArray) (h : y ∈ markL) : y.size ≤ 3 := by
  simp only [markL, List.mem_cons, List.not_mem_nil, or_false] at h
  rcases h with rfl | rfl | rfl | rfl | rfl <;> decide
set_option maxRecDepth 100000 in
set_option maxHeartbeats 1000000 in
theorem dguess_any (ao : Option Addr) (n cap : Nat) (w : World) (h : ArgB w ao n) :
    Calls Tryd.prog 28 #[.slice ao n cap] w fun e w' => ∃ (s : ByteArray), e = .returned (.string s) ∧ Below w.heap.size w w' := by
  have HC : Hid _ := cur_new cap h
  clear h
  go_enter Tryd.func28, Tryd.ntmps28
  go_wp2_with fail
  refine (bytes_any _ _ ao n cap 0 _ (by omega) HC.out).mono ?_
  rintro e w1 ⟨x, k1, rfl, hx, hk1, C1, g1⟩
  have HC1 : Hid _ := C1
  have G1 : Hid _ := g1
  clear C1 g1
  go_wp2_with fail
  refine (one_any 2 _ _ ao n cap k1 _ (by omega) HC1.out).mono ?_
  rintro e w2 ⟨q, k2, rfl, hk2, C2, g2⟩
  have HC2 : Hid _ := C2
  have G2 : Hid _ := grown_trans' G1.out g2
  have hb : w.heap.size < w2.heap.size := by have := G2.out.size; simp at this; omega
  clear C2 g2
  cases q
  · go_wp2
    go_ret
    exact ⟨x, rfl, below_of_cur G2.out⟩
  · have HV : Hid _ := vals_new w2 w.heap.size hb _ (markL.map Value.string) rfl 9
    have HB : Hid (Below w2.heap.size w2 (w2.alloc (.cells (markL.map Value.string).toArray 9))) := (Below.refl _ _).alloc (Nat.le_refl _) _
    go_wp2_with fail
    refine (of_any markL _ _ _ _ ao n cap k2 _ (by omega) (by decide) (by decide) HV.out (Cur.below HC2.out HB.out)).mono ?_
    rintro e w3 ⟨y, k3, rfl, hy, hk3, C3, g3⟩
    have hy3 := markL_size y hy
    have G3 : Hid _ := grown_trans' (grown_trans' G2.out (grown_of_below HB.out _)) g3
    clear C3 g3 hy
    have hcat : ¬ 9223372036854775807 < y.size + x.size := by omega
    go_wp2
    go_ret
    exact ⟨_, rfl, below_of_cur G3.out⟩
theorem sumI_take (L : List Int) (k : Nat) (h : k < L.length) : sumI (L.take (k + 1)) = sumI (L.take k) + L.getD k 0 := by
  rw [take_one L k h, sumI_append]; simp [sumI]
theorem sumI_bd (L : List Int) (h : ∀ x ∈ L, 0 ≤ x ∧ x ≤ 5000) : 0 ≤ sumI L ∧ sumI L ≤ 5000 * L.length := by
  induction L with
  | nil => simp [sumI]
  | cons a t ih =>
    have h1 := ih (fun x hx => h x (List.mem_cons_of_mem _ hx))
    have h2 := h a (List.mem_cons_self ..)
    rw [sumI_cons, List.length_cons]
    omega
set_option maxRecDepth 100000 in
set_option maxHeartbeats 1000000 in
theorem sum_any (L : List Int) (ao : Option Addr) (cap : Nat) (w : World) (hl : L.length ≤ 5000) (hb : ∀ x ∈ L, 0 ≤ x ∧ x ≤ 5000) (hA : IntsAt w ao L) :
    Calls Tryd.prog 18 #[.slice ao L.length cap] w fun e w' => e = .returned (.int .i64 (sumI L)) ∧ w' = w := by
  have HA : Hid _ := hA
  have HB : Hid _ := hb
  clear hA hb
  go_enter Tryd.func18, Tryd.ntmps18
  go_wp2
  go_loopw [3, 8] (fun sv iv wr => ∃ k : Nat, k ≤ L.length ∧ iv = .int .i64 k ∧ sv = .int .i64 (sumI (L.take k)) ∧ wr = w) (fun _ i _ => L.length - (intOf i).toNat)
  case atStart => exact ⟨0, Nat.zero_le _, rfl, rfl, rfl⟩
  case round =>
    obtain ⟨k, hk, rfl, rfl, rfl⟩ := hrel
    by_cases hlt : k < L.length
    · have hltI : (k : Int) < (L.length : Int) := by omega
      obtain ⟨b1, o1, rfl, l1, h1⟩ := HA.out k hlt
      have hx := HB.out (L.getD k 0) (by simp [List.getD, hlt])
      have hs := sumI_bd (L.take k) (fun x hx => HB.out x (List.mem_of_mem_take hx))
      have hlk := List.length_take_le k L
      have HST : Hid _ := sumI_take L k hlt
      have hs2 : sumI (L.take k) ≤ 25000000 := by omega
      obtain ⟨hs1, -⟩ := hs
      obtain ⟨hx1, hx2⟩ := hx
      generalize L.getD k 0 = x at *
      generalize sumI (L.take k) = y at *
      go_wp2
      go_roundw
      case rel => exact ⟨k + 1, by omega, by go_num, by rw [HST.out], by first | rfl | trivial⟩
      case measure => simp [intOf]; omega
    · obtain rfl : k = L.length := by omega
      rw [List.take_length]
      go_wp2
      go_ret
      exact ⟨rfl, rfl⟩
theorem feedU_bd (en : Int) : ∀ (f : Nat) (x : ByteArray), ∀ y ∈ (feedU en f x).2.1, 0 ≤ y ∧ y ≤ x.size
  | 0, x => fun y hy => by cases hy
  | f + 1, x => fun y hy => by
    unfold feedU at hy
    by_cases h0 : x.size = 0
    · rw [if_pos h0] at hy; cases hy
    · rw [if_neg h0] at hy
      by_cases h1 : (oneS en x).2 = 0
      · rw [if_pos h1] at hy; cases hy
      · rw [if_neg h1] at hy
        have hle := oneS_le en x (by omega)
        rcases List.mem_cons.1 hy with rfl | hy'
        · omega
        · have := feedU_bd en f _ y hy'
          rw [ByteArray.size_extract] at this
          omega
theorem feedB_bd (en : Int) : ∀ (t : List UInt8) (sh lo : Int), 0 ≤ lo → ∀ y ∈ (feedB en t sh lo).2.1, 0 ≤ y ∧ y ≤ lo + t.length
  | [], sh, lo, h => fun y hy => by cases hy
  | b :: t, sh, lo, h => fun y hy => by
    rw [feedB] at hy
    rw [List.length_cons]
    split at hy
    · have := feedB_bd en t (15 - b.toNat) (lo + 1) (by omega) y hy; omega
    · rcases List.mem_cons.1 hy with rfl | hy'
      · omega
      · have := feedB_bd en t sh 0 (by omega) y hy'; omega
theorem flushN_bd (u : Bool) : ∀ (f n : Nat), ∀ y ∈ flushN u f n, 0 ≤ y ∧ y ≤ 2
  | 0, _ => fun y hy => by cases hy
  | f + 1, 0 => fun y hy => by cases hy
  | f + 1, n + 1 => fun y hy => by
    unfold flushN at hy
    split at hy
    · rcases List.mem_cons.1 hy with rfl | hy'
      · omega
      · exact flushN_bd u f _ y hy'
    · rcases List.mem_cons.1 hy with rfl | hy'
      · omega
      · exact flushN_bd u f _ y hy'
theorem decLs_bd (en : Int) (s : ByteArray) (hs : s.size ≤ 1000) : ∀ y ∈ decLs en s, 0 ≤ y ∧ y ≤ 5000 := fun y hy => by
  unfold decLs at hy
  rcases List.mem_append.1 hy with h | h
  · unfold feedD at h
    split at h
    · have := feedB_bd en s.data.toList 0 0 (by omega) y h
      have hl : s.data.toList.length = s.size := by simp
      omega
    · have := feedU_bd en _ _ y h
      have hz := ByteArray.size_append (a := (⟨#[]⟩ : ByteArray)) (b := s)
      have h0 : (⟨#[]⟩ : ByteArray).size = 0 := rfl
      omega
  · have := flushN_bd _ _ _ y h
    omega
/-- Both DecodeAlls tell the same. -/
theorem dec_both (en : Int) (s : ByteArray) : ∃ (ok : Bool) (L1 L2 : List Int), L1.length ≤ 3000 ∧ L2.length ≤ 3000 ∧
    (∀ w, Calls Tryd.prog 27 #[.int .i64 en, .string s] w fun e w' => ∃ v1 v2, e = .returned (.tuple #[v1, v2, .bool ok]) ∧ Two w.heap.size w' v1 L1 v2 L2 ∧ Below w.heap.size w w') ∧
    (∀ w, Tabs w → Calls Tryd.prog 25 #[.int .i64 en, .string s] w fun e w' => ∃ v1 v2, e = .returned (.tuple #[v1, v2, .bool ok]) ∧ Two w.heap.size w' v1 L1 v2 L2 ∧ Below w.heap.size w w') := by
  cases hc : codeB en
  · exact ⟨false, [], [], by simp, by simp, (fun w => (decA_bad en s w hc).mono fun e w' ⟨he, hw⟩ => ⟨_, _, he, Two.nil _ _, by rw [hw]; exact Below.refl _ _⟩), (fun w hT => (idecA_no en s w hT hc).mono fun e w' ⟨he, hw⟩ => ⟨_, _, he, Two.nil _ _, hw⟩)⟩
  · by_cases hs : s.size ≤ 1000
    · have h := feedD_sizes en 0 0 ⟨#[]⟩ s hs (Nat.zero_le _)
      have hl := flushN_len (unitsB en) (feedD en 0 0 ⟨#[]⟩ s).held.size (feedD en 0 0 ⟨#[]⟩ s).held.size
      exact ⟨true, decRs en s, decLs en s, (by unfold decRs; rw [List.length_append, bads_len]; omega), (by unfold decLs; rw [List.length_append]; omega), (fun w => decA_yes en s w hc hs), (fun w hT => idecA_yes en s w hT hc hs)⟩
    · exact ⟨false, [], [], by simp, by simp, (fun w => (decA_long en s w hc hs).mono fun e w' ⟨he, hw⟩ => ⟨_, _, he, Two.nil _ _, by rw [hw]; exact Below.refl _ _⟩), (fun w hT => (idecA_long en s w hT hc hs).mono fun e w' ⟨he, hw⟩ => ⟨_, _, he, Two.nil _ _, hw⟩)⟩
/-- Both NewDecoders tell the same. -/
theorem new_both (en : Int) : ∃ (ok : Bool) (e1 : Int),
    (∀ w, Calls Tryd.prog 33 #[.int .i64 en] w fun e w' => e = .returned (.tuple #[decV e1 0 0 ⟨#[]⟩, .bool ok]) ∧ Below w.heap.size w w') ∧
    (∀ w, Calls Tryd.prog 32 #[.int .i64 en] w fun e w' => e = .returned (.tuple #[decV e1 0 0 ⟨#[]⟩, .bool ok]) ∧ Below w.heap.size w w') := by
  cases hc : codeB en
  · exact ⟨false, 0, fun w => new_no en w hc, fun w => inew_no en w hc⟩
  · exact ⟨true, en, fun w => new_yes en w hc, fun w => inew_yes en w hc⟩
end Go.Proofs.YtjnnikbgpjiecaaDoor
