/-
  Plain facts on texts that begin a rune and do not end it.
-/
import Derived.Test.YtklgagonbehpeaaDoorDec
namespace Go.Proofs.YtklgagonbehpeaaDoor
open Go
theorem byt_list (s : ByteArray) (j : Nat) (h : j < s.size) : s.data.toList[j]? = some s[j] := by
  rw [List.getElem?_eq_getElem (by simpa using h)]; rfl
theorem byt_of {s : ByteArray} {j : Nat} {b : UInt8} (h : s.data.toList[j]? = some b) : byt s j = (b.toNat : Int) := by
  have hj : j < s.size := by
    have := (List.getElem?_eq_some_iff.1 h).1
    simpa using this
  rw [byt_list s j hj] at h
  rw [byt_eq hj, Option.some.inj h]
theorem byt_nums {xs : List Int} {j : Nat} {x : Int} (h : xs[j]? = some x) (h0 : 0 ≤ x) (h1 : x ≤ 255) : byt (strOfNums xs) j = x := by
  have : (strOfNums xs).data.toList[j]? = some (UInt8.ofNat x.toNat) := by
    rw [strOfNums_data, List.getElem?_map, h]; rfl
  rw [byt_of this]
  exact ((ofNat_eq h0 h1 _).1 rfl).symm
theorem byt_app_l (s t : ByteArray) (j : Nat) (h : j < s.size) : byt (s ++ t) j = byt s j := by
  have e : (s ++ t).data.toList[j]? = some s[j] := by
    rw [ByteArray.data_append, Array.toList_append, List.getElem?_append_left (by simpa using h)]; exact byt_list s j h
  rw [byt_of e, byt_eq h]
theorem byt_app_r (s t : ByteArray) (j : Nat) (h : j < t.size) : byt (s ++ t) (s.size + j) = byt t j := by
  have e : (s ++ t).data.toList[s.size + j]? = some t[j] := by
    rw [ByteArray.data_append, Array.toList_append, List.getElem?_append_right (by simp)]
    have : s.size + j - s.data.toList.length = j := by simp
    rw [this]; exact byt_list t j h
  rw [byt_of e, byt_eq h]
/-- A text begins another one just where it is no longer and each of its bytes is the other's. -/
def prefB (s p : ByteArray) : Bool := decide (p.size ≤ s.size) && ((s.extract 0 p.size).toList == p.toList)
theorem pref_bytes (t s : ByteArray) : prefB t s = true ↔ s.size ≤ t.size ∧ ∀ j, j < s.size → byt t j = byt s j := by
  unfold prefB
  rw [Bool.and_eq_true, decide_eq_true_eq, beq_iff_eq, Lib.extract_toList, Lib.toList_data]
  simp only [List.drop_zero, Nat.sub_zero]
  constructor
  · rintro ⟨h1, h2⟩
    refine ⟨h1, fun j hj => ?_⟩
    have h3 := congrArg (fun l : List UInt8 => l[j]?) h2
    simp only [List.getElem?_take, hj, if_true] at h3
    rw [byt_list s j hj] at h3
    rw [byt_of h3, byt_eq hj]
  · rintro ⟨h1, h2⟩
    refine ⟨h1, List.ext_getElem? fun j => ?_⟩
    rw [List.getElem?_take]
    split
    · rename_i hj
      have h3 := h2 j hj
      rw [byt_eq hj, byt_eq (by omega : j < t.size)] at h3
      rw [byt_list s j hj, byt_list t j (by omega)]
      congr 1
      apply UInt8.toNat_inj.1
      omega
    · rename_i hj
      rw [List.getElem?_eq_none (by simpa using hj)]
/-- What it is to be begun, by the bytes. -/
def BegP (m : Nat) (b0 b1 b2 : Int) : Prop :=
  (m = 1 ∧ 194 ≤ b0 ∧ b0 ≤ 244) ∨
  (m = 2 ∧ 128 ≤ b1 ∧ b1 ≤ 191 ∧ 224 ≤ b0 ∧ b0 ≤ 244 ∧ (b0 = 224 → 160 ≤ b1) ∧ (b0 = 237 → b1 < 160) ∧ (b0 = 240 → 144 ≤ b1) ∧ (b0 = 244 → b1 < 144)) ∨
  (m = 3 ∧ 128 ≤ b1 ∧ b1 ≤ 191 ∧ 128 ≤ b2 ∧ b2 ≤ 191 ∧ 240 ≤ b0 ∧ b0 ≤ 244 ∧ (b0 = 240 → 144 ≤ b1) ∧ (b0 = 244 → b1 < 144))
/-- A text of three bytes at most, and as many of the byte k as are wanted behind it. -/
def padT (s : ByteArray) (k : Int) : Nat → ByteArray
  | 0 => s
  | n + 1 => padT s k n ++ strOfNums [k]
theorem padT_size (s : ByteArray) (k : Int) : ∀ n, (padT s k n).size = s.size + n
  | 0 => rfl
  | n + 1 => by
    have e : (strOfNums [k]).size = 1 := strOfNums_size [k]
    show (padT s k n ++ strOfNums [k]).size = _
    rw [ByteArray.size_append, padT_size s k n, e]; omega
theorem padT_l (s : ByteArray) (k : Int) (j : Nat) (h : j < s.size) : ∀ n, byt (padT s k n) j = byt s j
  | 0 => rfl
  | n + 1 => by
    show byt (padT s k n ++ strOfNums [k]) j = _
    rw [byt_app_l _ _ _ (by rw [padT_size]; omega), padT_l s k j h n]
theorem padT_r (s : ByteArray) (k : Int) (h0 : 0 ≤ k) (h1 : k ≤ 255) (j : Nat) : ∀ n, j < n → byt (padT s k n) (s.size + j) = k
  | 0, h => absurd h (by omega)
  | n + 1, h => by
    show byt (padT s k n ++ strOfNums [k]) (s.size + j) = k
    by_cases hj : j = n
    · subst hj
      have e := byt_app_r (padT s k j) (strOfNums [k]) 0 (by rw [strOfNums_size]; exact Nat.zero_lt_one)
      rw [padT_size, Nat.add_zero] at e
      rw [e]
      exact byt_nums (xs := [k]) rfl h0 h1
    · rw [byt_app_l _ _ _ (by rw [padT_size]; omega)]
      exact padT_r s k h0 h1 j n (by omega)
/-- The text with that byte behind it, as long as its first byte says, is a rune's. -/
def hitP (s : ByteArray) (n : Nat) (k : Int) : Prop := 1 < decW (padT s k n) 0
theorem hit_enc {s : ByteArray} {n : Nat} {k : Int} (hz : 0 < s.size + n) : hitP s n k ↔ ∃ r w, Enc (padT s k n) 0 r w ∧ 1 < w := by
  unfold hitP
  constructor
  · intro h
    rcases decode_dec (padT s k n) 0 (by rw [padT_size]; omega) with h1 | ⟨_, h1, _⟩
    · exact ⟨_, _, h1, h⟩
    · omega
  · rintro ⟨r, w, hE, hw⟩
    have := (dec_is (by rw [padT_size]; omega) (.inl hE)).2
    omega
theorem hit_beg (s : ByteArray) (m n : Nat) (L : Int) (k : Int) (hm : s.size = m) (h1 : 1 ≤ m) (h3 : m ≤ 3) (hn : 1 ≤ n) (hL : ((m + n : Nat) : Int) = L)
    (h2 : (L = 2 ∧ 192 ≤ byt s 0 ∧ byt s 0 < 224) ∨ (L = 3 ∧ 224 ≤ byt s 0 ∧ byt s 0 < 240) ∨ (L = 4 ∧ 240 ≤ byt s 0 ∧ byt s 0 < 248)) (k0 : 128 ≤ k) (k1 : k < 192)
    (h : hitP s n k) : BegP m (byt s 0) (byt s 1) (byt s 2) := by
  obtain ⟨r, w, ⟨g, hw, hh⟩, h1w⟩ := (hit_enc (by omega)).1 h
  have hg := goodB_true g
  have e0 := padT_l s k 0 (by omega) n
  have hr := padT_r s k (by omega) (by omega)
  rw [padT_size] at hw
  unfold BegP
  simp only [Nat.zero_add] at hh
  rcases (by omega : m = 1 ∨ m = 2 ∨ m = 3) with rfl | rfl | rfl
  · rcases (by omega : n = 1 ∨ n = 2 ∨ n = 3) with rfl | rfl | rfl
    all_goals omega
  · have e1 := padT_l s k 1 (by omega) n
    rcases (by omega : n = 1 ∨ n = 2) with rfl | rfl
    all_goals omega
  · have e1 := padT_l s k 1 (by omega) n
    have e2 := padT_l s k 2 (by omega) n
    obtain rfl : n = 1 := by omega
    omega
theorem beg_hit (s : ByteArray) (m n : Nat) (L : Int) (hm : s.size = m) (h1 : 1 ≤ m) (h3 : m ≤ 3) (hn : 1 ≤ n) (hL : ((m + n : Nat) : Int) = L)
    (h2 : (L = 2 ∧ 192 ≤ byt s 0 ∧ byt s 0 < 224) ∨ (L = 3 ∧ 224 ≤ byt s 0 ∧ byt s 0 < 240) ∨ (L = 4 ∧ 240 ≤ byt s 0 ∧ byt s 0 < 248))
    (h : BegP m (byt s 0) (byt s 1) (byt s 2)) : ∃ k : Nat, 128 ≤ k ∧ k < 192 ∧ hitP s n k := by
  unfold BegP at h
  have l0 : ∀ k : Int, byt (padT s k n) 0 = byt s 0 := fun k => padT_l s k 0 (by omega) n
  rcases h2 with ⟨rfl, h2, h2'⟩ | ⟨rfl, h2, h2'⟩ | ⟨rfl, h2, h2'⟩
  · obtain rfl : m = 1 := by omega
    obtain rfl : n = 1 := by omega
    have hr := padT_r s 128 (by omega) (by omega) 0 1 (by omega)
    rw [hm] at hr
    refine ⟨128, by omega, by omega, (hit_enc (by omega)).2 ⟨(byt s 0 - 192) * 64, 2, ⟨goodB_mk (by omega), by rw [padT_size]; omega, .inr (.inl ⟨rfl, by omega, by omega, ?_, ?_⟩)⟩, by omega⟩⟩
    · rw [l0]; omega
    · show byt (padT s 128 1) 1 = _; rw [hr]; omega
  · rcases (by omega : m = 1 ∨ m = 2) with rfl | rfl
    · obtain rfl : n = 2 := by omega
      obtain ⟨k, hk0, hk1, hk2⟩ : ∃ k : Nat, 128 ≤ k ∧ k < 192 ∧ ((byt s 0 = 224 ∧ k = 160) ∨ (byt s 0 ≠ 224 ∧ k = 128)) := by
        by_cases e : byt s 0 = 224
        · exact ⟨160, by omega, by omega, .inl ⟨e, rfl⟩⟩
        · exact ⟨128, by omega, by omega, .inr ⟨e, rfl⟩⟩
      have r0 := padT_r s k (by omega) (by omega) 0 2 (by omega)
      have r1 := padT_r s k (by omega) (by omega) 1 2 (by omega)
      rw [hm] at r0 r1
      refine ⟨k, hk0, hk1, (hit_enc (by omega)).2 ⟨(byt s 0 - 224) * 4096 + (k - 128) * 64 + (k - 128), 3, ⟨goodB_mk (by omega), by rw [padT_size]; omega, .inr (.inr (.inl ⟨rfl, by omega, by omega, ?_, ?_, ?_⟩))⟩, by omega⟩⟩
      · rw [l0]; omega
      · show byt (padT s k 2) 1 = _; rw [r0]; omega
      · show byt (padT s k 2) 2 = _; rw [r1]; omega
    · obtain rfl : n = 1 := by omega
      have r0 := padT_r s 128 (by omega) (by omega) 0 1 (by omega)
      have l1 := padT_l s 128 1 (by omega) 1
      rw [hm] at r0
      refine ⟨128, by omega, by omega, (hit_enc (by omega)).2 ⟨(byt s 0 - 224) * 4096 + (byt s 1 - 128) * 64, 3, ⟨goodB_mk (by omega), by rw [padT_size]; omega, .inr (.inr (.inl ⟨rfl, by omega, by omega, ?_, ?_, ?_⟩))⟩, by omega⟩⟩
      · rw [l0]; omega
      · show byt (padT s 128 1) 1 = _; rw [l1]; omega
      · show byt (padT s 128 1) 2 = _; rw [r0]; omega
  · rcases (by omega : m = 1 ∨ m = 2 ∨ m = 3) with rfl | rfl | rfl
    · obtain rfl : n = 3 := by omega
      obtain ⟨k, hk0, hk1, hk2⟩ : ∃ k : Nat, 128 ≤ k ∧ k < 192 ∧ ((byt s 0 = 240 ∧ k = 144) ∨ (byt s 0 ≠ 240 ∧ k = 128)) := by
        by_cases e : byt s 0 = 240
        · exact ⟨144, by omega, by omega, .inl ⟨e, rfl⟩⟩
        · exact ⟨128, by omega, by omega, .inr ⟨e, rfl⟩⟩
      have r0 := padT_r s k (by omega) (by omega) 0 3 (by omega)
      have r1 := padT_r s k (by omega) (by omega) 1 3 (by omega)
      have r2 := padT_r s k (by omega) (by omega) 2 3 (by omega)
      rw [hm] at r0 r1 r2
      refine ⟨k, hk0, hk1, (hit_enc (by omega)).2 ⟨(byt s 0 - 240) * 262144 + (k - 128) * 4096 + (k - 128) * 64 + (k - 128), 4, ⟨goodB_mk (by omega), by rw [padT_size]; omega, .inr (.inr (.inr ⟨rfl, by omega, ?_, ?_, ?_, ?_⟩))⟩, by omega⟩⟩
      · rw [l0]; omega
      · show byt (padT s k 3) 1 = _; rw [r0]; omega
      · show byt (padT s k 3) 2 = _; rw [r1]; omega
      · show byt (padT s k 3) 3 = _; rw [r2]; omega
    · obtain rfl : n = 2 := by omega
      have r0 := padT_r s 128 (by omega) (by omega) 0 2 (by omega)
      have r1 := padT_r s 128 (by omega) (by omega) 1 2 (by omega)
      have l1 := padT_l s 128 1 (by omega) 2
      rw [hm] at r0 r1
      refine ⟨128, by omega, by omega, (hit_enc (by omega)).2 ⟨(byt s 0 - 240) * 262144 + (byt s 1 - 128) * 4096, 4, ⟨goodB_mk (by omega), by rw [padT_size]; omega, .inr (.inr (.inr ⟨rfl, by omega, ?_, ?_, ?_, ?_⟩))⟩, by omega⟩⟩
      · rw [l0]; omega
      · show byt (padT s 128 2) 1 = _; rw [l1]; omega
      · show byt (padT s 128 2) 2 = _; rw [r0]; omega
      · show byt (padT s 128 2) 3 = _; rw [r1]; omega
    · obtain rfl : n = 1 := by omega
      have r0 := padT_r s 128 (by omega) (by omega) 0 1 (by omega)
      have l1 := padT_l s 128 1 (by omega) 1
      have l2 := padT_l s 128 2 (by omega) 1
      rw [hm] at r0
      refine ⟨128, by omega, by omega, (hit_enc (by omega)).2 ⟨(byt s 0 - 240) * 262144 + (byt s 1 - 128) * 4096 + (byt s 2 - 128) * 64, 4, ⟨goodB_mk (by omega), by rw [padT_size]; omega, .inr (.inr (.inr ⟨rfl, by omega, ?_, ?_, ?_, ?_⟩))⟩, by omega⟩⟩
      · rw [l0]; omega
      · show byt (padT s 128 1) 1 = _; rw [l1]; omega
      · show byt (padT s 128 1) 2 = _; rw [l2]; omega
      · show byt (padT s 128 1) 3 = _; rw [r0]; omega
end Go.Proofs.YtklgagonbehpeaaDoor
