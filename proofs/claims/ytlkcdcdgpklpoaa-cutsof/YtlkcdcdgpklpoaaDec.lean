/-
  Plain facts on UTF-8: where the bytes of a rune stand in a text, that they tell the rune, and that the model's own reading of a text (which ranging over a text does) tells just that.
-/
import Derived.Test.YtlkcdcdgpklpoaaPure
import Derived.Lib.Strings
namespace Go.Proofs.Ytlkcdcdgpklpoaa
open Go
def byt (s : ByteArray) (k : Nat) : Int := ((s.get! k).toNat : Int)
theorem get!_eq (s : ByteArray) (k : Nat) (h : k < s.size) : s.get! k = s[k] := by
  have h' : k < s.data.size := h
  simp only [ByteArray.get!, ByteArray.getElem_eq_getElem_data]
  exact getElem!_pos s.data k h'
theorem byt_eq {s : ByteArray} {k : Nat} (h : k < s.size) : byt s k = (s[k].toNat : Int) := by unfold byt; rw [get!_eq s k h]
theorem byt_bd (s : ByteArray) (k : Nat) : 0 ≤ byt s k ∧ byt s k ≤ 255 := by
  have := (s.get! k).toNat_lt
  unfold byt; omega
/-- The bytes of the rune r stand at place i of s; there are w of them. -/
def Enc (s : ByteArray) (i : Nat) (r : Int) (w : Nat) : Prop :=
  goodB r = true ∧ i + w ≤ s.size ∧
    ((w = 1 ∧ r < 128 ∧ byt s i = r) ∨
     (w = 2 ∧ 128 ≤ r ∧ r < 2048 ∧ byt s i = 192 + r / 64 ∧ byt s (i + 1) = 128 + r % 64) ∨
     (w = 3 ∧ 2048 ≤ r ∧ r < 65536 ∧ byt s i = 224 + r / 4096 ∧ byt s (i + 1) = 128 + r / 64 % 64 ∧ byt s (i + 2) = 128 + r % 64) ∨
     (w = 4 ∧ 65536 ≤ r ∧ byt s i = 240 + r / 262144 ∧ byt s (i + 1) = 128 + r / 4096 % 64 ∧ byt s (i + 2) = 128 + r / 64 % 64 ∧ byt s (i + 3) = 128 + r % 64))
theorem Enc.uniq {s : ByteArray} {i : Nat} {r r' : Int} {w w' : Nat} (h : Enc s i r w) (h' : Enc s i r' w') : r = r' ∧ w = w' := by
  obtain ⟨g, _, h⟩ := h
  obtain ⟨g', _, h'⟩ := h'
  have := goodB_true g
  have := goodB_true g'
  omega
theorem Enc.pos {s : ByteArray} {i : Nat} {r : Int} {w : Nat} (h : Enc s i r w) : 1 ≤ w ∧ w ≤ 4 ∧ i + w ≤ s.size := by
  obtain ⟨_, h1, h⟩ := h
  omega
def Dec (s : ByteArray) (i : Nat) (r : Int) (w : Nat) : Prop := Enc s i r w ∨ (r = 65533 ∧ w = 1 ∧ ∀ r' w', ¬ Enc s i r' w')
theorem Dec.uniq {s : ByteArray} {i : Nat} {r r' : Int} {w w' : Nat} (h : Dec s i r w) (h' : Dec s i r' w') : r = r' ∧ w = w' := by
  rcases h with h | ⟨rfl, rfl, h⟩ <;> rcases h' with h' | ⟨rfl, rfl, h'⟩
  · exact h.uniq h'
  · exact absurd h (h' _ _)
  · exact absurd h' (h _ _)
  · exact ⟨rfl, rfl⟩
def decR (s : ByteArray) (i : Nat) : Int := ((Utf8.decode s i).1 : Int)
def decW (s : ByteArray) (i : Nat) : Nat := (Utf8.decode s i).2
theorem valid_good (c : Nat) : Utf8.valid (c : Int) = goodB c := by
  unfold Utf8.valid goodB
  rw [Bool.eq_iff_iff]
  simp
  omega
def dec4 (b0 b1 b2 b3 : Nat) (c1 c2 c3 : Bool) : Nat × Nat :=
  if b0 < 128 then (b0, 1)
  else if b0 / 32 == 6 && (c1 && b1 / 64 == 2) then
    if b0 % 32 * 64 + b1 % 64 ≥ 128 then (b0 % 32 * 64 + b1 % 64, 2) else (Utf8.runeError, 1)
  else if b0 / 16 == 14 && (c1 && b1 / 64 == 2) && (c2 && b2 / 64 == 2) then
    if b0 % 16 * 4096 + b1 % 64 * 64 + b2 % 64 ≥ 2048 && Utf8.valid ((b0 % 16 * 4096 + b1 % 64 * 64 + b2 % 64 : Nat) : Int) then (b0 % 16 * 4096 + b1 % 64 * 64 + b2 % 64, 3) else (Utf8.runeError, 1)
  else if b0 / 8 == 30 && (c1 && b1 / 64 == 2) && (c2 && b2 / 64 == 2) && (c3 && b3 / 64 == 2) then
    if b0 % 8 * 262144 + b1 % 64 * 4096 + b2 % 64 * 64 + b3 % 64 ≥ 65536 && Utf8.valid ((b0 % 8 * 262144 + b1 % 64 * 4096 + b2 % 64 * 64 + b3 % 64 : Nat) : Int) then (b0 % 8 * 262144 + b1 % 64 * 4096 + b2 % 64 * 64 + b3 % 64, 4) else (Utf8.runeError, 1)
  else (Utf8.runeError, 1)
theorem decode_eq4 (s : ByteArray) (i : Nat) : Utf8.decode s i = dec4 (s.get! (i + 0)).toNat (s.get! (i + 1)).toNat (s.get! (i + 2)).toNat (s.get! (i + 3)).toNat (decide (i + 1 < s.size)) (decide (i + 2 < s.size)) (decide (i + 3 < s.size)) := by
  simp only [Utf8.decode, dec4]
theorem dec4_dec (s : ByteArray) (i : Nat) (h : i < s.size) (b0 b1 b2 b3 : Nat) (e0 : (b0 : Int) = byt s i) (e1 : (b1 : Int) = byt s (i + 1)) (e2 : (b2 : Int) = byt s (i + 2)) (e3 : (b3 : Int) = byt s (i + 3)) :
    Dec s i (((dec4 b0 b1 b2 b3 (decide (i + 1 < s.size)) (decide (i + 2 < s.size)) (decide (i + 3 < s.size))).1 : Nat) : Int) (dec4 b0 b1 b2 b3 (decide (i + 1 < s.size)) (decide (i + 2 < s.size)) (decide (i + 3 < s.size))).2 := by
  have q1 := byt_bd s (i + 1)
  have q2 := byt_bd s (i + 2)
  have q3 := byt_bd s (i + 3)
  have q0 := byt_bd s i
  unfold dec4
  simp only [valid_good]
  have bad : (∀ r' w', ¬ Enc s i r' w') → Dec s i ((Utf8.runeError : Nat) : Int) 1 := fun hn => .inr ⟨rfl, rfl, hn⟩
  split
  · exact .inl ⟨goodB_mk (by omega), by omega, .inl ⟨rfl, by omega, by omega⟩⟩
  · rename_i h1
    split
    · rename_i h2
      simp only [Bool.and_eq_true, beq_iff_eq, decide_eq_true_eq] at h2
      split
      · rename_i h3
        exact .inl ⟨goodB_mk (by omega), by omega, .inr (.inl ⟨rfl, by omega, by omega, by omega, by omega⟩)⟩
      · refine bad fun r' w' ⟨g, hw, hh⟩ => ?_
        have := goodB_true g
        omega
    · rename_i h2
      simp only [Bool.and_eq_true, beq_iff_eq, decide_eq_true_eq] at h2
      split
      · rename_i h3
        simp only [Bool.and_eq_true, beq_iff_eq, decide_eq_true_eq] at h3
        split
        · rename_i h4
          simp only [Bool.and_eq_true, decide_eq_true_eq] at h4
          exact .inl ⟨h4.2, by omega, .inr (.inr (.inl ⟨rfl, by omega, by omega, by omega, by omega, by omega⟩))⟩
        · rename_i h4
          simp only [Bool.and_eq_true, decide_eq_true_eq, not_and] at h4
          refine bad fun r' w' ⟨g, hw, hh⟩ => ?_
          have hg := goodB_true g
          have key : r' = ((b0 % 16 * 4096 + b1 % 64 * 64 + b2 % 64 : Nat) : Int) := by omega
          rw [key] at g
          exact h4 (by omega) g
      · rename_i h3
        simp only [Bool.and_eq_true, beq_iff_eq, decide_eq_true_eq] at h3
        split
        · rename_i h4
          simp only [Bool.and_eq_true, beq_iff_eq, decide_eq_true_eq] at h4
          split
          · rename_i h5
            simp only [Bool.and_eq_true, decide_eq_true_eq] at h5
            exact .inl ⟨h5.2, by omega, .inr (.inr (.inr ⟨rfl, by omega, by omega, by omega, by omega, by omega⟩))⟩
          · rename_i h5
            simp only [Bool.and_eq_true, decide_eq_true_eq, not_and] at h5
            refine bad fun r' w' ⟨g, hw, hh⟩ => ?_
            have hg := goodB_true g
            have key : r' = ((b0 % 8 * 262144 + b1 % 64 * 4096 + b2 % 64 * 64 + b3 % 64 : Nat) : Int) := by omega
            rw [key] at g
            exact h5 (by omega) g
        · rename_i h4
          simp only [Bool.and_eq_true, beq_iff_eq, decide_eq_true_eq] at h4
          refine bad fun r' w' ⟨g, hw, hh⟩ => ?_
          have hg := goodB_true g
          omega
/-- What the model reads at a place of a text. -/
theorem decode_dec (s : ByteArray) (i : Nat) (h : i < s.size) : Dec s i (decR s i) (decW s i) := by
  unfold decR decW
  rw [decode_eq4]
  exact dec4_dec s i h _ _ _ _ rfl rfl rfl rfl
theorem dec_is {s : ByteArray} {i : Nat} (h : i < s.size) {r : Int} {w : Nat} (hd : Dec s i r w) : r = decR s i ∧ w = decW s i := hd.uniq (decode_dec s i h)
theorem decW_pos (s : ByteArray) (i : Nat) (h : i < s.size) : 1 ≤ decW s i ∧ decW s i ≤ 4 ∧ i + decW s i ≤ s.size := by
  rcases decode_dec s i h with h1 | ⟨_, h1, _⟩
  · exact h1.pos
  · omega
theorem decR_good (s : ByteArray) (i : Nat) (h : i < s.size) : goodB (decR s i) = true := by
  rcases decode_dec s i h with h1 | ⟨h1, _, _⟩
  · exact h1.1
  · rw [h1]; rfl
/-- Bytes as numbers. -/
theorem ofNat_eq {n : Int} (h0 : 0 ≤ n) (h1 : n ≤ 255) (b : UInt8) : UInt8.ofNat n.toNat = b ↔ n = (b.toNat : Int) := by
  rw [← UInt8.toNat_inj]
  simp only [UInt8.toNat_ofNat']
  have := b.toNat_lt
  omega
theorem encS_list (r : Int) : (encS r).toList = (encN r).map fun n => UInt8.ofNat n.toNat := by
  rw [Lib.toList_data]; exact strOfNums_data _
theorem drop_cons (s : ByteArray) (i : Nat) (h : i < s.size) : s.data.toList.drop i = s[i] :: s.data.toList.drop (i + 1) := by
  have h' : i < s.data.toList.length := by simpa using h
  rw [List.drop_eq_getElem_cons h']
  rfl
theorem ext_1 (s : ByteArray) (i : Nat) (h : i < s.size) : (s.extract i (i + 1)).toList = [s[i]] := by
  rw [Lib.extract_toList, drop_cons s i h]; simp
theorem ext_2 (s : ByteArray) (i : Nat) (h : i + 1 < s.size) : (s.extract i (i + 2)).toList = [s[i], s[i + 1]] := by
  rw [Lib.extract_toList, drop_cons s i (by omega), drop_cons s (i + 1) h]; simp
theorem ext_3 (s : ByteArray) (i : Nat) (h : i + 2 < s.size) : (s.extract i (i + 3)).toList = [s[i], s[i + 1], s[i + 2]] := by
  rw [Lib.extract_toList, drop_cons s i (by omega), drop_cons s (i + 1) (by omega), drop_cons s (i + 2) h]; simp
theorem ext_4 (s : ByteArray) (i : Nat) (h : i + 3 < s.size) : (s.extract i (i + 4)).toList = [s[i], s[i + 1], s[i + 2], s[i + 3]] := by
  rw [Lib.extract_toList, drop_cons s i (by omega), drop_cons s (i + 1) (by omega), drop_cons s (i + 2) (by omega), drop_cons s (i + 3) h]; simp
/-- The bytes of r stand at i just where the text's piece there, as long as they are, is their text. -/
theorem enc_iff (s : ByteArray) (i : Nat) (r : Int) (hg : goodB r = true) (w : Nat) (hw : i + w ≤ s.size) : Enc s i r w ↔ (encS r).toList = (s.extract i (i + w)).toList := by
  have hgr := goodB_true hg
  have hlen : (s.extract i (i + w)).toList.length = w := by
    rw [Lib.extract_toList]; simp; have : s.data.size = s.size := rfl; omega
  rw [encS_list]
  constructor
  · rintro ⟨_, _, ⟨rfl, h1, h2⟩ | ⟨rfl, h1, h2, h3, h4⟩ | ⟨rfl, h1, h2, h3, h4, h5⟩ | ⟨rfl, h1, h2, h3, h4, h5⟩⟩
    · rw [encN_1 h1, ext_1 s i (by omega)]
      rw [byt_eq (by omega)] at h2
      simp only [List.map_cons, List.map_nil, List.cons.injEq, and_true]
      exact (ofNat_eq (by omega) (by omega) _).2 h2.symm
    · rw [encN_2 h1 h2, ext_2 s i (by omega)]
      rw [byt_eq (by omega)] at h3 h4
      simp only [List.map_cons, List.map_nil, List.cons.injEq, and_true]
      exact ⟨(ofNat_eq (by omega) (by omega) _).2 h3.symm, (ofNat_eq (by omega) (by omega) _).2 h4.symm⟩
    · rw [encN_3 h1 h2, ext_3 s i (by omega)]
      rw [byt_eq (by omega)] at h3 h4 h5
      simp only [List.map_cons, List.map_nil, List.cons.injEq, and_true]
      exact ⟨(ofNat_eq (by omega) (by omega) _).2 h3.symm, (ofNat_eq (by omega) (by omega) _).2 h4.symm, (ofNat_eq (by omega) (by omega) _).2 h5.symm⟩
    · rw [encN_4 h1, ext_4 s i (by omega)]
      rw [byt_eq (by omega)] at h2 h3 h4 h5
      simp only [List.map_cons, List.map_nil, List.cons.injEq, and_true]
      exact ⟨(ofNat_eq (by omega) (by omega) _).2 h2.symm, (ofNat_eq (by omega) (by omega) _).2 h3.symm, (ofNat_eq (by omega) (by omega) _).2 h4.symm, (ofNat_eq (by omega) (by omega) _).2 h5.symm⟩
  · intro h
    have hl := congrArg List.length h
    rw [hlen, List.length_map] at hl
    refine ⟨hg, hw, ?_⟩
    rcases (by omega : r < 128 ∨ (128 ≤ r ∧ r < 2048) ∨ (2048 ≤ r ∧ r < 65536) ∨ 65536 ≤ r) with h1 | ⟨h1, h2⟩ | ⟨h1, h2⟩ | h1
    · rw [encN_1 h1] at hl h
      obtain rfl : w = 1 := by simpa using hl.symm
      rw [ext_1 s i (by omega)] at h
      simp only [List.map_cons, List.map_nil, List.cons.injEq, and_true] at h
      rw [byt_eq (by omega)]
      exact .inl ⟨rfl, h1, ((ofNat_eq (by omega) (by omega) _).1 h).symm⟩
    · rw [encN_2 h1 h2] at hl h
      obtain rfl : w = 2 := by simpa using hl.symm
      rw [ext_2 s i (by omega)] at h
      simp only [List.map_cons, List.map_nil, List.cons.injEq, and_true] at h
      rw [byt_eq (by omega), byt_eq (by omega)]
      exact .inr (.inl ⟨rfl, h1, h2, ((ofNat_eq (by omega) (by omega) _).1 h.1).symm, ((ofNat_eq (by omega) (by omega) _).1 h.2).symm⟩)
    · rw [encN_3 h1 h2] at hl h
      obtain rfl : w = 3 := by simpa using hl.symm
      rw [ext_3 s i (by omega)] at h
      simp only [List.map_cons, List.map_nil, List.cons.injEq, and_true] at h
      rw [byt_eq (by omega), byt_eq (by omega), byt_eq (by omega)]
      exact .inr (.inr (.inl ⟨rfl, h1, h2, ((ofNat_eq (by omega) (by omega) _).1 h.1).symm, ((ofNat_eq (by omega) (by omega) _).1 h.2.1).symm, ((ofNat_eq (by omega) (by omega) _).1 h.2.2).symm⟩))
    · rw [encN_4 h1] at hl h
      obtain rfl : w = 4 := by simpa using hl.symm
      rw [ext_4 s i (by omega)] at h
      simp only [List.map_cons, List.map_nil, List.cons.injEq, and_true] at h
      rw [byt_eq (by omega), byt_eq (by omega), byt_eq (by omega), byt_eq (by omega)]
      exact .inr (.inr (.inr ⟨rfl, h1, ((ofNat_eq (by omega) (by omega) _).1 h.1).symm, ((ofNat_eq (by omega) (by omega) _).1 h.2.1).symm, ((ofNat_eq (by omega) (by omega) _).1 h.2.2.1).symm, ((ofNat_eq (by omega) (by omega) _).1 h.2.2.2).symm⟩))
end Go.Proofs.Ytlkcdcdgpklpoaa
