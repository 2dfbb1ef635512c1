/-
  Facts for the law on runes and texts: a rune is read back from its bytes between others; the beginning of a rune's bytes is begun and not whole.
-/
import Derived.Test.YtflgdfkcgkibgaaDoorIsBegun
import Derived.Test.YtflgdfkcgkibgaaDoorIsWhole
import Derived.Test.YtflgdfkcgkibgaaDoorRuneAt
import Derived.Test.YtflgdfkcgkibgaaDoorDraw
namespace Go.Proofs.YtflgdfkcgkibgaaDoor
open Go.ChangeShapes Go.WideShapes Go.ChangeAt Go.RowKit
abbrev wrapT (s : ByteArray) : ByteArray := ⟨#[97]⟩ ++ s ++ ⟨#[98]⟩
theorem wrapT_size (s : ByteArray) : (wrapT s).size = s.size + 2 := by
  unfold wrapT
  rw [ByteArray.size_append, ByteArray.size_append]
  have e1 : (ByteArray.mk #[97]).size = 1 := rfl
  have e2 : (ByteArray.mk #[98]).size = 1 := rfl
  omega
theorem wrapT_list (s : ByteArray) : (wrapT s).data.toList = 97 :: (s.data.toList ++ [98]) := by
  simp [wrapT]
/-- A rune is read back from its bytes. -/
theorem read_back (r : Int) (hg : goodB r = true) : decR (wrapT (encS r)) 1 = r ∧ decW (wrapT (encS r)) 1 = (encS r).size := by
  have hz := wrapT_size (encS r)
  have hl : (encS r).data.toList.length = (encS r).size := by simp
  have hE : Enc (wrapT (encS r)) 1 r (encS r).size := by
    refine (enc_iff _ 1 r hg _ (by omega)).2 ?_
    rw [Lib.extract_toList, wrapT_list, Lib.toList_data]
    have e : 1 + (encS r).size - 1 = (encS r).data.toList.length := by omega
    rw [e]
    simp
  have := dec_is (by rw [hz]; omega) (.inl hE)
  exact ⟨this.1.symm, this.2.symm⟩
theorem head_byt (s : ByteArray) (k j : Nat) (hk : k ≤ s.size) (hj : j < k) : byt (s.extract 0 k) j = byt s j := by
  have hs := head_size s k hk
  have h1 : (s.extract 0 k).data.toList[j]? = some s[j] := by
    rw [Lib.extract_data, List.drop_zero, Nat.sub_zero, List.getElem?_take, if_pos hj]
    exact byt_list s j (by omega)
  rw [byt_of h1, byt_eq (by omega)]
/-- The bytes of a rune, by number. -/
theorem enc_byt (r : Int) (hg : goodB r = true) :
    ((encS r).size = 1 ∧ r < 128 ∧ byt (encS r) 0 = r) ∨
    ((encS r).size = 2 ∧ 128 ≤ r ∧ r < 2048 ∧ byt (encS r) 0 = 192 + r / 64) ∨
    ((encS r).size = 3 ∧ 2048 ≤ r ∧ r < 65536 ∧ byt (encS r) 0 = 224 + r / 4096 ∧ byt (encS r) 1 = 128 + r / 64 % 64) ∨
    ((encS r).size = 4 ∧ 65536 ≤ r ∧ byt (encS r) 0 = 240 + r / 262144 ∧ byt (encS r) 1 = 128 + r / 4096 % 64 ∧ byt (encS r) 2 = 128 + r / 64 % 64) := by
  have h := goodB_true hg
  have hE : Enc (encS r) 0 r (encS r).size := by
    refine (enc_iff _ 0 r hg _ (by omega)).2 ?_
    rw [Lib.extract_toList, Lib.toList_data, Nat.zero_add]
    have e : (encS r).size - 0 = (encS r).data.toList.length := by simp
    rw [List.drop_zero, e, List.take_length]
  obtain ⟨_, _, h1⟩ := hE
  simp only [Nat.zero_add] at h1
  omega
theorem part_beg (r : Int) (hg : goodB r = true) (k : Nat) (h1 : 1 ≤ k) (h2 : k < (encS r).size) :
    BegP k (byt ((encS r).extract 0 k) 0) (byt ((encS r).extract 0 k) 1) (byt ((encS r).extract 0 k) 2) := by
  have h := goodB_true hg
  have e0 := head_byt (encS r) k 0 (by omega) (by omega)
  have e1 : 1 < k → byt ((encS r).extract 0 k) 1 = byt (encS r) 1 := fun h => head_byt (encS r) k 1 (by omega) h
  have e2 : 2 < k → byt ((encS r).extract 0 k) 2 = byt (encS r) 2 := fun h => head_byt (encS r) k 2 (by omega) h
  have hb := enc_byt r hg
  unfold BegP
  rcases (by omega : k = 1 ∨ k = 2 ∨ k = 3) with rfl | rfl | rfl
  · omega
  · have e1 := e1 (by omega)
    omega
  · have e1 := e1 (by omega)
    have e2 := e2 (by omega)
    omega
theorem part_none (r : Int) (hg : goodB r = true) (k : Nat) (h1 : 1 ≤ k) (h2 : k < (encS r).size) : ∀ r' w', ¬ Enc ((encS r).extract 0 k) 0 r' w' := by
  intro r' w' ⟨g', hw, hh⟩
  have h := goodB_true hg
  have h' := goodB_true g'
  have hz := head_size (encS r) k (by omega)
  have e0 := head_byt (encS r) k 0 (by omega) (by omega)
  have hb := enc_byt r hg
  rw [hz] at hw
  omega
/-- A text at whose front no rune stands is not the text of its runes. -/
theorem not_whole (t : ByteArray) (h0 : 0 < t.size) (hn : ∀ r' w', ¬ Enc t 0 r' w') : ((textS (runes t)).toList == t.toList) = false := by
  rw [beq_eq_false_iff_ne]
  intro he
  have hd := dec_is h0 (.inr ⟨rfl, rfl, hn⟩)
  obtain ⟨f, hf⟩ : ∃ f, t.size = f + 1 := ⟨t.size - 1, by omega⟩
  have hr : runes t = 65533 :: runesFrom t f (0 + 1) := by
    unfold runes
    rw [hf, runesFrom, if_pos h0, ← hd.1, ← hd.2]
  rw [Lib.toList_data, textS_list, hr, textB_cons, Lib.toList_data] at he
  have hp : prefB t (encS 65533) = true := by
    have hlen : (encS 65533).data.toList.length = (encS 65533).size := by simp
    unfold prefB
    rw [Bool.and_eq_true, decide_eq_true_eq, beq_iff_eq]
    constructor
    · have := congrArg List.length he
      rw [List.length_append, hlen] at this
      have ht : t.data.toList.length = t.size := by simp
      omega
    · rw [Lib.extract_toList, Lib.toList_data, ← he, List.drop_zero, Nat.sub_zero, ← hlen]
      simp
  exact hn _ _ ((pref_enc t 65533 rfl).1 hp)
theorem ibeg_yes (s : ByteArray) (w : World) (hT : Tabs w) (h0 : 0 < s.size) (h : BegP s.size (byt s 0) (byt s 1) (byt s 2)) :
    Calls Tryd.prog 16 #[.string s] w fun e w' => e = .returned (.bool true) ∧ Below w.heap.size w w' := by
  have hne : s.toList.isEmpty = false := by
    rw [Lib.toList_data]
    cases hd : s.data.toList with
    | nil =>
      have : s.data.toList.length = s.size := by simp
      rw [hd] at this
      simp at this
      omega
    | cons a l => rfl
  have c0 := byte_le s 0 h0
  have e0 := byt_eq h0
  have go : ∀ (f R : Int), formB (s[0].toNat : Int) = f → (s.size : Int) ≤ f →
      (∀ w, Tabs w → Calls Tryd.prog 39 #[.string s, .int .i64 f] w fun e w' => e = .returned (.int .i64 R) ∧ Below w.heap.size w w') →
      ((goodB R && prefB (encS R) s) = true ↔ BegP s.size (byt s 0) (byt s 1) (byt s 2)) →
      Calls Tryd.prog 16 #[.string s] w fun e w' => e = .returned (.bool true) ∧ Below w.heap.size w w' := fun f R hf hle hR hiff => by
    rw [← hiff.2 h]
    exact LawIsBegun.ibeg_in s w hne h0 f hf hle hT R hR
  have hB := h
  unfold BegP at hB
  rcases (by omega : (192 ≤ (s[0].toNat : Int) ∧ (s[0].toNat : Int) < 224) ∨ (224 ≤ (s[0].toNat : Int) ∧ (s[0].toNat : Int) < 240) ∨ (240 ≤ (s[0].toNat : Int) ∧ (s[0].toNat : Int) < 248)) with ⟨h1, h2⟩ | ⟨h1, h2⟩ | ⟨h1, h2⟩
  · have hform : formB (s[0].toNat : Int) = 1 := by unfold formB; rw [if_neg (by omega), if_pos (by omega)]
    have hm : s.size = 1 := by omega
    refine go 1 (max (((s[0].toNat : Int) - 192) * 64) 128) hform (by omega) (fun w hT => least_11 s w h0 (by omega) h1 hT) ?_
    rw [hm]
    exact imp_11 s hm (by omega) (by omega) _ (by (try rw [e0]); first | done | rfl)
  · have hform : formB (s[0].toNat : Int) = 2 := by unfold formB; rw [if_neg (by omega), if_neg (by omega), if_pos (by omega)]
    rcases (by omega : s.size = 1 ∨ s.size = 2) with hm | hm
    · skip
      refine go 2 (max (((s[0].toNat : Int) - 224) * 64 * 64) 2048) hform (by omega) (fun w hT => least_21 s w h0 (by omega) h1 hT) ?_
      rw [hm]
      exact imp_21 s hm (by omega) (by omega) _ (by (try rw [e0]); first | done | rfl)
    · skip
      have i1 : 1 < s.size := by omega
      have e1 := byt_eq i1
      refine go 2 (max ((((s[0].toNat : Int) - 224) * 64 + (s[1].toNat : Int) % 64) * 64) 2048) hform (by omega) (fun w hT => least_22 s w h0 i1 (by omega) h1 hT) ?_
      rw [hm]
      exact imp_22 s hm (by omega) (by omega) _ (by (try rw [e0, e1]); first | done | rfl)
  · have hform : formB (s[0].toNat : Int) = 3 := by unfold formB; rw [if_neg (by omega), if_neg (by omega), if_neg (by omega)]
    rcases (by omega : s.size = 1 ∨ s.size = 2 ∨ s.size = 3) with hm | hm | hm
    · skip
      refine go 3 (max (((s[0].toNat : Int) - 240) * 64 * 64 * 64) 65536) hform (by omega) (fun w hT => least_31 s w h0 (by omega) h1 hT) ?_
      rw [hm]
      exact imp_31 s hm (by omega) (by omega) _ (by (try rw [e0]); first | done | rfl)
    · skip
      have i1 : 1 < s.size := by omega
      have e1 := byt_eq i1
      refine go 3 (max ((((s[0].toNat : Int) - 240) * 64 + (s[1].toNat : Int) % 64) * 64 * 64) 65536) hform (by omega) (fun w hT => least_32 s w h0 i1 (by omega) h1 hT) ?_
      rw [hm]
      exact imp_32 s hm (by omega) (by omega) _ (by (try rw [e0, e1]); first | done | rfl)
    · skip
      have i1 : 1 < s.size := by omega
      have e1 := byt_eq i1
      have i2 : 2 < s.size := by omega
      have e2 := byt_eq i2
      refine go 3 (max (((((s[0].toNat : Int) - 240) * 64 + (s[1].toNat : Int) % 64) * 64 + (s[2].toNat : Int) % 64) * 64) 65536) hform (by omega) (fun w hT => least_33 s w h0 i1 i2 (by omega) h1 hT) ?_
      rw [hm]
      exact imp_33 s hm (by omega) (by omega) _ (by (try rw [e0, e1, e2]); first | done | rfl)
/-- Texts of few bytes have a text of their runes. -/
theorem small_tB (t : ByteArray) (h : t.size ≤ 26) : tB (runes t) = true := by
  have h1 := runes_len t
  have h2 := (textB_len (runes t)).2
  have h3 : allG (runes t) = true := List.all_eq_true.2 (runes_good t)
  unfold tB
  rw [h3, decide_eq_true (by omega : (runes t).length ≤ 1000), decide_eq_true (by omega : (textB (runes t)).length ≤ 1000)]
  rfl
end Go.Proofs.YtflgdfkcgkibgaaDoor
