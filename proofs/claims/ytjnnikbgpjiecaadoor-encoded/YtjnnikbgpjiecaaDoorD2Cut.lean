/-
  Feeding in two pieces is feeding at once; no program in it.
-/
import Derived.Test.YtjnnikbgpjiecaaDoorD2FeedD
namespace Go.Proofs.YtjnnikbgpjiecaaDoor
open Go
theorem byt_app (p q : ByteArray) (j : Nat) (h : j < p.size) : byt (p ++ q) j = byt p j := byt_app_l p q j h
theorem enc_app_up (p q : ByteArray) (r : Int) (w : Nat) (h : Enc p 0 r w) : Enc (p ++ q) 0 r w := by
  have hp := h.pos
  obtain ⟨g, h1, h2⟩ := h
  refine ⟨g, by rw [ByteArray.size_append]; omega, ?_⟩
  rcases h2 with ⟨rfl, a⟩ | ⟨rfl, a⟩ | ⟨rfl, a⟩ | ⟨rfl, a⟩
  · rw [byt_app p q 0 (by omega)]; exact .inl ⟨rfl, a⟩
  · rw [byt_app p q 0 (by omega), byt_app p q (0 + 1) (by omega)]; exact .inr (.inl ⟨rfl, a⟩)
  · rw [byt_app p q 0 (by omega), byt_app p q (0 + 1) (by omega), byt_app p q (0 + 2) (by omega)]; exact .inr (.inr (.inl ⟨rfl, a⟩))
  · rw [byt_app p q 0 (by omega), byt_app p q (0 + 1) (by omega), byt_app p q (0 + 2) (by omega), byt_app p q (0 + 3) (by omega)]; exact .inr (.inr (.inr ⟨rfl, a⟩))
theorem enc_app_down (p q : ByteArray) (r : Int) (w : Nat) (h0 : 0 < p.size) (hb : begB p = false) (h : Enc (p ++ q) 0 r w) : Enc p 0 r w := by
  have hp := h.pos
  obtain ⟨g, h1, h2⟩ := h
  have hg := goodB_true g
  have hb' : ¬ BegP p.size (byt p 0) (byt p 1) (byt p 2) := fun hh => by rw [(begB_iff p).2 hh] at hb; cases hb
  unfold BegP at hb'
  have e0 := byt_app p q 0 h0
  by_cases hw : w ≤ p.size
  · refine ⟨g, by omega, ?_⟩
    rcases h2 with ⟨rfl, a⟩ | ⟨rfl, a⟩ | ⟨rfl, a⟩ | ⟨rfl, a⟩
    · rw [byt_app p q 0 (by omega)] at a; exact .inl ⟨rfl, a⟩
    · rw [byt_app p q 0 (by omega), byt_app p q (0 + 1) (by omega)] at a; exact .inr (.inl ⟨rfl, a⟩)
    · rw [byt_app p q 0 (by omega), byt_app p q (0 + 1) (by omega), byt_app p q (0 + 2) (by omega)] at a; exact .inr (.inr (.inl ⟨rfl, a⟩))
    · rw [byt_app p q 0 (by omega), byt_app p q (0 + 1) (by omega), byt_app p q (0 + 2) (by omega), byt_app p q (0 + 3) (by omega)] at a; exact .inr (.inr (.inr ⟨rfl, a⟩))
  · exfalso
    simp only [Nat.zero_add] at h2
    rcases (by omega : p.size = 1 ∨ p.size = 2 ∨ p.size = 3) with hs | hs | hs
    · omega
    · have e1 := byt_app p q 1 (by omega)
      omega
    · have e1 := byt_app p q 1 (by omega)
      have e2 := byt_app p q 2 (by omega)
      omega
theorem beg_app (p q : ByteArray) (h0 : 0 < p.size) (hb : begB p = false) : begB (p ++ q) = false := by
  rw [Bool.eq_false_iff]
  intro h
  have hh := (begB_iff (p ++ q)).1 h
  have hb' : ¬ BegP p.size (byt p 0) (byt p 1) (byt p 2) := fun hh => by rw [(begB_iff p).2 hh] at hb; cases hb
  have hz := ByteArray.size_append (a := p) (b := q)
  have e0 := byt_app p q 0 h0
  unfold BegP at hh hb'
  rcases (by omega : p.size = 1 ∨ p.size = 2 ∨ p.size = 3) with hs | hs | hs
  · omega
  · have e1 := byt_app p q 1 (by omega)
    omega
  · have e1 := byt_app p q 1 (by omega)
    have e2 := byt_app p q 2 (by omega)
    omega
theorem dec_app (p q : ByteArray) (h0 : 0 < p.size) (hb : begB p = false) : decR (p ++ q) 0 = decR p 0 ∧ decW (p ++ q) 0 = decW p 0 := by
  have hz := ByteArray.size_append (a := p) (b := q)
  have hd : Dec (p ++ q) 0 (decR p 0) (decW p 0) := by
    rcases decode_dec p 0 h0 with h | ⟨h1, h2, h3⟩
    · exact .inl (enc_app_up p q _ _ h)
    · exact .inr ⟨h1, h2, fun r' w' h => h3 r' w' (enc_app_down p q r' w' h0 hb h)⟩
  have := dec_is (by omega) hd
  exact ⟨this.1.symm, this.2.symm⟩
theorem unit_app (en : Int) (p q : ByteArray) (j : Nat) (h : j + 1 < p.size) : unitN en (p ++ q) j = unitN en p j := by
  unfold unitN
  rw [byt_app p q j (by omega), byt_app p q (j + 1) h]
theorem oneS_app (en : Int) (p q : ByteArray) (h0 : 0 < p.size) (h : (oneS en p).2 ≠ 0) : oneS en (p ++ q) = oneS en p := by
  have hz := ByteArray.size_append (a := p) (b := q)
  unfold oneS at h ⊢
  by_cases h1 : en = 1
  · simp only [h1, if_true] at h ⊢
    cases hb : begB p
    · have hd := dec_app p q h0 hb
      simp [beg_app p q h0 hb, hd.1, hd.2]
    · simp [hb] at h
  · simp only [h1, if_false] at h ⊢
    by_cases h2 : p.size < 2
    · simp [h2] at h
    · have u0 := unit_app en p q 0 (by omega)
      have n2 : ¬ (p ++ q).size < 2 := by omega
      rw [if_neg h2] at h
      rw [if_neg h2, if_neg n2, u0]
      by_cases hl : lowB (unitN en p 0) = true
      · rw [if_pos hl, if_pos hl]
      · rw [if_neg hl] at h
        rw [if_neg hl, if_neg hl]
        by_cases hh : highB (unitN en p 0) = false
        · rw [if_pos hh, if_pos hh]
        · rw [if_neg hh] at h
          rw [if_neg hh, if_neg hh]
          by_cases h4 : p.size < 4
          · rw [if_pos h4] at h; exact absurd rfl h
          · have u2 := unit_app en p q 2 (by omega)
            rw [if_neg h4, if_neg (by omega), u2]
theorem tail_app (p q : ByteArray) (n : Nat) (h : n ≤ p.size) : (p ++ q).extract n (p ++ q).size = p.extract n p.size ++ q := by
  apply ByteArray.ext
  apply Array.ext'
  have e1 : ((p ++ q).extract n (p ++ q).size).data.toList = ((p.data.toList ++ q.data.toList).drop n).take ((p ++ q).size - n) := by rw [Lib.extract_data]; simp
  have e2 : (p.extract n p.size ++ q).data.toList = (p.data.toList.drop n).take (p.size - n) ++ q.data.toList := by rw [ByteArray.data_append, Array.toList_append, Lib.extract_data]
  have l1 : p.data.toList.length = p.size := by simp
  have l2 : q.data.toList.length = q.size := by simp
  rw [e1, e2, List.drop_append_of_le_length (by omega), List.take_of_length_le (by simp [ByteArray.size_append]; omega), List.take_of_length_le (by simp)]
theorem feedU_fuel (en : Int) : ∀ (f g : Nat) (x : ByteArray), x.size ≤ f → x.size ≤ g → feedU en f x = feedU en g x
  | 0, g, x, hf, hg => by
    have h0 : x.size = 0 := by omega
    cases g <;> simp [feedU, h0]
  | f + 1, 0, x, hf, hg => by
    have h0 : x.size = 0 := by omega
    simp [feedU, h0]
  | f + 1, g + 1, x, hf, hg => by
    by_cases h0 : x.size = 0
    · simp [feedU, h0]
    · by_cases h1 : (oneS en x).2 = 0
      · simp [feedU, h1]
      · have hle := oneS_le en x (by omega)
        have ih := feedU_fuel en f g (x.extract (oneS en x).2 x.size) (by rw [ByteArray.size_extract]; omega) (by rw [ByteArray.size_extract]; omega)
        simp only [feedU, h0, h1, if_false, ih]
/-- In two pieces. -/
theorem feedU_two (en : Int) (q : ByteArray) : ∀ (f : Nat) (p : ByteArray), p.size ≤ f → ∀ g, (p ++ q).size ≤ g →
    feedU en g (p ++ q) = feedW (feedU en f p).1 (feedU en f p).2.1 (feedU en g ((feedU en f p).2.2 ++ q))
  | 0, p, hf, g, hg => by simp [feedU, feedW]
  | f + 1, p, hf, g, hg => by
    by_cases h0 : p.size = 0
    · simp [feedU, feedW, h0]
    · by_cases h1 : (oneS en p).2 = 0
      · simp [feedU, feedW, h1]
      · have hle := oneS_le en p (by omega)
        have hz := ByteArray.size_append (a := p) (b := q)
        have ha := oneS_app en p q (by omega) h1
        obtain ⟨g, rfl⟩ : ∃ g', g = g' + 1 := ⟨g - 1, by omega⟩
        have hx : (p.extract (oneS en p).2 p.size).size = p.size - (oneS en p).2 := by rw [ByteArray.size_extract]; omega
        have hxq := ByteArray.size_append (a := p.extract (oneS en p).2 p.size) (b := q)
        have ih := feedU_two en q f (p.extract (oneS en p).2 p.size) (by omega) g (by omega)
        have hst := feedW_step [] [] en g (p ++ q) (by omega) (by rw [ha]; omega)
        rw [ha, tail_app p q _ hle, ih] at hst
        have hl : feedU en (g + 1) (p ++ q) = feedW [] [] (feedU en (g + 1) (p ++ q)) := rfl
        have hheld : ((feedU en f (p.extract (oneS en p).2 p.size)).2.2 ++ q).size ≤ g := by
          rw [ByteArray.size_append]
          have : (feedU en f (p.extract (oneS en p).2 p.size)).2.2.size ≤ (p.extract (oneS en p).2 p.size).size := by
            have gen : ∀ (f : Nat) (x : ByteArray), (feedU en f x).2.2.size ≤ x.size := by
              intro f
              induction f with
              | zero => intro x; exact Nat.le_refl _
              | succ f ih =>
                intro x
                unfold feedU
                split
                · exact Nat.le_refl _
                · split
                  · exact Nat.le_refl _
                  · have h := ih (x.extract (oneS en x).2 x.size)
                    rw [ByteArray.size_extract] at h
                    show (feedU en f (x.extract (oneS en x).2 x.size)).2.2.size ≤ x.size
                    omega
            exact gen f _
          omega
        have hf2 := feedU_fuel en g (g + 1) _ hheld (by omega)
        rw [hl, hst]
        have hp : feedU en (f + 1) p = ((oneS en p).1 :: (feedU en f (p.extract (oneS en p).2 p.size)).1, ((oneS en p).2 : Int) :: (feedU en f (p.extract (oneS en p).2 p.size)).2.1, (feedU en f (p.extract (oneS en p).2 p.size)).2.2) := by
          rw [feedU, if_neg h0, if_neg h1]
        rw [hp, hf2]
        simp [feedW]
theorem feedB_two (en : Int) : ∀ (a b : List UInt8) (sh lo : Int), feedB en (a ++ b) sh lo = feedT (feedB en a sh lo).1 (feedB en a sh lo).2.1 (feedB en b (feedB en a sh lo).2.2.1 (feedB en a sh lo).2.2.2)
  | [], b, sh, lo => rfl
  | x :: a, b, sh, lo => by
    rw [List.cons_append, feedB, feedB]
    by_cases h : en = 5 ∧ ((x.toNat : Int) = 14 ∨ (x.toNat : Int) = 15)
    · rw [if_pos h, if_pos h]
      exact feedB_two en a b _ _
    · rw [if_neg h, if_neg h, feedB_two en a b sh 0]
      rfl
end Go.Proofs.YtjnnikbgpjiecaaDoor
