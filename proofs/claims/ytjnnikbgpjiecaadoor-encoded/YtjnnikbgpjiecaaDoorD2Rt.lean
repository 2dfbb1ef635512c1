/-
  What is written in a code is read from it again; no program in it.
-/
import Derived.Test.YtjnnikbgpjiecaaDoorD2Cut
import Derived.Test.YtjnnikbgpjiecaaDoorD2Enc
namespace Go.Proofs.YtjnnikbgpjiecaaDoor
open Go
theorem enc_self (r : Int) (hg : goodB r = true) : Enc (encS r) 0 r (encS r).size := by
  rw [enc_iff (encS r) 0 r hg (encS r).size (by omega)]
  rw [Nat.zero_add]
  congr 1
  exact (ByteArray.extract_zero_size).symm
theorem beg_enc (r : Int) (hg : goodB r = true) : begB (encS r) = false := by
  rw [Bool.eq_false_iff]
  intro h
  have hh := (begB_iff (encS r)).1 h
  obtain ⟨_, h1, h2⟩ := enc_self r hg
  have hr := goodB_true hg
  unfold BegP at hh
  simp only [Nat.zero_add] at h2
  omega
theorem put1 (r : Int) (hg : goodB r = true) (t : ByteArray) : oneS 1 (encS r ++ t) = (r, (encS r).size) := by
  have h0 : 0 < (encS r).size := by have := encN_len r; rw [encS_size]; omega
  have hz := ByteArray.size_append (a := encS r) (b := t)
  have hd := dec_is (s := encS r ++ t) (i := 0) (by omega) (.inl (enc_app_up (encS r) t r _ (enc_self r hg)))
  unfold oneS
  rw [if_pos rfl, beg_app _ _ h0 (beg_enc r hg)]
  rw [← hd.1, ← hd.2]
  rfl
theorem pair_unit (en n : Int) (h0 : 0 ≤ n) (h1 : n ≤ 65535) (t : ByteArray) : unitN en (pairS en n ++ t) 0 = n := by
  rw [unit_app en (pairS en n) t 0 (by rw [pairS_size]; omega)]
  unfold unitN pairS
  by_cases h : en = 2
  · rw [if_pos h, if_pos h, byt_nums (j := 0) (x := n / 256) rfl (by omega) (by omega), byt_nums (j := 0 + 1) (x := n % 256) rfl (by omega) (by omega)]
    omega
  · rw [if_neg h, if_neg h, byt_nums (j := 0) (x := n % 256) rfl (by omega) (by omega), byt_nums (j := 0 + 1) (x := n / 256) rfl (by omega) (by omega)]
    omega
theorem pair_unit2 (en m n : Int) (h0 : 0 ≤ n) (h1 : n ≤ 65535) (t : ByteArray) : unitN en (pairS en m ++ pairS en n ++ t) 2 = n := by
  have hz := pairS_size en m
  have hn := pairS_size en n
  have e := pair_unit en n h0 h1 t
  have hz2 := ByteArray.size_append (a := pairS en n) (b := t)
  rw [ByteArray.append_assoc]
  have a := byt_app_r (pairS en m) (pairS en n ++ t) 0 (by omega)
  have b := byt_app_r (pairS en m) (pairS en n ++ t) 1 (by omega)
  rw [hz] at a b
  unfold unitN at e ⊢
  simp only [Nat.add_zero, Nat.zero_add] at a b e ⊢
  rw [a, show (2 : Nat) + 1 = 2 + 1 from rfl, b]
  exact e
theorem put23 (en sh r : Int) (hu : unitsB en = true) (hg : goodB r = true) (t : ByteArray) : oneS en ((putS en sh r).s ++ t) = (r, (putS en sh r).s.size) := by
  have hr := goodB_true hg
  have h1 : ¬ en = 1 := by have := of_decide_eq_true (show decide (en = 2 ∨ en = 3) = true from hu); omega
  by_cases h65 : r < 65536
  · have hp : putS en sh r = ⟨pairS en r, 0, true⟩ := by simp [putS, h1, hu, h65]
    rw [hp]
    show oneS en (pairS en r ++ t) = (r, (pairS en r).size)
    have hz := ByteArray.size_append (a := pairS en r) (b := t)
    have hs := pairS_size en r
    unfold oneS
    rw [if_neg h1, if_neg (by omega), pair_unit en r hr.1 (by omega) t, hs]
    have l : lowB r = false := decide_eq_false (by omega)
    have hh : highB r = false := decide_eq_false (by omega)
    rw [l, hh]; rfl
  · have hp : putS en sh r = ⟨pairS en (55296 + (r - 65536) / 1024) ++ pairS en (56320 + (r - 65536) % 1024), 0, true⟩ := by simp [putS, h1, hu, h65]
    rw [hp]
    show oneS en (pairS en (55296 + (r - 65536) / 1024) ++ pairS en (56320 + (r - 65536) % 1024) ++ t) = (r, (pairS en (55296 + (r - 65536) / 1024) ++ pairS en (56320 + (r - 65536) % 1024)).size)
    have hz := ByteArray.size_append (a := pairS en (55296 + (r - 65536) / 1024) ++ pairS en (56320 + (r - 65536) % 1024)) (b := t)
    have hz2 := ByteArray.size_append (a := pairS en (55296 + (r - 65536) / 1024)) (b := pairS en (56320 + (r - 65536) % 1024))
    have hs := pairS_size en (55296 + (r - 65536) / 1024)
    have hs2 := pairS_size en (56320 + (r - 65536) % 1024)
    have u2 := pair_unit2 en (55296 + (r - 65536) / 1024) (56320 + (r - 65536) % 1024) (by omega) (by omega) t
    have u0 : unitN en (pairS en (55296 + (r - 65536) / 1024) ++ pairS en (56320 + (r - 65536) % 1024) ++ t) 0 = 55296 + (r - 65536) / 1024 := by
      rw [ByteArray.append_assoc]; exact pair_unit en _ (by omega) (by omega) _
    unfold oneS
    rw [if_neg h1, if_neg (by omega), u0, u2]
    have l : lowB (55296 + (r - 65536) / 1024) = false := decide_eq_false (by omega)
    have hh : highB (55296 + (r - 65536) / 1024) = true := decide_eq_true (by omega)
    have l2 : lowB (56320 + (r - 65536) % 1024) = true := decide_eq_true (by omega)
    rw [l, hh, l2, if_neg (by decide), if_neg (by decide), if_neg (by omega), if_pos rfl]
    refine Prod.ext ?_ ?_
    · show 65536 + (55296 + (r - 65536) / 1024 - 55296) * 1024 + (56320 + (r - 65536) % 1024) - 56320 = r
      omega
    · show 4 = _
      omega
/-- The lengths that are told and what is held make all bytes. -/
def sumI (l : List Int) : Int := l.foldr (· + ·) 0
theorem sumI_cons (x : Int) (l : List Int) : sumI (x :: l) = x + sumI l := rfl
theorem sumI_append (a b : List Int) : sumI (a ++ b) = sumI a + sumI b := by
  induction a with
  | nil => simp [sumI]
  | cons x a ih => rw [List.cons_append, sumI_cons, sumI_cons, ih]; omega
theorem feedU_sum (en : Int) : ∀ (f : Nat) (x : ByteArray), sumI (feedU en f x).2.1 + ((feedU en f x).2.2.size : Int) = (x.size : Int)
  | 0, x => by simp [feedU, sumI]
  | f + 1, x => by
    by_cases h0 : x.size = 0
    · simp [feedU, h0, sumI]
    · by_cases h1 : (oneS en x).2 = 0
      · simp [feedU, h1, sumI]
      · have hle := oneS_le en x (by omega)
        have ih := feedU_sum en f (x.extract (oneS en x).2 x.size)
        have hx : (x.extract (oneS en x).2 x.size).size = x.size - (oneS en x).2 := by rw [ByteArray.size_extract]; omega
        rw [feedU, if_neg h0, if_neg h1]
        show sumI (((oneS en x).2 : Int) :: (feedU en f (x.extract (oneS en x).2 x.size)).2.1) + ((feedU en f (x.extract (oneS en x).2 x.size)).2.2.size : Int) = _
        rw [sumI_cons]
        omega
theorem feedB_sum (en : Int) : ∀ (l : List UInt8) (sh lo : Int), sumI (feedB en l sh lo).2.1 + (feedB en l sh lo).2.2.2 = (l.length : Int) + lo
  | [], sh, lo => by simp [feedB, sumI]
  | b :: t, sh, lo => by
    rw [feedB]
    by_cases h : en = 5 ∧ ((b.toNat : Int) = 14 ∨ (b.toNat : Int) = 15)
    · rw [if_pos h]
      have ih := feedB_sum en t (15 - b.toNat) (lo + 1)
      rw [List.length_cons]
      omega
    · rw [if_neg h]
      have ih := feedB_sum en t sh 0
      show sumI ((lo + 1) :: (feedB en t sh 0).2.1) + (feedB en t sh 0).2.2.2 = _
      rw [sumI_cons, List.length_cons]
      omega
theorem flushN_sum (u : Bool) : ∀ (f n : Nat), n ≤ f → sumI (flushN u f n) = (n : Int)
  | 0, n, h => by
    obtain rfl : n = 0 := by omega
    rfl
  | f + 1, 0, h => rfl
  | f + 1, n + 1, h => by
    unfold flushN
    split
    · rename_i hc
      have hn : 0 < n := by simp at hc; exact hc.2
      rw [sumI_cons, flushN_sum u f (n - 1) (by omega)]
      omega
    · rw [sumI_cons, flushN_sum u f n (by omega)]
      omega
/-- All runes of a list, written one behind the other, and the shift behind. -/
def putAll (en : Int) : List Int → Int → ByteArray × Int
  | [], sh => (⟨#[]⟩, sh)
  | r :: L, sh => ((putS en sh r).s ++ (putAll en L (putS en sh r).sh).1, (putAll en L (putS en sh r).sh).2)
def okAll (en : Int) : List Int → Int → Bool
  | [], _ => true
  | r :: L, sh => (putS en sh r).ok && okAll en L (putS en sh r).sh
theorem encGo_ok (en : Int) : ∀ (L : List Int) (k : Nat) (sh : Int) (s : ByteArray), okAll en L sh = true → encGo en L k sh s = encEnd (putAll en L sh).2 (s ++ (putAll en L sh).1)
  | [], k, sh, s, _ => by
    show encEnd sh s = encEnd sh (s ++ ⟨#[]⟩)
    congr 1
    exact (ByteArray.append_empty).symm
  | r :: L, k, sh, s, h => by
    unfold okAll at h
    rw [Bool.and_eq_true] at h
    rw [encGo, if_pos h.1, encGo_ok en L (k + 1) _ _ h.2]
    show encEnd _ _ = encEnd (putAll en L (putS en sh r).sh).2 (s ++ ((putS en sh r).s ++ (putAll en L (putS en sh r).sh).1))
    rw [ByteArray.append_assoc]
theorem encGo_neg (en : Int) : ∀ (L : List Int) (k : Nat) (sh : Int) (s : ByteArray), (encGo en L k sh s).k < 0 → okAll en L sh = true
  | [], _, _, _, _ => rfl
  | r :: L, k, sh, s, h => by
    cases ho : (putS en sh r).ok
    · rw [encGo, ho] at h
      simp at h
      omega
    · rw [encGo, if_pos ho] at h
      unfold okAll
      rw [ho, encGo_neg en L (k + 1) _ _ h]; rfl
theorem oneS_put (en sh r : Int) (h : 1 ≤ en ∧ en ≤ 3) (hg : goodB r = true) (t : ByteArray) : oneS en ((putS en sh r).s ++ t) = (r, (putS en sh r).s.size) ∧ 0 < (putS en sh r).s.size ∧ (putS en sh r).sh = 0 := by
  by_cases h1 : en = 1
  · subst h1
    have hp : putS 1 sh r = ⟨encS r, 0, true⟩ := by simp [putS]
    rw [hp]
    exact ⟨put1 r hg t, by show 0 < (encS r).size; have := encN_len r; rw [encS_size]; omega, rfl⟩
  · have hu : unitsB en = true := decide_eq_true (by omega)
    refine ⟨put23 en sh r hu hg t, ?_, ?_⟩
    · by_cases h65 : r < 65536
      · have hp : putS en sh r = ⟨pairS en r, 0, true⟩ := by simp [putS, h1, hu, h65]
        rw [hp]; show 0 < (pairS en r).size; rw [pairS_size]; omega
      · have hp : putS en sh r = ⟨pairS en (55296 + (r - 65536) / 1024) ++ pairS en (56320 + (r - 65536) % 1024), 0, true⟩ := by simp [putS, h1, hu, h65]
        rw [hp]; show 0 < (pairS en _ ++ pairS en _).size; rw [ByteArray.size_append, pairS_size]; omega
    · by_cases h65 : r < 65536 <;> simp [putS, h1, hu, h65]
theorem app_tail (p q : ByteArray) : (p ++ q).extract p.size (p ++ q).size = q := by
  rw [tail_app p q p.size (Nat.le_refl _)]
  have : p.extract p.size p.size = ⟨#[]⟩ := by
    apply ByteArray.ext
    apply Array.ext'
    rw [Lib.extract_data]
    simp
  rw [this]
  exact ByteArray.empty_append
theorem feedU_put (en : Int) (h : 1 ≤ en ∧ en ≤ 3) : ∀ (L : List Int) (sh : Int) (f : Nat), (∀ r ∈ L, goodB r = true) → (putAll en L sh).1.size ≤ f → (feedU en f (putAll en L sh).1).1 = L ∧ (feedU en f (putAll en L sh).1).2.2.size = 0
  | [], sh, f, _, _ => by
    have : (putAll en [] sh).1 = ⟨#[]⟩ := rfl
    rw [this]
    have z : (⟨#[]⟩ : ByteArray).size = 0 := rfl
    cases f <;> simp [feedU, z]
  | r :: L, sh, f, hg, hf => by
    have ho := oneS_put en sh r h (hg r List.mem_cons_self) (putAll en L (putS en sh r).sh).1
    have hz := ByteArray.size_append (a := (putS en sh r).s) (b := (putAll en L (putS en sh r).sh).1)
    have e : (putAll en (r :: L) sh).1 = (putS en sh r).s ++ (putAll en L (putS en sh r).sh).1 := rfl
    rw [e] at hf ⊢
    obtain ⟨f, rfl⟩ : ∃ f', f = f' + 1 := ⟨f - 1, by omega⟩
    have ih := feedU_put en h L (putS en sh r).sh f (fun x hx => hg x (List.mem_cons_of_mem _ hx)) (by omega)
    rw [feedU, if_neg (by omega), ho.1, if_neg (by show ¬ (putS en sh r).s.size = 0; omega)]
    show (r :: (feedU en f (((putS en sh r).s ++ (putAll en L (putS en sh r).sh).1).extract (putS en sh r).s.size ((putS en sh r).s ++ (putAll en L (putS en sh r).sh).1).size)).1) = r :: L ∧ (feedU en f (((putS en sh r).s ++ (putAll en L (putS en sh r).sh).1).extract (putS en sh r).s.size ((putS en sh r).s ++ (putAll en L (putS en sh r).sh).1).size)).2.2.size = 0
    rw [app_tail, ih.1]
    exact ⟨rfl, ih.2⟩
theorem toList_app (a b : ByteArray) : (a ++ b).data.toList = a.data.toList ++ b.data.toList := by rw [ByteArray.data_append, Array.toList_append]
theorem nums_list (n : Int) (h0 : 0 ≤ n) (h1 : n ≤ 255) : ∃ b : UInt8, (strOfNums [n]).data.toList = [b] ∧ (b.toNat : Int) = n := by
  refine ⟨UInt8.ofNat n.toNat, rfl, ?_⟩
  have : n.toNat % 256 = n.toNat := Nat.mod_eq_of_lt (by omega)
  simp [this]
  omega
/-- A rune of a code of one byte a rune is read again, with the bytes ahead of it. -/
theorem feedB_put4 (sh r lo s0 : Int) (hg : goodB r = true) (hok : (putS 4 s0 r).ok = true) (t : List UInt8) : (feedB 4 ((putS 4 s0 r).s.data.toList ++ t) sh lo).1 = r :: (feedB 4 t sh 0).1 := by
  have hr := goodB_true hg
  have hu : unitsB 4 = false := by decide
  have hp : putS 4 s0 r = ⟨strOfNums [r % 256], 0, decide (r < 256)⟩ := by simp [putS, hu]
  rw [hp] at hok ⊢
  have h256 : r < 256 := of_decide_eq_true hok
  have e : r % 256 = r := by omega
  obtain ⟨b, hb, hbn⟩ := nums_list r hr.1 (by omega)
  show (feedB 4 ((strOfNums [r % 256]).data.toList ++ t) sh lo).1 = _
  rw [e, hb, List.singleton_append, feedB, if_neg (fun x => by cases x.1), if_neg (by decide), hbn]
theorem feedB_put5 (r lo s0 : Int) (hg : goodB r = true) (h01 : s0 = 0 ∨ s0 = 1) (hok : (putS 5 s0 r).ok = true) (t : List UInt8) :
    (feedB 5 ((putS 5 s0 r).s.data.toList ++ t) s0 lo).1 = r :: (feedB 5 t (putS 5 s0 r).sh 0).1 ∧ ((putS 5 s0 r).sh = 0 ∨ (putS 5 s0 r).sh = 1) := by
  have hr := goodB_true hg
  have hu : unitsB 5 = false := by decide
  by_cases h32 : r < 32
  · have hp : putS 5 s0 r = ⟨strOfNums [r], s0, decide (r ≠ 14 ∧ r ≠ 15)⟩ := by simp [putS, hu, h32]
    rw [hp] at hok ⊢
    have hne : r ≠ 14 ∧ r ≠ 15 := of_decide_eq_true hok
    obtain ⟨b, hb, hbn⟩ := nums_list r hr.1 (by omega)
    refine ⟨?_, h01⟩
    show (feedB 5 ((strOfNums [r]).data.toList ++ t) s0 lo).1 = r :: (feedB 5 t s0 0).1
    rw [hb, List.singleton_append, feedB, if_neg (by omega), if_pos rfl, hbn]
    have : shiftedN s0 r = r := by unfold shiftedN; rw [if_pos (.inl h32)]
    rw [this]
  · by_cases hk : 12352 ≤ r ∧ r ≤ 12446
    · have hp : putS 5 s0 r = ⟨if s0 = 1 then strOfNums [r - 12352 + 32] else strOfNums [14] ++ strOfNums [r - 12352 + 32], 1, true⟩ := by simp [putS, hu, h32, hk]
      rw [hp]
      obtain ⟨b, hb, hbn⟩ := nums_list (r - 12352 + 32) (by omega) (by omega)
      have sN : shiftedN 1 (r - 12352 + 32) = r := by unfold shiftedN; rw [if_neg (by omega), if_pos (by omega)]; omega
      refine ⟨?_, .inr rfl⟩
      rcases h01 with rfl | rfl
      · show (feedB 5 ((strOfNums [14] ++ strOfNums [r - 12352 + 32]).data.toList ++ t) 0 lo).1 = r :: (feedB 5 t 1 0).1
        obtain ⟨c, hc, hcn⟩ := nums_list 14 (by omega) (by omega)
        rw [toList_app, hb, hc, List.append_assoc, List.singleton_append, List.singleton_append, feedB, if_pos ⟨rfl, by omega⟩, hcn, feedB, if_neg (by omega), if_pos rfl, hbn]
        show shiftedN (15 - 14) (r - 12352 + 32) :: (feedB 5 t (15 - 14) 0).1 = _
        rw [show (15 : Int) - 14 = 1 from rfl, sN]
      · show (feedB 5 ((strOfNums [r - 12352 + 32]).data.toList ++ t) 1 lo).1 = r :: (feedB 5 t 1 0).1
        rw [hb, List.singleton_append, feedB, if_neg (by omega), if_pos rfl, hbn, sN]
    · by_cases h126 : r ≤ 126
      · have hp : putS 5 s0 r = ⟨if s0 = 0 then strOfNums [r] else strOfNums [15] ++ strOfNums [r], 0, true⟩ := by simp [putS, hu, h32, hk, h126]
        rw [hp]
        obtain ⟨b, hb, hbn⟩ := nums_list r hr.1 (by omega)
        have sN : shiftedN 0 r = r := by unfold shiftedN; rw [if_pos (.inr ⟨by omega, rfl⟩)]
        refine ⟨?_, .inl rfl⟩
        rcases h01 with rfl | rfl
        · show (feedB 5 ((strOfNums [r]).data.toList ++ t) 0 lo).1 = r :: (feedB 5 t 0 0).1
          rw [hb, List.singleton_append, feedB, if_neg (by omega), if_pos rfl, hbn, sN]
        · show (feedB 5 ((strOfNums [15] ++ strOfNums [r]).data.toList ++ t) 1 lo).1 = r :: (feedB 5 t 0 0).1
          obtain ⟨c, hc, hcn⟩ := nums_list 15 (by omega) (by omega)
          rw [toList_app, hb, hc, List.append_assoc, List.singleton_append, List.singleton_append, feedB, if_pos ⟨rfl, by omega⟩, hcn, feedB, if_neg (by omega), if_pos rfl, hbn]
          show shiftedN (15 - 15) r :: (feedB 5 t (15 - 15) 0).1 = _
          rw [show (15 : Int) - 15 = 0 from rfl, sN]
      · have hp : putS 5 s0 r = ⟨⟨#[]⟩, 0, false⟩ := by simp [putS, hu, h32, hk, h126]
        rw [hp] at hok
        cases hok
end Go.Proofs.YtjnnikbgpjiecaaDoor
