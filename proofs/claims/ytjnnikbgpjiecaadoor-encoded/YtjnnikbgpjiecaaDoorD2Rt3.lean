/-
  The first rune that can't be written is the first one: what is ahead of it can be written; lengths told are no more than the bytes. No program in it.
-/
import Derived.Test.YtjnnikbgpjiecaaDoorD2Rt2
namespace Go.Proofs.YtjnnikbgpjiecaaDoor
open Go
theorem encEnd_neg {sh : Int} {s : ByteArray} (h : (encEnd sh s).ok = true) : (encEnd sh s).k = -1 := by
  by_cases hc : (if sh = 1 then s ++ strOfNums [15] else s).size ≤ 1000
  · rw [encEnd, if_pos hc]
  · rw [encEnd, if_neg hc] at h
    cases h
theorem encGo_at (en : Int) : ∀ (L : List Int) (k : Nat) (sh : Int) (s : ByteArray), (encGo en L k sh s).ok = true → 0 ≤ (encGo en L k sh s).k →
    ∃ j, j < L.length ∧ (encGo en L k sh s).k = ((k + j : Nat) : Int) ∧ okAll en (L.take j) sh = true ∧ ∀ (k' : Nat) (s' : ByteArray), encGo en (L.take (j + 1)) k' sh s' = ⟨⟨#[]⟩, ((k' + j : Nat) : Int), true⟩
  | [], k, sh, s, h, h0 => by
    have := encEnd_neg (sh := sh) (s := s) h
    have h0' : 0 ≤ (encEnd sh s).k := h0
    omega
  | r :: L, k, sh, s, h, h0 => by
    cases ho : (putS en sh r).ok
    · refine ⟨0, by simp, ?_, rfl, fun k' s' => ?_⟩
      · rw [encGo, ho]; rfl
      · show encGo en [r] k' sh s' = _
        rw [encGo, ho]; rfl
    · rw [encGo, if_pos ho] at h h0
      obtain ⟨j, hj, hk, ha, hb⟩ := encGo_at en L (k + 1) _ _ h h0
      refine ⟨j + 1, by simp; omega, ?_, ?_, fun k' s' => ?_⟩
      · rw [encGo, if_pos ho, hk]; congr 1; omega
      · rw [List.take_succ_cons]
        unfold okAll
        rw [ho, ha]; rfl
      · rw [List.take_succ_cons, encGo, if_pos ho, hb]
        congr 2
        omega
theorem putAll_size (en : Int) : ∀ (L : List Int) (sh : Int), (putAll en L sh).1.size ≤ 4 * L.length
  | [], _ => Nat.le_refl _
  | r :: L, sh => by
    have h1 := putS_size en sh r
    have h2 := putAll_size en L (putS en sh r).sh
    show ((putS en sh r).s ++ (putAll en L (putS en sh r).sh).1).size ≤ _
    rw [ByteArray.size_append, List.length_cons]
    omega
theorem encEnd_small (sh : Int) (s : ByteArray) (h : s.size ≤ 999) : (encEnd sh s).ok = true := by
  have hc : (if sh = 1 then s ++ strOfNums [15] else s).size ≤ 1000 := by
    split
    · rw [ByteArray.size_append, strOf_size]; show s.size + 1 ≤ 1000; omega
    · omega
  rw [encEnd, if_pos hc]
theorem allG_take {L : List Int} (h : (allG L && decide (L.length ≤ 1000)) = true) (j : Nat) : (allG (L.take j) && decide ((L.take j).length ≤ 1000)) = true := by
  rw [Bool.and_eq_true] at h ⊢
  have hl := of_decide_eq_true h.2
  refine ⟨List.all_eq_true.2 fun r hr => allG_true h.1 r (List.mem_of_mem_take hr), decide_eq_true ?_⟩
  rw [List.length_take]
  omega
/-- With a short list: the runes ahead of the first one that can't be written can be written, and with it they can't. -/
theorem enc_first (en : Int) (L : List Int) (hl : L.length ≤ 200) (hok : (encA en L).ok = true) (h0 : 0 ≤ (encA en L).k) :
    ∃ j, j < L.length ∧ (encA en L).k = (j : Int) ∧ (encA en (L.take j)).ok = true ∧ (encA en (L.take j)).k = -1 ∧ (encA en (L.take (j + 1))).ok = true ∧ (encA en (L.take (j + 1))).k = (j : Int) := by
  have hc : codeB en = true := by
    cases h : codeB en
    · simp [encA, h] at hok
    · rfl
  have hn : (allG L && decide (L.length ≤ 1000)) = true := by
    cases h : (allG L && decide (L.length ≤ 1000))
    · rw [encA, h, Bool.and_false] at hok; cases hok
    · rfl
  have hE : ∀ M : List Int, (allG M && decide (M.length ≤ 1000)) = true → encA en M = encGo en M 0 0 ⟨#[]⟩ := fun M hM => by rw [encA, hc, hM]; rfl
  rw [hE L hn] at hok h0
  obtain ⟨j, hj, hk, ha, hb⟩ := encGo_at en L 0 0 ⟨#[]⟩ hok h0
  have hE1 := hE _ (allG_take hn j)
  have hE2 := hE _ (allG_take hn (j + 1))
  have hg1 := encGo_ok en (L.take j) 0 0 ⟨#[]⟩ ha
  have hz := putAll_size en (L.take j) 0
  have hlt := List.length_take_le j L
  have hs : ((⟨#[]⟩ : ByteArray) ++ (putAll en (L.take j) 0).1).size ≤ 999 := by
    rw [ByteArray.size_append]
    show 0 + _ ≤ 999
    omega
  have hok1 := encEnd_small (putAll en (L.take j) 0).2 _ hs
  refine ⟨j, hj, ?_, ?_, ?_, ?_, ?_⟩
  · rw [hE L hn, hk]; congr 1; omega
  · rw [hE1, hg1]; exact hok1
  · rw [hE1, hg1]; exact encEnd_neg hok1
  · rw [hE2, hb]
  · rw [hE2, hb]; show ((0 + j : Nat) : Int) = _; congr 1; omega
/-- The lengths told are no more than the bytes. -/
theorem decLs_sum (en : Int) (s : ByteArray) : sumI (decLs en s) ≤ (s.size : Int) := by
  unfold decLs
  rw [sumI_append, flushN_sum _ _ _ (Nat.le_refl _)]
  unfold feedD
  by_cases h45 : en = 4 ∨ en = 5
  · rw [if_pos h45]
    have h := feedB_sum en s.data.toList 0 0
    have hl : s.data.toList.length = s.size := by simp
    have hlo : ∀ (l : List UInt8) (sh lo : Int), 0 ≤ lo → 0 ≤ (feedB en l sh lo).2.2.2 := by
      intro l
      induction l with
      | nil => intro sh lo h; exact h
      | cons b t ih =>
        intro sh lo h
        rw [feedB]
        split
        · exact ih _ _ (by omega)
        · exact ih _ 0 (Int.le_refl 0)
    have h0 := hlo s.data.toList 0 0 (Int.le_refl 0)
    show sumI (feedB en s.data.toList 0 0).2.1 + ((0 : Nat) : Int) ≤ _
    omega
  · rw [if_neg h45]
    have h := feedU_sum en ((⟨#[]⟩ : ByteArray) ++ s).size ((⟨#[]⟩ : ByteArray) ++ s)
    have hz : ((⟨#[]⟩ : ByteArray) ++ s).size = s.size := by rw [ByteArray.size_append]; show 0 + s.size = s.size; omega
    show sumI (feedU en ((⟨#[]⟩ : ByteArray) ++ s).size ((⟨#[]⟩ : ByteArray) ++ s)).2.1 + ((feedU en ((⟨#[]⟩ : ByteArray) ++ s).size ((⟨#[]⟩ : ByteArray) ++ s)).2.2.size : Int) ≤ _
    rw [h, hz]
    exact Int.le_refl _
end Go.Proofs.YtjnnikbgpjiecaaDoor
