/-
  DecodeAll reads what EncodeAll writes, and the first rune that can't be written is the first one; no program in it.
-/
import Derived.Test.YtjnnikbgpjiecaaDoorD2Rt
import Derived.Test.YtjnnikbgpjiecaaDoorD2DecA
namespace Go.Proofs.YtjnnikbgpjiecaaDoor
open Go
theorem feed4_all (sh : Int) : ∀ (L : List Int) (s0 lo : Int), (∀ r ∈ L, goodB r = true) → okAll 4 L s0 = true → (feedB 4 (putAll 4 L s0).1.data.toList sh lo).1 = L
  | [], _, _, _, _ => rfl
  | r :: L, s0, lo, hg, hok => by
    unfold okAll at hok
    rw [Bool.and_eq_true] at hok
    have e : (putAll 4 (r :: L) s0).1 = (putS 4 s0 r).s ++ (putAll 4 L (putS 4 s0 r).sh).1 := rfl
    rw [e, toList_app, feedB_put4 sh r lo s0 (hg r List.mem_cons_self) hok.1, feed4_all sh L _ 0 (fun x hx => hg x (List.mem_cons_of_mem _ hx)) hok.2]
theorem feed5_all (tail : List UInt8) (ht : ∀ sh lo, (feedB 5 tail sh lo).1 = []) : ∀ (L : List Int) (s0 lo : Int), (s0 = 0 ∨ s0 = 1) → (∀ r ∈ L, goodB r = true) → okAll 5 L s0 = true → (feedB 5 ((putAll 5 L s0).1.data.toList ++ tail) s0 lo).1 = L
  | [], s0, lo, _, _, _ => ht s0 lo
  | r :: L, s0, lo, h01, hg, hok => by
    unfold okAll at hok
    rw [Bool.and_eq_true] at hok
    have e : (putAll 5 (r :: L) s0).1 = (putS 5 s0 r).s ++ (putAll 5 L (putS 5 s0 r).sh).1 := rfl
    have hp := feedB_put5 r lo s0 (hg r List.mem_cons_self) h01 hok.1 ((putAll 5 L (putS 5 s0 r).sh).1.data.toList ++ tail)
    rw [e, toList_app, List.append_assoc, hp.1, feed5_all tail ht L _ 0 hp.2 (fun x hx => hg x (List.mem_cons_of_mem _ hx)) hok.2]
theorem putAll_sh (en : Int) (h : en ≠ 5) (hc : codeB en = true) : ∀ (L : List Int), (putAll en L 0).2 = 0
  | [] => rfl
  | r :: L => by
    have hce := of_decide_eq_true (show decide (1 ≤ en ∧ en ≤ 5) = true from hc)
    have hs : (putS en 0 r).sh = 0 := by
      by_cases h1 : en = 1
      · simp [putS, h1]
      · cases hu : unitsB en
        · have hu' := of_decide_eq_false (show decide (en = 2 ∨ en = 3) = false from hu)
          have h4 : en = 4 := by omega
          subst h4
          simp [putS, hu]
        · by_cases h65 : r < 65536 <;> simp [putS, h1, hu, h65]
    show (putAll en L (putS en 0 r).sh).2 = 0
    rw [hs]
    exact putAll_sh en h hc L
theorem encEnd_text {sh : Int} {s : ByteArray} (h : (encEnd sh s).ok = true) : (encEnd sh s).s = (if sh = 1 then s ++ strOfNums [15] else s) := by
  by_cases hc : (if sh = 1 then s ++ strOfNums [15] else s).size ≤ 1000
  · rw [encEnd, if_pos hc]
  · rw [encEnd, if_neg hc] at h
    cases h
theorem dec_enc (en : Int) (L : List Int) (hok : (encA en L).ok = true) (hk : (encA en L).k < 0) : decRs en (encA en L).s = L := by
  have hc : codeB en = true := by
    cases h : codeB en
    · simp [encA, h] at hok
    · rfl
  have hn : (allG L && decide (L.length ≤ 1000)) = true := by
    cases h : (allG L && decide (L.length ≤ 1000))
    · rw [encA, h, Bool.and_false] at hok; cases hok
    · rfl
  have hg := allG_true ((Bool.and_eq_true _ _).mp hn).1
  have hE : encA en L = encGo en L 0 0 ⟨#[]⟩ := by rw [encA, hc, hn]; rfl
  rw [hE] at hok hk ⊢
  have hall := encGo_neg en L 0 0 ⟨#[]⟩ hk
  rw [encGo_ok en L 0 0 ⟨#[]⟩ hall] at hok ⊢
  rw [encEnd_text hok]
  have hemp : (⟨#[]⟩ : ByteArray) ++ (putAll en L 0).1 = (putAll en L 0).1 := ByteArray.empty_append
  rw [hemp]
  have hce := of_decide_eq_true (show decide (1 ≤ en ∧ en ≤ 5) = true from hc)
  unfold decRs
  by_cases h5 : en = 5
  · subst h5
    have hfd : ∀ s : ByteArray, feedD 5 0 0 ⟨#[]⟩ s = ⟨(feedB 5 s.data.toList 0 0).2.2.1, (feedB 5 s.data.toList 0 0).2.2.2, ⟨#[]⟩, (feedB 5 s.data.toList 0 0).1, (feedB 5 s.data.toList 0 0).2.1⟩ := fun s => by simp [feedD]
    rw [hfd]
    show (feedB 5 _ 0 0).1 ++ bads (flushN (unitsB 5) 0 0).length = L
    have hb : bads (flushN (unitsB 5) 0 0).length = [] := rfl
    rw [hb, List.append_nil]
    by_cases hs : (putAll 5 L 0).2 = 1
    · rw [if_pos hs, toList_app]
      obtain ⟨c, hc15, hcn⟩ := nums_list 15 (by omega) (by omega)
      rw [hc15]
      refine feed5_all [c] (fun sh lo => ?_) L 0 0 (.inl rfl) hg hall
      rw [feedB, if_pos ⟨rfl, by omega⟩]
      rfl
    · rw [if_neg hs]
      have := feed5_all [] (fun _ _ => rfl) L 0 0 (.inl rfl) hg hall
      rwa [List.append_nil] at this
  · rw [putAll_sh en h5 hc L, if_neg (by decide)]
    by_cases h4 : en = 4
    · subst h4
      have hfd : ∀ s : ByteArray, feedD 4 0 0 ⟨#[]⟩ s = ⟨(feedB 4 s.data.toList 0 0).2.2.1, (feedB 4 s.data.toList 0 0).2.2.2, ⟨#[]⟩, (feedB 4 s.data.toList 0 0).1, (feedB 4 s.data.toList 0 0).2.1⟩ := fun s => by simp [feedD]
      rw [hfd]
      show (feedB 4 _ 0 0).1 ++ bads (flushN (unitsB 4) 0 0).length = L
      have hb : bads (flushN (unitsB 4) 0 0).length = [] := rfl
      rw [hb, List.append_nil]
      exact feed4_all 0 L 0 0 hg hall
    · have hf := feedU_put en (by omega) L 0 (putAll en L 0).1.size hg (Nat.le_refl _)
      have hfd : feedD en 0 0 ⟨#[]⟩ (putAll en L 0).1 = ⟨0, 0, (feedU en (putAll en L 0).1.size (putAll en L 0).1).2.2, (feedU en (putAll en L 0).1.size (putAll en L 0).1).1, (feedU en (putAll en L 0).1.size (putAll en L 0).1).2.1⟩ := by
        unfold feedD
        rw [if_neg (by omega), hemp]
      rw [hfd]
      show (feedU en (putAll en L 0).1.size (putAll en L 0).1).1 ++ bads (flushN (unitsB en) (feedU en (putAll en L 0).1.size (putAll en L 0).1).2.2.size (feedU en (putAll en L 0).1.size (putAll en L 0).1).2.2.size).length = L
      rw [hf.2, hf.1]
      exact List.append_nil _
end Go.Proofs.YtjnnikbgpjiecaaDoor
