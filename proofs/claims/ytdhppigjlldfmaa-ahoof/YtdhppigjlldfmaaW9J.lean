/-
  The trie of some words: its states' lists are what the specification lists, and where a word ends.
-/
import Derived.Test.YtdhppigjlldfmaaW8J
namespace Go.Proofs.Ytdhppigjlldfmaa
/-- The list of a state. -/
def lsAt (Ls : List Lst) (i : Nat) : Lst := Ls.getD i []
def addL (Ls : List Lst) (x : Lst) : List Lst := if x ∈ Ls then Ls else Ls ++ [x]
/-- The specification's lists: the first k words' beginnings of a length. -/
def inL (W : Rw) (len : Nat) : Nat → List Lst → List Lst
  | 0, s => s
  | k + 1, s => if len < (rw_ W k).length then addL (inL W len k s) ((rw_ W k).take (len + 1)) else inL W len k s
def outL (W : Rw) : Nat → List Lst
  | 0 => [[]]
  | len + 1 => inL W len W.length (outL W len)
theorem lsAt_old (Ls : List Lst) (x : Lst) {i : Nat} (h : i < Ls.length) : lsAt (Ls ++ [x]) i = lsAt Ls i := by simp [lsAt, List.getD, List.getElem?_append_left h]
theorem lsAt_new (Ls : List Lst) (x : Lst) : lsAt (Ls ++ [x]) Ls.length = x := by simp [lsAt, List.getD]
theorem lsAt_mem {Ls : List Lst} {x : Lst} : x ∈ Ls ↔ ∃ i, i < Ls.length ∧ lsAt Ls i = x := by
  constructor
  · intro h
    obtain ⟨i, hi, rfl⟩ := List.mem_iff_getElem.1 h
    exact ⟨i, hi, by simp [lsAt, List.getD, hi]⟩
  · rintro ⟨i, hi, rfl⟩
    simp [lsAt, List.getD, hi]
theorem TrieOk.congr {Q : List Sq} {E : Ed} {S S' : Nat → Lst} (h : TrieOk Q E S) (he : ∀ i, i < Q.length → S' i = S i) : TrieOk Q E S' := by
  have h0 := h.inv.1
  refine ⟨h.inv, by rw [he 0 h0]; exact h.root, fun j j0 hj => ?_, fun f b j hf => ?_, fun j j0 hj => ?_, fun i j hi hj e => ?_, h.dom⟩
  · obtain ⟨p, b, hp, e⟩ := h.up j j0 hj
    exact ⟨p, b, hp, by rw [he j hj, he p (by omega)]; exact e⟩
  · rw [h.edge f b j hf]
    constructor
    · rintro ⟨a1, a2, a3⟩; exact ⟨a1, a2, by rw [he j a2, he f hf]; exact a3⟩
    · rintro ⟨a1, a2, a3⟩; exact ⟨a1, a2, by rw [← he j a2, ← he f hf]; exact a3⟩
  · obtain ⟨a1, a2, a3, a4⟩ := h.fails j j0 hj
    refine ⟨a1, by rw [he _ a1, he j hj]; exact a2, a3, fun i hi hs hn => ?_⟩
    rw [he i hi, he _ a1]
    rw [he i hi, he j hj] at hs
    exact a4 i hi hs hn
  · rw [he i hi, he j hj] at e
    exact h.one i j hi hj e
/-- What holds of the run: top is the greatest length so far, word k has come as far as g k says. -/
structure RunOk (W : Rw) (Q : List Sq) (E : Ed) (at_ : List Nat) (Ls : List Lst) (top : Nat) (g : Nat → Nat) : Prop where
  ok : TrieOk Q E (lsAt Ls)
  len : Ls.length = Q.length
  pos : at_.length = W.length
  atl : ∀ k, k < W.length → at_.getD k 0 < Q.length ∧ lsAt Ls (at_.getD k 0) = (rw_ W k).take (g k)
  srt : ∀ i j, i < j → j < Q.length → (lsAt Ls i).length ≤ (lsAt Ls j).length
  bd : ∀ j, j < Q.length → (lsAt Ls j).length ≤ top
  par : ∀ j, 0 < j → j < Q.length → ∃ p : Nat, (sq Q j).f = p ∧ p < j ∧ lsAt Ls j = lsAt Ls p ++ [(sq Q j).b]
  nil : ∀ j, (sq Q j).e = .slice none 0 0
theorem run_step {W : Rw} {Q : List Sq} {E : Ed} {at_ : List Nat} {Ls : List Lst} {len : Nat} {g : Nat → Nat} (h : RunOk W Q E at_ Ls (len + 1) g) {k : Nat} (hk : k < W.length) (hl : len < (rw_ W k).length) (hg : g k = len) :
    RunOk W (growQ Q E (at_.getD k 0) ((rw_ W k).getD len 0)) (growE Q E (at_.getD k 0) ((rw_ W k).getD len 0)) (at_.set k (growJ Q E (at_.getD k 0) ((rw_ W k).getD len 0))) (addL Ls ((rw_ W k).take (len + 1))) (len + 1) (fun i => if i = k then len + 1 else g i) := by
  obtain ⟨hf, hfS⟩ := h.atl k hk
  rw [hg] at hfS
  have hS : (rw_ W k).take (len + 1) = lsAt Ls (at_.getD k 0) ++ [(rw_ W k).getD len 0] := by rw [hfS, take_snocI _ _ hl]
  have hlen := h.len
  generalize at_.getD k 0 = f at *
  generalize (rw_ W k).getD len 0 = b at *
  cases he : E f b with
  | some j =>
    obtain ⟨j0, jl, hj⟩ := (h.ok.edge f b j hf).1 he
    have hm : (rw_ W k).take (len + 1) ∈ Ls := lsAt_mem.2 ⟨j, by omega, by rw [hS]; exact hj⟩
    have eQ : growQ Q E f b = Q := by unfold growQ; rw [he]
    have eE : growE Q E f b = E := by unfold growE; rw [he]
    have eJ : growJ Q E f b = j := by unfold growJ; rw [he]
    rw [eQ, eE, eJ, show addL Ls ((rw_ W k).take (len + 1)) = Ls from if_pos hm]
    refine ⟨h.ok, h.len, by rw [List.length_set]; exact h.pos, fun i hi => ?_, h.srt, h.bd, h.par, h.nil⟩
    rw [getD_setN]
    by_cases e : k = i
    · subst e
      rw [if_pos ⟨rfl, by rw [h.pos]; exact hk⟩, if_pos rfl, hj, ← hS]
      exact ⟨jl, rfl⟩
    · rw [if_neg (fun c => e c.1), if_neg (fun c => e c.symm)]
      exact h.atl i hi
  | none =>
    have hm : ¬ (rw_ W k).take (len + 1) ∈ Ls := fun hm => by
      obtain ⟨i, hi, e⟩ := lsAt_mem.1 hm
      have i0 : 0 < i := by
        rcases Nat.eq_zero_or_pos i with rfl | i0
        · rw [h.ok.root, hS] at e; simp at e
        · exact i0
      have := (h.ok.edge f b i hf).2 ⟨i0, by omega, by rw [e, hS]⟩
      rw [he] at this
      cases this
    have eQ : growQ Q E f b = Q ++ [newSt Q E f b] := by unfold growQ; rw [he]
    have eJ : growJ Q E f b = Q.length := by unfold growJ; rw [he]
    have eL : (Q ++ [newSt Q E f b]).length = Q.length + 1 := by simp
    have old : ∀ i, i < Q.length → lsAt (Ls ++ [(rw_ W k).take (len + 1)]) i = lsAt Ls i := fun i hi => lsAt_old _ _ (by omega)
    have new : lsAt (Ls ++ [(rw_ W k).take (len + 1)]) Q.length = (rw_ W k).take (len + 1) := by rw [← hlen]; exact lsAt_new _ _
    have lf : (lsAt Ls f).length = len := by rw [hfS, List.length_take]; omega
    have ltk : ((rw_ W k).take (len + 1)).length = len + 1 := by rw [List.length_take]; omega
    have hok : TrieOk Q E (lsAt (Ls ++ [(rw_ W k).take (len + 1)])) := h.ok.congr old
    have hgr := hok.grow (f := f) (b := b) hf he (by rw [new, old f hf]; exact hS) (fun j hj => by rw [old j hj, old f hf, lf]; exact h.bd j hj)
    rw [show addL Ls ((rw_ W k).take (len + 1)) = Ls ++ [(rw_ W k).take (len + 1)] from if_neg hm, eJ]
    rw [eQ] at hgr ⊢
    refine ⟨hgr, by rw [List.length_append, List.length_singleton, eL, hlen], by rw [List.length_set]; exact h.pos, fun i hi => ?_, fun i j hij hj => ?_, fun j hj => ?_, fun j j0 hj => ?_, fun j => ?_⟩
    · rw [getD_setN, eL]
      by_cases e : k = i
      · subst e
        rw [if_pos ⟨rfl, by rw [h.pos]; exact hk⟩, if_pos rfl]
        exact ⟨by omega, new⟩
      · rw [if_neg (fun c => e c.1), if_neg (fun c => e c.symm)]
        obtain ⟨a1, a2⟩ := h.atl i hi
        exact ⟨by omega, by rw [old _ a1]; exact a2⟩
    · rw [eL] at hj
      by_cases ej : j < Q.length
      · rw [old i (by omega), old j ej]; exact h.srt i j hij ej
      · obtain rfl : j = Q.length := by omega
        rw [old i (by omega), new, ltk]
        exact h.bd i (by omega)
    · rw [eL] at hj
      by_cases ej : j < Q.length
      · rw [old j ej]; exact h.bd j ej
      · obtain rfl : j = Q.length := by omega
        rw [new, ltk]
        exact Nat.le_refl _
    · rw [eL] at hj
      by_cases ej : j < Q.length
      · obtain ⟨p, p1, p2, p3⟩ := h.par j j0 ej
        rw [sq_old _ _ _ ej, old j ej]
        exact ⟨p, p1, p2, by rw [old p (by omega)]; exact p3⟩
      · obtain rfl : j = Q.length := by omega
        rw [sq_new, new]
        exact ⟨f, rfl, hf, by rw [old f hf]; exact hS⟩
    · by_cases ej : j < Q.length
      · rw [sq_old _ _ _ ej]; exact h.nil j
      · by_cases e2 : j = Q.length
        · subst e2; rw [sq_new]; rfl
        · simp [sq, List.getD, show ¬ j < Q.length + 1 by omega]
theorem RunOk.top {W : Rw} {Q : List Sq} {E : Ed} {at_ : List Nat} {Ls : List Lst} {top top' : Nat} {g g' : Nat → Nat} (h : RunOk W Q E at_ Ls top g) (ht : top ≤ top') (hg : ∀ k, k < W.length → (rw_ W k).take (g' k) = (rw_ W k).take (g k)) : RunOk W Q E at_ Ls top' g' :=
  ⟨h.ok, h.len, h.pos, fun k hk => by rw [hg k hk]; exact h.atl k hk, h.srt, fun j hj => Nat.le_trans (h.bd j hj) ht, h.par, h.nil⟩
theorem inT_run {W : Rw} {len : Nat} {s : TS} {Ls : List Lst} (h : RunOk W s.1 s.2.1 s.2.2 Ls len (fun _ => len)) : ∀ k, k ≤ W.length → RunOk W (inT W len k s).1 (inT W len k s).2.1 (inT W len k s).2.2 (inL W len k Ls) (len + 1) (fun i => if i < k then len + 1 else len)
  | 0, _ => h.top (Nat.le_succ _) fun k _ => by simp
  | k + 1, hk => by
    have ih := inT_run h k (by omega)
    rw [inT, inL]
    by_cases hl : len < (rw_ W k).length
    · rw [if_pos hl, if_pos hl]
      have := run_step ih (k := k) (by omega) hl (by simp)
      refine this.top (Nat.le_refl _) fun i _ => ?_
      by_cases e : i = k
      · subst e; rw [if_pos (by omega), if_pos rfl]
      · rw [if_neg e]
        by_cases e2 : i < k
        · rw [if_pos e2, if_pos (by omega)]
        · rw [if_neg e2, if_neg (by omega)]
    · rw [if_neg hl, if_neg hl]
      refine ih.top (Nat.le_refl _) fun i _ => ?_
      by_cases e : i = k
      · subst e
        rw [if_pos (by omega), if_neg (by omega), List.take_of_length_le (by omega), List.take_of_length_le (by omega)]
      · by_cases e2 : i < k
        · rw [if_pos e2, if_pos (by omega)]
        · rw [if_neg e2, if_neg (by omega)]
theorem outT_run (W : Rw) (r : Int) : ∀ len, RunOk W (outT W r len).1 (outT W r len).2.1 (outT W r len).2.2 (outL W len) len (fun _ => len)
  | 0 => by
    have hok := outT_ok W r 0
    refine ⟨⟨hok.1, rfl, fun j j0 hj => ?_, fun f b j hf => ?_, fun j j0 hj => ?_, fun i j hi hj _ => ?_, fun f b j h => by cases h⟩, by simp [outL, outT], by simp [outT], fun k hk => ?_, fun i j hij hj => ?_, fun j hj => ?_, fun j j0 hj => ?_, hok.2.2.2.2.2⟩
    · simp [outT] at hj; omega
    · constructor
      · intro h; cases h
      · rintro ⟨j0, hj, -⟩; simp [outT] at hj; omega
    · simp [outT] at hj; omega
    · simp [outT] at hi hj; omega
    · refine ⟨hok.2.2.2.1 k, ?_⟩
      have e : (outT W r 0).2.2.getD k 0 = 0 := by
        have h1 := hok.2.2.2.1 k
        have : (outT W r 0).1.length = 1 := rfl
        omega
      rw [e]
      simp [lsAt, outL]
    · simp [outT] at hj; omega
    · obtain rfl : j = 0 := by simp [outT] at hj; omega
      simp [lsAt, outL]
    · simp [outT] at hj; omega
  | len + 1 => by
    have := inT_run (outT_run W r len) W.length (Nat.le_refl _)
    refine this.top (Nat.le_refl _) fun i hi => ?_
    rw [if_pos hi]
theorem inL_same {W : Rw} {len : Nat} (h : ∀ k, (rw_ W k).length ≤ len) (Ls : List Lst) : ∀ k, inL W len k Ls = Ls
  | 0 => rfl
  | k + 1 => by rw [inL, if_neg (by have := h k; omega), inL_same h Ls k]
/-- Beyond the longest word nothing comes. -/
theorem outL_same {W : Rw} (h : ∀ k, (rw_ W k).length ≤ 40) : ∀ d, outL W (40 + d) = outL W 40
  | 0 => rfl
  | d + 1 => by
    rw [← Nat.add_assoc, outL, inL_same (fun k => by have := h k; omega), outL_same h d]
/-- A word ends at a state just where its list ends the state's. -/
theorem endL_getD (Q : List Sq) (last : Nat) : ∀ k i, i < k → i < Q.length → (endL Q last k).getD i false = endB Q last i
  | k + 1, i, hi, hl => by
    rw [endL]
    by_cases e : i = k
    · subst e
      simp [List.getD, endL_len, hl, endB]
    · have := endL_getD Q last k i (by omega) hl
      rw [← this]
      simp [List.getD, show ¬ k = i by omega]
theorem endB_iff {Q : List Sq} {E : Ed} {S : Nat → Lst} (h : TrieOk Q E S) {last : Nat} (hl : last < Q.length) : ∀ j, j < Q.length → (endB Q last j = true ↔ S last <:+ S j) := by
  intro j
  induction j using Nat.strongRecOn with
  | _ j ih =>
    intro hj
    rcases Nat.eq_zero_or_pos j with rfl | j0
    · have e0 : (endL Q last 0).getD (failN Q 0) false = false := by
        rw [endL]
        simp only [List.getD, List.getElem?_replicate]
        split <;> rfl
      unfold endB
      rw [e0, Bool.or_false, decide_eq_true_eq]
      constructor
      · rintro rfl; exact List.suffix_refl _
      · intro hs
        rw [h.root] at hs
        exact h.one _ _ hj hl (by rw [h.root, List.suffix_nil.1 hs])
    · obtain ⟨f1, f2, f3, f4⟩ := h.fails j j0 hj
      have hlt := (h.inv.2.1.lt j0 hj).1
      unfold endB
      rw [endL_getD Q last j _ hlt f1, Bool.or_eq_true, decide_eq_true_eq, ih _ hlt f1]
      constructor
      · rintro (rfl | hs)
        · exact List.suffix_refl _
        · exact hs.trans f2
      · intro hs
        by_cases e : j = last
        · exact .inl e
        · exact .inr (List.suffix_of_suffix_length_le hs f2 (f4 last hl hs (fun c => e c.symm)))
open Classical in
/-- The first k words that end a list. -/
noncomputable def endW (W : Rw) (x : Lst) : Nat → List Int
  | 0 => []
  | k + 1 => if rw_ W k <:+ x then endW W x k ++ [(k : Int)] else endW W x k
theorem endsK_is {W : Rw} {r : Int} (h40 : ∀ k, (rw_ W k).length ≤ 40) {j : Nat} (hj : j < (outT W r 120).1.length) : ∀ k, k ≤ W.length → endsK W r k j = endW W (lsAt (outL W 40) j) k
  | 0, _ => rfl
  | k + 1, hk => by
    have hr := outT_run W r 120
    rw [show outL W 120 = outL W 40 from outL_same h40 80] at hr
    obtain ⟨a1, a2⟩ := hr.atl k (by omega)
    rw [List.take_of_length_le (by have := h40 k; omega)] at a2
    have hi := endB_iff hr.ok a1 j hj
    rw [a2] at hi
    rw [endsK, endW, enK, endsK_is h40 hj k (by omega)]
    by_cases hs : rw_ W k <:+ lsAt (outL W 40) j
    · rw [if_pos hs, if_pos ⟨hj, hi.2 hs⟩]
    · rw [if_neg hs, if_neg (fun c => hs (hi.1 c.2))]
/-- The last state ahead whose list ends the state's. -/
theorem fail_last {Q : List Sq} {E : Ed} {S : Nat → Lst} (h : TrieOk Q E S) (srt : ∀ i j, i < j → j < Q.length → (S i).length ≤ (S j).length) {j : Nat} (j0 : 0 < j) (hj : j < Q.length) :
    failN Q j < j ∧ S (failN Q j) <:+ S j ∧ ∀ i, failN Q j < i → i < j → ¬ S i <:+ S j := by
  obtain ⟨f1, f2, f3, f4⟩ := h.fails j j0 hj
  have hlt := (h.inv.2.1.lt j0 hj).1
  refine ⟨hlt, f2, fun i h1 h2 hs => ?_⟩
  have l1 := f4 i (by omega) hs (by omega)
  have l2 := srt _ i h1 (by omega)
  have l3 := List.suffix_of_suffix_length_le hs f2 l1
  have := h.one i (failN Q j) (by omega) f1 (l3.eq_of_length (by omega))
  omega
end Go.Proofs.Ytdhppigjlldfmaa
