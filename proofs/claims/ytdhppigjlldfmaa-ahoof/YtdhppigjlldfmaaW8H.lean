/-
  The trie of some words, as a plain run and in memory.
-/
import Derived.Test.YtdhppigjlldfmaaW8G
namespace Go.Proofs.Ytdhppigjlldfmaa
open Go.ChangeShapes Go.WideShapes Go.ChangeAt Go.RowKit Go.Maps
theorem endL_same {Q Q' : List Sq} (h : SameQ Q Q') (last : Nat) : ∀ k, endL Q' last k = endL Q last k
  | 0 => by rw [endL, endL, h.1]
  | k + 1 => by
    have e : failN Q' k = failN Q k := by unfold failN; rw [(h.2 k).2.2.2]
    rw [endL, endL, endL_same h last k, e]
theorem enK_same {Q Q' : List Sq} (h : SameQ Q Q') (last : Nat) (no : Int) (En : Nat → List Int) (k : Nat) : enK Q' last no En k = enK Q last no En k := by
  funext j
  have e : endB Q' last j = endB Q last j := by
    have e : failN Q' j = failN Q j := by unfold failN; rw [(h.2 j).2.2.2]
    unfold endB
    rw [endL_same h, e]
  unfold enK
  rw [e]
theorem getD_setN (L : List Nat) (k i x : Nat) : (L.set k x).getD i 0 = if k = i ∧ k < L.length then x else L.getD i 0 := by
  unfold List.getD
  rw [List.getElem?_set]
  by_cases e : k = i
  · subst e
    by_cases l : k < L.length
    · simp [l]
    · simp [l]
  · simp [e]
abbrev TS := List Sq × Ed × List Nat
/-- The words grown by their runes at a place, the first k of them. -/
def inT (W : Rw) (len : Nat) : Nat → TS → TS
  | 0, s => s
  | k + 1, s =>
    if len < (rw_ W k).length then
      (growQ (inT W len k s).1 (inT W len k s).2.1 ((inT W len k s).2.2.getD k 0) ((rw_ W k).getD len 0), growE (inT W len k s).1 (inT W len k s).2.1 ((inT W len k s).2.2.getD k 0) ((rw_ W k).getD len 0),
        (inT W len k s).2.2.set k (growJ (inT W len k s).1 (inT W len k s).2.1 ((inT W len k s).2.2.getD k 0) ((rw_ W k).getD len 0)))
    else inT W len k s
def outT (W : Rw) (r : Int) : Nat → TS
  | 0 => ([⟨-1, r, 0, 0, .slice none 0 0⟩], noE, List.replicate W.length 0)
  | len + 1 => inT W len W.length (outT W r len)
/-- What holds of a run: so many states at most. -/
def TsOk (n B : Nat) (s : TS) : Prop := TrieInv s.1 s.2.1 ∧ FailLe s.1 ∧ s.2.2.length = n ∧ (∀ k, s.2.2.getD k 0 < s.1.length) ∧ s.1.length ≤ B ∧ ∀ j, (sq s.1 j).e = .slice none 0 0
theorem TsOk.mono {n B B' : Nat} {s : TS} (h : TsOk n B s) (hB : B ≤ B') : TsOk n B' s := ⟨h.1, h.2.1, h.2.2.1, h.2.2.2.1, Nat.le_trans h.2.2.2.2.1 hB, h.2.2.2.2.2⟩
theorem TsOk.grow {n B : Nat} {s : TS} (h : TsOk n B s) (k : Nat) (b : Int) : TsOk n (B + 1) (growQ s.1 s.2.1 (s.2.2.getD k 0) b, growE s.1 s.2.1 (s.2.2.getD k 0) b, s.2.2.set k (growJ s.1 s.2.1 (s.2.2.getD k 0) b)) := by
  obtain ⟨h1, h2, h3, h4, h5, h6⟩ := h
  have hf := h4 k
  obtain ⟨l1, l2⟩ := grow_len s.1 s.2.1 (s.2.2.getD k 0) b
  have hj := growJ_lt h1 (s.2.2.getD k 0) b
  refine ⟨h1.grow hf b, ?_, by rw [List.length_set]; exact h3, fun i => ?_, by dsimp only; omega, ?_⟩
  · dsimp only
    unfold growQ
    cases he : s.2.1 (s.2.2.getD k 0) b with
    | some j => exact h2
    | none =>
      intro j hj
      dsimp only at hj ⊢
      rw [List.length_append, List.length_singleton] at hj
      by_cases e : j < s.1.length
      · rw [sq_old _ _ _ e]; exact h2 j e
      · obtain rfl : j = s.1.length := by omega
        rw [sq_new]
        have := newFail_lt h1 (s.2.2.getD k 0) b
        show 0 ≤ ((newFail s.1 s.2.1 (s.2.2.getD k 0) b : Nat) : Int) ∧ ((newFail s.1 s.2.1 (s.2.2.getD k 0) b : Nat) : Int) ≤ (s.1.length : Int)
        omega
  · dsimp only
    have := h4 i
    rw [getD_setN]
    split
    · exact hj
    · omega
  · intro j
    dsimp only
    unfold growQ
    cases he : s.2.1 (s.2.2.getD k 0) b with
    | some _ => exact h6 j
    | none =>
      dsimp only
      by_cases e : j < s.1.length
      · rw [sq_old _ _ _ e]; exact h6 j
      · by_cases e2 : j = s.1.length
        · subst e2; rw [sq_new]; rfl
        · simp [sq, List.getD, show ¬ j < s.1.length + 1 by omega]
theorem inT_ok {n B : Nat} {s : TS} (W : Rw) (len : Nat) (h : TsOk n B s) : ∀ k, TsOk n (B + k) (inT W len k s)
  | 0 => h
  | k + 1 => by
    have ih := inT_ok W len h k
    rw [inT]
    split
    · exact (ih.grow k _).mono (by omega)
    · exact ih.mono (by omega)
theorem outT_ok (W : Rw) (r : Int) : ∀ len, TsOk W.length (1 + len * W.length) (outT W r len)
  | 0 => by
    refine ⟨⟨Nat.one_pos, fun j h0 h => by simp [outT] at h; omega, fun j h => ?_, fun f b j h => by cases h⟩, fun j h => ?_, by simp [outT], fun k => ?_, by simp [outT], fun j => ?_⟩
    · obtain rfl : j = 0 := by simp [outT] at h; omega
      exact ⟨Int.le_refl 0, Int.le_refl 0⟩
    · obtain rfl : j = 0 := by simp [outT] at h; omega
      exact ⟨Int.le_refl 0, Int.le_refl 0⟩
    · show (List.replicate W.length 0).getD k 0 < 1
      simp [List.getD, List.getElem?_replicate]
      split <;> simp
    · cases j with
      | zero => rfl
      | succ j => rfl
  | len + 1 => by
    have := inT_ok W len (outT_ok W r len) W.length
    exact this.mono (by rw [Nat.succ_mul]; omega)
/-- The words' numbers at the states, of the first k words. -/
def endsK (W : Rw) (r : Int) : Nat → Nat → List Int
  | 0 => fun _ => []
  | k + 1 => enK (outT W r 120).1 ((outT W r 120).2.2.getD k 0) k (endsK W r k) (outT W r 120).1.length
theorem endsK_len (W : Rw) (r : Int) : ∀ k j, (endsK W r k j).length ≤ k
  | 0, _ => Nat.le_refl _
  | k + 1, j => by
    have := endsK_len W r k j
    rw [endsK, enK]
    split
    · rw [List.length_append, List.length_singleton]; omega
    · omega
/-- Numbers of states as ints. -/
def natI (L : List Nat) : List Int := L.map fun (x : Nat) => (x : Int)
theorem natI_len (L : List Nat) : (natI L).length = L.length := by simp [natI]
theorem natI_at (L : List Nat) (k : Nat) (h : k < L.length) : (ints (natI L))[k]? = some (.int .i64 (L.getD k 0 : Nat)) := by simp [ints, natI, List.getD, h]
theorem natI_set (L : List Nat) (k x : Nat) : (ints (natI L)).set k (.int .i64 (x : Nat)) = ints (natI (L.set k x)) := by simp [ints, natI, List.map_set]
end Go.Proofs.Ytdhppigjlldfmaa
