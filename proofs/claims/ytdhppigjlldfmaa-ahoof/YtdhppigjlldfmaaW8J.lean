/-
  The trie of one word: its states are its beginnings, and fail to their borders.
-/
import Derived.Test.YtdhppigjlldfmaaW8H
import Derived.Test.YtdhppigjlldfmaaW8P
namespace Go.Proofs.Ytdhppigjlldfmaa
theorem take_snocI (L : List Int) (k : Nat) (h : k < L.length) : L.take (k + 1) = L.take k ++ [L.getD k 0] := by rw [List.take_add_one]; simp [List.getD, h]
theorem rw_one (L : List Int) : rw_ [L] 0 = L := rfl
theorem inT_one (L : List Int) (len : Nat) (s : TS) : inT [L] len 1 s = if len < L.length then (growQ s.1 s.2.1 (s.2.2.getD 0 0) (L.getD len 0), growE s.1 s.2.1 (s.2.2.getD 0 0) (L.getD len 0), s.2.2.set 0 (growJ s.1 s.2.1 (s.2.2.getD 0 0) (L.getD len 0))) else s := by
  rw [inT, inT, rw_one]
/-- The trie of one word behind so many rounds. -/
theorem one_run (L : List Int) (r : Int) : ∀ len, (outT [L] r len).1.length = min len L.length + 1 ∧ (outT [L] r len).2.2 = [min len L.length] ∧ TrieOk (outT [L] r len).1 (outT [L] r len).2.1 (fun i => L.take i)
  | 0 => by
    refine ⟨by simp [outT], by simp [outT], ⟨(outT_ok [L] r 0).1, by simp, fun j j0 hj => ?_, fun f b j hf => ?_, fun j j0 hj => ?_, fun i j hi hj _ => ?_, fun f b j h => by cases h⟩⟩
    · simp [outT] at hj; omega
    · constructor
      · intro h; cases h
      · rintro ⟨j0, hj, -⟩; simp [outT] at hj; omega
    · simp [outT] at hj; omega
    · simp [outT] at hi hj; omega
  | len + 1 => by
    obtain ⟨h1, h2, h3⟩ := one_run L r len
    have e : outT [L] r (len + 1) = inT [L] len 1 (outT [L] r len) := rfl
    rw [e, inT_one]
    by_cases hl : len < L.length
    · rw [if_pos hl]
      have hm : min len L.length = len := by omega
      rw [hm] at h1 h2
      have h2' : (outT [L] r len).2.2.getD 0 0 = len := by rw [h2]; rfl
      rw [h2']
      have he : (outT [L] r len).2.1 (len : Nat) (L.getD len 0) = none := by
        cases he : (outT [L] r len).2.1 (len : Nat) (L.getD len 0) with
        | none => rfl
        | some j =>
          obtain ⟨j0, hj, e⟩ := (h3.edge len _ j (by omega)).1 he
          have := congrArg List.length e
          simp only [List.length_take, List.length_append, List.length_singleton] at this
          omega
      have hg := h3.grow (f := len) (b := L.getD len 0) (by omega) he (by rw [h1]; exact take_snocI L len hl) (fun j hj => by
        simp only [List.length_take]
        omega)
      have eQ : growQ (outT [L] r len).1 (outT [L] r len).2.1 len (L.getD len 0) = (outT [L] r len).1 ++ [newSt (outT [L] r len).1 (outT [L] r len).2.1 len (L.getD len 0)] := by unfold growQ; rw [he]
      refine ⟨?_, ?_, hg⟩
      · dsimp only
        rw [eQ, List.length_append, List.length_singleton, h1]
        omega
      · dsimp only
        rw [h2, growJ, he, h1]
        simp
        omega
    · rw [if_neg hl]
      have hm : min (len + 1) L.length = min len L.length := by omega
      rw [hm]
      exact ⟨h1, h2, h3⟩
/-- The length of the longest border, as the specification looks for it. -/
def bestK (L : List Int) (k : Nat) : Nat → Nat
  | 0 => 0
  | n + 1 => if L.take (n + 1) = (L.take (k + 1)).drop (k - n) then n + 1 else bestK L k n
theorem bestK_le (L : List Int) (k : Nat) : ∀ n, bestK L k n ≤ n
  | 0 => Nat.le_refl _
  | n + 1 => by
    have := bestK_le L k n
    rw [bestK]
    split <;> omega
theorem suf_drop {L : List Int} {k n : Nat} (hk : k < L.length) (hn : n ≤ k + 1) : L.take n <:+ L.take (k + 1) ↔ L.take n = (L.take (k + 1)).drop (k + 1 - n) := by
  have l1 : (L.take n).length = n := by rw [List.length_take]; omega
  have l2 : (L.take (k + 1)).length = k + 1 := by rw [List.length_take]; omega
  constructor
  · intro h
    have := List.suffix_iff_eq_drop.1 h
    rwa [l1, l2] at this
  · intro h
    rw [h]
    exact List.drop_suffix _ _
theorem bestK_is (L : List Int) (k : Nat) (hk : k < L.length) : ∀ n, n ≤ k → L.take (bestK L k n) <:+ L.take (k + 1) ∧ ∀ m, m ≤ n → L.take m <:+ L.take (k + 1) → m ≤ bestK L k n
  | 0, _ => ⟨by simp [bestK], fun m hm _ => by omega⟩
  | n + 1, hn => by
    obtain ⟨i1, i2⟩ := bestK_is L k hk n (by omega)
    rw [bestK]
    split
    · rename_i h
      refine ⟨(suf_drop hk (by omega)).2 (by rw [show k + 1 - (n + 1) = k - n by omega]; exact h), fun m hm _ => hm⟩
    · rename_i h
      refine ⟨i1, fun m hm hs => ?_⟩
      by_cases e : m = n + 1
      · subst e
        have := (suf_drop hk (by omega)).1 hs
        rw [show k + 1 - (n + 1) = k - n by omega] at this
        exact absurd this h
      · exact i2 m (by omega) hs
/-- The longest border is where the state fails to. -/
theorem fail_best (L : List Int) (r : Int) (h120 : L.length ≤ 120) (k : Nat) (hk : k < L.length) : failN (outT [L] r 120).1 (k + 1) = bestK L k k := by
  obtain ⟨h1, h2, h3⟩ := one_run L r 120
  rw [show min 120 L.length = L.length by omega] at h1
  obtain ⟨f1, f2, f3, f4⟩ := h3.fails (k + 1) (by omega) (by omega)
  obtain ⟨b1, b2⟩ := bestK_is L k hk k (Nat.le_refl _)
  have hfl := (h3.inv.2.1.lt (s := k + 1) (by omega) (by omega)).1
  have hbl := bestK_le L k k
  have g1 := b2 _ (by omega) f2
  have g2 := f4 (bestK L k k) (by omega) b1 (by omega)
  simp only [List.length_take] at g2
  omega
end Go.Proofs.Ytdhppigjlldfmaa
