/-
  Tries as lists of lists: a step goes to the longest end that is there; a new state fails to the longest other end.
-/
import Derived.Test.YtdhppigjlldfmaaW8E
namespace Go.Proofs.Ytdhppigjlldfmaa
abbrev Lst := List Int
/-- The states stand for lists. -/
structure TrieOk (Q : List Sq) (E : Ed) (S : Nat → Lst) : Prop where
  inv : TrieInv Q E
  root : S 0 = []
  up : ∀ j, 0 < j → j < Q.length → ∃ p b, p < j ∧ S j = S p ++ [b]
  edge : ∀ (f : Nat) b j, f < Q.length → (E f b = some j ↔ 0 < j ∧ j < Q.length ∧ S j = S f ++ [b])
  fails : ∀ j, 0 < j → j < Q.length → failN Q j < Q.length ∧ S (failN Q j) <:+ S j ∧ failN Q j ≠ j ∧ ∀ i, i < Q.length → S i <:+ S j → i ≠ j → (S i).length ≤ (S (failN Q j)).length
  one : ∀ i j, i < Q.length → j < Q.length → S i = S j → i = j
  dom : ∀ f b j, E f b = some j → ∃ p : Nat, p < Q.length ∧ f = p
/-- The longest end of a list that is there. -/
def Longest (n : Nat) (S : Nat → Lst) (x : Lst) (j : Nat) : Prop := j < n ∧ S j <:+ x ∧ ∀ i, i < n → S i <:+ x → (S i).length ≤ (S j).length
theorem suf_snoc {a y : Lst} {r : Int} (h : a <:+ y ++ [r]) (h0 : a ≠ []) : ∃ u, a = u ++ [r] ∧ u <:+ y := by
  rcases List.suffix_concat_iff.1 h with h | ⟨t, h1, h2⟩
  · exact absurd h h0
  · exact ⟨t, h1, h2⟩
theorem suf_both {a b : Lst} (h : a <:+ b) (r : Int) : a ++ [r] <:+ b ++ [r] := by
  obtain ⟨z, hz⟩ := h
  exact ⟨z, by rw [← List.append_assoc, hz]⟩
theorem snoc_inj {a b : Lst} {x y : Int} (h : a ++ [x] = b ++ [y]) : a = b ∧ x = y := by
  have := List.append_inj' h rfl
  exact ⟨this.1, by simpa using this.2⟩
theorem step_longest {Q : List Sq} {E : Ed} {S : Nat → Lst} (h : TrieOk Q E S) (r : Int) : ∀ s, s < Q.length → Longest Q.length S (S s ++ [r]) (stepN Q E s r) := by
  intro s
  induction s using Nat.strongRecOn with
  | _ s ih =>
    intro hs
    cases he : E s r with
    | some j =>
      obtain ⟨j0, jl, hj⟩ := (h.edge s r j hs).1 he
      rw [stepN_yes he]
      refine ⟨jl, by rw [hj]; exact List.suffix_refl _, fun i _ hi => ?_⟩
      rw [hj]
      exact hi.length_le
    | none =>
      have noj : ∀ i, i < Q.length → S i ≠ S s ++ [r] := fun i hi e => by
        have i0 : 0 < i := by
          rcases Nat.eq_zero_or_pos i with rfl | h0
          · rw [h.root] at e; simp at e
          · exact h0
        have := (h.edge s r i hs).2 ⟨i0, hi, e⟩
        rw [he] at this
        cases this
      by_cases s0 : s = 0
      · subst s0
        rw [stepN_zero he]
        refine ⟨hs, by rw [h.root]; exact List.nil_suffix, fun i hi hsuf => ?_⟩
        rw [h.root] at hsuf ⊢
        by_cases hi0 : S i = []
        · rw [hi0]; exact Nat.le_refl _
        · obtain ⟨u, hu, hu2⟩ := suf_snoc hsuf hi0
          rw [List.suffix_nil.1 hu2] at hu
          exact absurd (by rw [hu, h.root]) (noj i hi)
      · obtain ⟨f1, f2, f3, f4⟩ := h.fails s (by omega) hs
        rw [stepN_back h.inv.2.1 hs (by omega) he]
        obtain ⟨l1, l2, l3⟩ := ih (failN Q s) (h.inv.2.1.lt (by omega) hs).1 f1
        refine ⟨l1, l2.trans (suf_both f2 r), fun i hi hsuf => ?_⟩
        by_cases hi0 : S i = []
        · rw [hi0]; exact Nat.zero_le _
        · obtain ⟨u, hu, hu2⟩ := suf_snoc hsuf hi0
          have i0 : 0 < i := by
            rcases Nat.eq_zero_or_pos i with rfl | h0
            · exact absurd h.root hi0
            · exact h0
          obtain ⟨p, b, hp, hpb⟩ := h.up i i0 hi
          rw [hu] at hpb
          obtain ⟨rfl, rfl⟩ := snoc_inj hpb
          have pne : p ≠ s := fun e => noj i hi (by rw [hu, e])
          have hpl := f4 p (by omega) hu2 pne
          refine l3 i hi ?_
          rw [hu]
          exact suf_both (List.suffix_of_suffix_length_le hu2 f2 hpl) r
/-- A new state, no shorter than the others, stands for the list behind its edge. -/
theorem TrieOk.grow {Q : List Sq} {E : Ed} {S : Nat → Lst} (h : TrieOk Q E S) {f : Nat} {b : Int} (hf : f < Q.length) (he : E f b = none) (hS : S Q.length = S f ++ [b]) (hlen : ∀ j, j < Q.length → (S j).length ≤ (S f).length + 1) :
    TrieOk (growQ Q E f b) (growE Q E f b) S := by
  have hinv := h.inv.grow hf b
  have eQ : growQ Q E f b = Q ++ [newSt Q E f b] := by unfold growQ; rw [he]
  have eE : growE Q E f b = upE E f b Q.length := by unfold growE; rw [he]
  have eL : (Q ++ [newSt Q E f b]).length = Q.length + 1 := by simp
  have nof : ∀ (f' : Nat) b', E f' b' ≠ some Q.length := fun f' b' e => by have := (h.inv.2.2.2 _ _ _ e).2; omega
  have new : ∀ i, i < Q.length → S i ≠ S Q.length := fun i hi e => by
    have i0 : 0 < i := by
      rcases Nat.eq_zero_or_pos i with rfl | h0
      · rw [h.root, hS] at e; simp at e
      · exact h0
    have := (h.edge f b i hf).2 ⟨i0, hi, by rw [e, hS]⟩
    rw [he] at this
    cases this
  have pos : 0 < Q.length := h.inv.1
  rw [eQ, eE] at hinv ⊢
  refine ⟨hinv, h.root, fun j j0 hj => ?_, fun f' b' j hf' => ?_, fun j j0 hj => ?_, fun i j hi hj e => ?_, fun f' b' j e => ?_⟩
  · by_cases e : j < Q.length
    · exact h.up j j0 e
    · obtain rfl : j = Q.length := by omega
      exact ⟨f, b, hf, hS⟩
  · rw [eL] at hf' ⊢
    unfold upE
    by_cases c : (f' : Int) = (f : Int) ∧ b' = b
    · rw [if_pos c]
      obtain ⟨c1, rfl⟩ := c
      obtain rfl : f' = f := by omega
      constructor
      · intro e; cases e; exact ⟨pos, by omega, hS⟩
      · rintro ⟨j0, hj, e⟩
        by_cases ej : j < Q.length
        · exact absurd (e.trans hS.symm) (new j ej)
        · congr 1; omega
    · rw [if_neg c]
      by_cases ef : f' < Q.length
      · rw [h.edge f' b' j ef]
        constructor
        · rintro ⟨a1, a2, a3⟩; exact ⟨a1, by omega, a3⟩
        · rintro ⟨a1, a2, a3⟩
          refine ⟨a1, ?_, a3⟩
          by_cases ej : j < Q.length
          · exact ej
          · obtain rfl : j = Q.length := by omega
            rw [hS] at a3
            obtain ⟨e1, e2⟩ := snoc_inj a3
            have := h.one _ _ hf ef e1
            exact absurd ⟨by rw [this], e2.symm⟩ c
      · obtain rfl : f' = Q.length := by omega
        constructor
        · intro e
          obtain ⟨p, hp, hp'⟩ := h.dom _ _ _ e
          omega
        · rintro ⟨a1, a2, a3⟩
          exfalso
          have l1 : (S j).length = (S f).length + 2 := by rw [a3, hS]; simp
          by_cases ej : j < Q.length
          · have := hlen j ej; omega
          · obtain rfl : j = Q.length := by omega
            rw [hS] at l1; simp at l1
  · rw [eL] at hj ⊢
    by_cases e : j < Q.length
    · have ef : failN (Q ++ [newSt Q E f b]) j = failN Q j := by unfold failN; rw [sq_old _ _ _ e]
      obtain ⟨a1, a2, a3, a4⟩ := h.fails j j0 e
      rw [ef]
      refine ⟨by omega, a2, a3, fun i hi hsuf hne => ?_⟩
      by_cases ei : i < Q.length
      · exact a4 i ei hsuf hne
      · obtain rfl : i = Q.length := by omega
        have l1 := hsuf.length_le
        have l2 := hlen j e
        have l3 : (S Q.length).length = (S f).length + 1 := by rw [hS]; simp
        exact absurd (hsuf.eq_of_length (by omega)).symm (new j e)
    · obtain rfl : j = Q.length := by omega
      have ef : failN (Q ++ [newSt Q E f b]) Q.length = newFail Q E f b := by unfold failN; rw [sq_new]; rfl
      have hlt := newFail_lt h.inv f b
      rw [ef]
      have key : S (newFail Q E f b) <:+ S Q.length ∧ ∀ i, i < Q.length → S i <:+ S Q.length → (S i).length ≤ (S (newFail Q E f b)).length := by
        unfold newFail
        by_cases f0 : f = 0
        · rw [if_pos f0, h.root]
          refine ⟨List.nil_suffix, fun i hi hsuf => ?_⟩
          rw [hS, f0, h.root] at hsuf
          by_cases hi0 : S i = []
          · rw [hi0]; exact Nat.le_refl _
          · obtain ⟨u, hu, hu2⟩ := suf_snoc hsuf hi0
            rw [List.suffix_nil.1 hu2] at hu
            exact absurd (by rw [hu, hS, f0, h.root]) (new i hi)
        · rw [if_neg f0]
          obtain ⟨g1, g2, g3, g4⟩ := h.fails f (by omega) hf
          obtain ⟨l1, l2, l3⟩ := step_longest h b (failN Q f) g1
          rw [hS]
          refine ⟨l2.trans (suf_both g2 b), fun i hi hsuf => ?_⟩
          by_cases hi0 : S i = []
          · rw [hi0]; exact Nat.zero_le _
          · obtain ⟨u, hu, hu2⟩ := suf_snoc hsuf hi0
            have i0 : 0 < i := by
              rcases Nat.eq_zero_or_pos i with rfl | h0
              · exact absurd h.root hi0
              · exact h0
            obtain ⟨p, c, hp, hpb⟩ := h.up i i0 hi
            have hpb' := hpb
            rw [hu] at hpb
            obtain ⟨rfl, rfl⟩ := snoc_inj hpb
            have pne : p ≠ f := fun e => new i hi (by rw [hu, e, hS])
            have hpl := g4 p (by omega) hu2 pne
            refine l3 i hi ?_
            rw [hu]
            exact suf_both (List.suffix_of_suffix_length_le hu2 g2 hpl) b
      refine ⟨by omega, key.1, by omega, fun i hi hsuf hne => key.2 i (by omega) hsuf⟩
  · rw [eL] at hi hj
    by_cases ei : i < Q.length <;> by_cases ej : j < Q.length
    · exact h.one _ _ ei ej e
    · obtain rfl : j = Q.length := by omega
      exact absurd e (new i ei)
    · obtain rfl : i = Q.length := by omega
      exact absurd e.symm (new j ej)
    · omega
  · rw [eL]
    unfold upE at e
    by_cases c : f' = (f : Int) ∧ b' = b
    · exact ⟨f, by omega, c.1⟩
    · rw [if_neg c] at e
      obtain ⟨p, hp, hp'⟩ := h.dom _ _ _ e
      exact ⟨p, by omega, hp'⟩
end Go.Proofs.Ytdhppigjlldfmaa
