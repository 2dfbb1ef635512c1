/-
  Sorting by putting each rune in its place from the end on is sorting by buckets; no program in it.
-/
import Derived.Test.YtlkcdcdgpklpoaaN3Pure
namespace Go.Proofs.Ytlkcdcdgpklpoaa
def LastLe (X : List Int) (o : Int) : Prop := ∀ y, X.getLast? = some y → orderN y ≤ o
theorem LastLe.nil (o : Int) : LastLe [] o := fun y h => by simp at h
theorem LastLe.app {A B : List Int} {o : Int} (h : LastLe A o) (hB : ∀ b ∈ B, orderN b ≤ o) : LastLe (A ++ B) o := fun y hy => by
  rw [List.getLast?_append] at hy
  cases hb : B.getLast? with
  | none => rw [hb] at hy; exact h y (by simpa using hy)
  | some z =>
    rw [hb] at hy
    have : z = y := by simpa using hy
    subst this
    exact hB z (List.mem_of_getLast? hb)
theorem LastLe.mono {X : List Int} {o o' : Int} (h : LastLe X o) (ho : o ≤ o') : LastLe X o' := fun y hy => Int.le_trans (h y hy) ho
structure Sts.Good (s : Sts) : Prop where
  o : LastLe s.out 0
  g1 : ∀ x ∈ s.b1, orderN x = 1
  g2 : ∀ x ∈ s.b2, orderN x = 2
  g3 : ∀ x ∈ s.b3, orderN x = 3
  g4 : ∀ x ∈ s.b4, orderN x = 4
  g5 : ∀ x ∈ s.b5, orderN x = 5
theorem snoc_mem {B : List Int} {r : Int} {P : Int → Prop} (h : ∀ x ∈ B, P x) (hr : P r) : ∀ x ∈ B ++ [r], P x := fun x hx => by
  rcases List.mem_append.1 hx with h1 | h1
  · exact h x h1
  · rw [List.mem_singleton.1 h1]; exact hr
theorem Sts.Good.step {s : Sts} (h : s.Good) (r : Int) : (s.step r).Good := by
  have hlo := orderN_lo r
  have hhi := orderN_hi r
  unfold Sts.step
  by_cases h1 : orderN r = 1
  · rw [if_pos h1]; exact { h with g1 := snoc_mem h.g1 h1 }
  rw [if_neg h1]
  by_cases h2 : orderN r = 2
  · rw [if_pos h2]; exact { h with g2 := snoc_mem h.g2 h2 }
  rw [if_neg h2]
  by_cases h3 : orderN r = 3
  · rw [if_pos h3]; exact { h with g3 := snoc_mem h.g3 h3 }
  rw [if_neg h3]
  by_cases h4 : orderN r = 4
  · rw [if_pos h4]; exact { h with g4 := snoc_mem h.g4 h4 }
  rw [if_neg h4]
  by_cases h5 : orderN r = 5
  · rw [if_pos h5]; exact { h with g5 := snoc_mem h.g5 h5 }
  rw [if_neg h5]
  have h0 : orderN r = 0 := by omega
  exact ⟨fun y hy => by simp at hy; subst hy; omega, fun x hx => by simp at hx, fun x hx => by simp at hx, fun x hx => by simp at hx, fun x hx => by simp at hx, fun x hx => by simp at hx⟩
theorem stsOf_good (L : List Int) : (stsOf L).Good := by
  have : ∀ (L : List Int) (s : Sts), s.Good → (L.foldl Sts.step s).Good := by
    intro L
    induction L with
    | nil => intro s h; exact h
    | cons r L ih => intro s h; rw [List.foldl_cons]; exact ih _ (h.step r)
  exact this L _ ⟨LastLe.nil _, fun x hx => by simp [Sts.new] at hx, fun x hx => by simp [Sts.new] at hx, fun x hx => by simp [Sts.new] at hx, fun x hx => by simp [Sts.new] at hx, fun x hx => by simp [Sts.new] at hx⟩
/-- The place from the end on. -/
theorem split_pt (X Y : List Int) (o : Int) (p : Nat) (hp : p ≤ (X ++ Y).length) (hX : LastLe X o) (hY : ∀ y ∈ Y, o < orderN y)
    (h1 : ∀ j, p ≤ j → j < (X ++ Y).length → o < orderN ((X ++ Y).getD j 0)) (h2 : p = 0 ∨ orderN ((X ++ Y).getD (p - 1) 0) ≤ o) : p = X.length := by
  rw [List.length_append] at hp
  rcases Nat.lt_trichotomy p X.length with h | h | h
  · exfalso
    have hl : X ≠ [] := fun e => by rw [e] at h; simp at h
    have h3 := h1 (X.length - 1) (by omega) (by rw [List.length_append]; omega)
    have e : (X ++ Y).getD (X.length - 1) 0 = X.getLast hl := by
      rw [List.getLast_eq_getElem]
      simp [List.getD, List.getElem?_append_left (show X.length - 1 < X.length by omega), show X.length - 1 < X.length by omega]
    rw [e] at h3
    have h4 := hX _ (List.getLast?_eq_some_getLast hl)
    omega
  · exact h
  · exfalso
    rcases h2 with h2 | h2
    · omega
    · have hm : p - 1 - X.length < Y.length := by omega
      have e : (X ++ Y).getD (p - 1) 0 = Y[p - 1 - X.length] := by
        simp [List.getD, List.getElem?_append_right (show X.length ≤ p - 1 by omega), hm]
      rw [e] at h2
      have := hY _ (List.getElem_mem hm)
      omega
theorem ins_step (s : Sts) (hs : s.Good) (r : Int) (p : Nat) (hr : 0 < orderN r) (hp : p ≤ s.all.length) (h1 : ∀ j, p ≤ j → j < s.all.length → orderN r < orderN (s.all.getD j 0)) (h2 : p = 0 ∨ orderN (s.all.getD (p - 1) 0) ≤ orderN r) :
    s.all.take p ++ [r] ++ s.all.drop p = (s.step r).all := by
  have hhi := orderN_hi r
  have key : ∀ X Y : List Int, s.all = X ++ Y → LastLe X (orderN r) → (∀ y ∈ Y, orderN r < orderN y) → s.all.take p ++ [r] ++ s.all.drop p = X ++ [r] ++ Y := by
    intro X Y e hX hY
    have hpX := split_pt X Y (orderN r) p (by rw [← e]; exact hp) hX hY (by rw [← e]; exact h1) (by rw [← e]; exact h2)
    rw [e, hpX]
    simp
  have L0 : LastLe s.out (orderN r) := hs.o.mono (by omega)
  unfold Sts.step
  by_cases e1 : orderN r = 1
  · rw [if_pos e1, key (s.out ++ s.b1) (s.b2 ++ s.b3 ++ s.b4 ++ s.b5) (by simp [Sts.all]) (L0.app fun b hb => by rw [hs.g1 b hb]; omega) (fun y hy => by
      simp only [List.mem_append] at hy
      rcases hy with ((hy | hy) | hy) | hy
      · rw [hs.g2 y hy]; omega
      · rw [hs.g3 y hy]; omega
      · rw [hs.g4 y hy]; omega
      · rw [hs.g5 y hy]; omega)]
    simp [Sts.all]
  rw [if_neg e1]
  by_cases e2 : orderN r = 2
  · rw [if_pos e2, key (s.out ++ s.b1 ++ s.b2) (s.b3 ++ s.b4 ++ s.b5) (by simp [Sts.all]) ((L0.app fun b hb => by rw [hs.g1 b hb]; omega).app fun b hb => by rw [hs.g2 b hb]; omega) (fun y hy => by
      simp only [List.mem_append] at hy
      rcases hy with (hy | hy) | hy
      · rw [hs.g3 y hy]; omega
      · rw [hs.g4 y hy]; omega
      · rw [hs.g5 y hy]; omega)]
    simp [Sts.all]
  rw [if_neg e2]
  by_cases e3 : orderN r = 3
  · rw [if_pos e3, key (s.out ++ s.b1 ++ s.b2 ++ s.b3) (s.b4 ++ s.b5) (by simp [Sts.all]) (((L0.app fun b hb => by rw [hs.g1 b hb]; omega).app fun b hb => by rw [hs.g2 b hb]; omega).app fun b hb => by rw [hs.g3 b hb]; omega) (fun y hy => by
      simp only [List.mem_append] at hy
      rcases hy with hy | hy
      · rw [hs.g4 y hy]; omega
      · rw [hs.g5 y hy]; omega)]
    simp [Sts.all]
  rw [if_neg e3]
  by_cases e4 : orderN r = 4
  · rw [if_pos e4, key (s.out ++ s.b1 ++ s.b2 ++ s.b3 ++ s.b4) s.b5 (by simp [Sts.all]) ((((L0.app fun b hb => by rw [hs.g1 b hb]; omega).app fun b hb => by rw [hs.g2 b hb]; omega).app fun b hb => by rw [hs.g3 b hb]; omega).app fun b hb => by rw [hs.g4 b hb]; omega) (fun y hy => by rw [hs.g5 y hy]; omega)]
    simp [Sts.all]
  rw [if_neg e4]
  have e5 : orderN r = 5 := by omega
  rw [if_pos e5, key (s.out ++ s.b1 ++ s.b2 ++ s.b3 ++ s.b4 ++ s.b5) [] (by simp [Sts.all]) (((((L0.app fun b hb => by rw [hs.g1 b hb]; omega).app fun b hb => by rw [hs.g2 b hb]; omega).app fun b hb => by rw [hs.g3 b hb]; omega).app fun b hb => by rw [hs.g4 b hb]; omega).app fun b hb => by rw [hs.g5 b hb]; omega) (fun y hy => by simp at hy)]
  simp [Sts.all]
theorem take_snocP (L : List Int) (k : Nat) (h : k < L.length) : L.take (k + 1) = L.take k ++ [L.getD k 0] := by rw [List.take_add_one]; simp [List.getD, h]
/-- One rune more: a mark goes to its place, another one to the end. -/
theorem sortL_ins (L : List Int) (k : Nat) (hk : k < L.length) (p : Nat) (hr : 0 < orderN (L.getD k 0)) (hp : p ≤ (sortL (L.take k)).length) (h1 : ∀ j, p ≤ j → j < (sortL (L.take k)).length → orderN (L.getD k 0) < orderN ((sortL (L.take k)).getD j 0))
    (h2 : p = 0 ∨ orderN ((sortL (L.take k)).getD (p - 1) 0) ≤ orderN (L.getD k 0)) : sortL (L.take (k + 1)) = (sortL (L.take k)).take p ++ [L.getD k 0] ++ (sortL (L.take k)).drop p := by
  have h := ins_step (stsOf (L.take k)) (stsOf_good _) (L.getD k 0) p hr hp h1 h2
  unfold sortL
  rw [take_snocP L k hk, stsOf_snoc]
  exact h.symm
theorem Sts.step_zero (s : Sts) (r : Int) (h : orderN r = 0) : s.step r = ⟨s.all ++ [r], [], [], [], [], []⟩ := by simp [Sts.step, h]
theorem sortL_end (L : List Int) (k : Nat) (hk : k < L.length) (hr : orderN (L.getD k 0) = 0) : sortL (L.take (k + 1)) = sortL (L.take k) ++ [L.getD k 0] := by
  unfold sortL
  rw [take_snocP L k hk, stsOf_snoc, Sts.step_zero _ _ hr]
  simp [Sts.all]
end Go.Proofs.Ytlkcdcdgpklpoaa
