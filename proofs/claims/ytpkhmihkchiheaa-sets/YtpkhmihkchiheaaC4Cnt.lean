/-
  How many numbers a set and its contrary have: as many as there are.
-/
import Derived.Test.YtpkhmihkchiheaaC4W
namespace Go.Proofs.Ytpkhmihkchiheaa
def wide : List (Int × Int) → Int
  | [] => 0
  | p :: r => (p.2 - p.1) + wide r
theorem wide_append (A B : List (Int × Int)) : wide (A ++ B) = wide A + wide B := by
  induction A with
  | nil => simp [wide]
  | cons p r ih => simp only [List.cons_append, wide, ih]; omega
theorem wide_not {S : List (Int × Int)} : ∀ {f : Int}, Can (f - 1) S → (∀ p ∈ S, p.2 ≤ 1114112) → f ≤ 1114112 → wide (notF S f) + wide S = 1114112 - f := by
  induction S with
  | nil =>
    intro f _ _ hf
    unfold notF
    by_cases h : f ≤ 1114111
    · rw [if_pos h]; simp only [wide]; omega
    · rw [if_neg h]; simp only [wide]; omega
  | cons p r ih =>
    intro f hS hb hf
    obtain ⟨s1, s2, s3⟩ := hS
    have i := ih (f := p.2) (s3.mono (by omega)) (fun q hq => hb q (by simp [hq])) (hb p (by simp))
    unfold notF
    by_cases h : f < p.1
    · rw [if_pos h]; simp only [wide]; omega
    · rw [if_neg h]; simp only [wide]; omega
theorem cnt_wide (C : List (Int × Int)) : ∀ k, k ≤ C.length → cntN (flS C) k = wide (C.take k)
  | 0, _ => rfl
  | k + 1, h => by
    have hf := flS_at C k (by omega)
    rw [cntN, cnt_wide C k (by omega), hf.1, hf.2, take_snocS C k (by omega), wide_append]
    simp only [wide]
    omega
/-- A good set and its contrary have all numbers between them. -/
theorem cnt_both {L : List Int} {C : List (Int × Int)} (h : Good4 L C) : cntN L (L.length / 2) + cntN (flS (notF C 0)) ((flS (notF C 0)).length / 2) = 1114112 := by
  have e1 : L.length / 2 = C.length := by rw [← h.fl, flS_len]; omega
  have e2 : (flS (notF C 0)).length / 2 = (notF C 0).length := by rw [flS_len]; omega
  rw [e1, e2, ← h.fl, cnt_wide C _ (Nat.le_refl _), cnt_wide _ _ (Nat.le_refl _), List.take_length, List.take_length]
  have := wide_not (S := C) (f := 0) (h.can.mono (by omega)) h.top (by omega)
  omega
/-- The contrary of the contrary. -/
theorem not_not {C : List (Int × Int)} (h : CT C) : notF (notF C 0) 0 = C := by
  obtain ⟨a1, -, a3⟩ := ct_not h
  obtain ⟨b1, -, b3⟩ := ct_not a1
  refine can_ext b1.can h.can fun x => ?_
  rw [b3 x, a3 x]
  constructor
  · rintro ⟨h1, h2⟩
    exact Classical.byContradiction fun q => h2 ⟨h1, q⟩
  · intro hx
    exact ⟨ct_range h hx, fun q => q.2 hx⟩
end Go.Proofs.Ytpkhmihkchiheaa
