/-
  Chapter 4's plain facts: spans as pairs (first, one behind the last), the numbers in them, the one form of a set, adding a span, the contrary, joining.
-/
import Derived.Test.YtlkcdcdgpklpoaaPure
namespace Go.Proofs.Ytlkcdcdgpklpoaa
/-- x is in one of the spans. -/
def Mem (x : Int) : List (Int × Int) → Prop
  | [] => False
  | p :: r => (p.1 ≤ x ∧ x < p.2) ∨ Mem x r
/-- Spans in the one form: none empty, each behind the end of the one ahead, all behind c. -/
def Can (c : Int) : List (Int × Int) → Prop
  | [] => True
  | p :: r => c < p.1 ∧ p.1 < p.2 ∧ Can p.2 r
theorem Can.mono {c c' : Int} {S : List (Int × Int)} (h : Can c S) (hc : c' ≤ c) : Can c' S := by
  cases S with
  | nil => trivial
  | cons p r => exact ⟨by have := h.1; omega, h.2⟩
theorem Can.lt {c x : Int} {S : List (Int × Int)} (h : Can c S) (hx : Mem x S) : c < x := by
  induction S generalizing c with
  | nil => exact hx.elim
  | cons p r ih =>
    obtain ⟨h1, h2, h3⟩ := h
    rcases hx with hx | hx
    · omega
    · have := ih h3 hx; omega
theorem can_ext {c : Int} {A B : List (Int × Int)} (hA : Can c A) (hB : Can c B) (h : ∀ x, Mem x A ↔ Mem x B) : A = B := by
  induction A generalizing c B with
  | nil =>
    cases B with
    | nil => rfl
    | cons q s => exact ((h q.1).2 (.inl ⟨Int.le_refl _, hB.2.1⟩)).elim
  | cons p r ih =>
    cases B with
    | nil => exact ((h p.1).1 (.inl ⟨Int.le_refl _, hA.2.1⟩)).elim
    | cons q s =>
      obtain ⟨a1, a2, a3⟩ := hA
      obtain ⟨b1, b2, b3⟩ := hB
      have e1 : p.1 = q.1 := by
        have k1 : q.1 ≤ p.1 := by
          rcases (h p.1).1 (.inl ⟨Int.le_refl _, a2⟩) with k | k
          · exact k.1
          · have := b3.lt k; omega
        have k2 : p.1 ≤ q.1 := by
          rcases (h q.1).2 (.inl ⟨Int.le_refl _, b2⟩) with k | k
          · exact k.1
          · have := a3.lt k; omega
        omega
      have e2 : p.2 = q.2 := by
        rcases (by omega : p.2 < q.2 ∨ p.2 = q.2 ∨ q.2 < p.2) with k | k | k
        · rcases (h p.2).2 (.inl ⟨by omega, k⟩) with k' | k'
          · omega
          · have := a3.lt k'; omega
        · exact k
        · rcases (h q.2).1 (.inl ⟨by omega, k⟩) with k' | k'
          · omega
          · have := b3.lt k'; omega
      have e : p = q := Prod.ext e1 e2
      subst e
      rw [ih a3 b3]
      intro x
      constructor
      · intro hx
        rcases (h x).1 (.inr hx) with k | k
        · have := a3.lt hx; omega
        · exact k
      · intro hx
        rcases (h x).2 (.inr hx) with k | k
        · have := b3.lt hx; omega
        · exact k
theorem mem_append {x : Int} {A B : List (Int × Int)} : Mem x (A ++ B) ↔ Mem x A ∨ Mem x B := by
  induction A with
  | nil => simp [Mem]
  | cons p r ih => simp [Mem, ih, or_assoc]
theorem mem_iff {x : Int} {A : List (Int × Int)} : Mem x A ↔ ∃ p ∈ A, p.1 ≤ x ∧ x < p.2 := by
  induction A with
  | nil => simp [Mem]
  | cons p r ih => simp [Mem, ih]
theorem Can.ge {c : Int} {S : List (Int × Int)} (h : Can c S) {p : Int × Int} (hp : p ∈ S) : c < p.1 ∧ p.1 < p.2 := by
  induction S generalizing c with
  | nil => cases hp
  | cons q r ih =>
    obtain ⟨h1, h2, h3⟩ := h
    rcases List.mem_cons.1 hp with rfl | hp
    · exact ⟨h1, h2⟩
    · have := ih h3 hp; omega
/-- What is kept of the spans, and the span that is added, as far as it has become. -/
def addF : List (Int × Int) → Int → Int → List (Int × Int) × Int × Int
  | [], lo, hi => ([], lo, hi)
  | p :: r, lo, hi => if p.2 < lo ∨ hi < p.1 then (p :: (addF r lo hi).1, (addF r lo hi).2) else addF r (min lo p.1) (max hi p.2)
/-- A span put at its place. -/
def insS (o : List (Int × Int)) (l h : Int) : List (Int × Int) := o.takeWhile (fun p => decide (p.1 < l)) ++ (l, h) :: o.dropWhile (fun p => decide (p.1 < l))
def addS (S : List (Int × Int)) (lo hi : Int) : List (Int × Int) := insS (addF S lo hi).1 (addF S lo hi).2.1 (addF S lo hi).2.2
theorem addF_behind {c : Int} {S : List (Int × Int)} (h : Can c S) {lo hi : Int} (hc : hi ≤ c) : addF S lo hi = (S, lo, hi) := by
  induction S generalizing c with
  | nil => rfl
  | cons p r ih =>
    obtain ⟨h1, h2, h3⟩ := h
    unfold addF
    rw [if_pos (.inr (by omega)), ih h3 (by omega)]
theorem insS_mem (o : List (Int × Int)) (l h : Int) : (l, h) ∈ insS o l h := by simp [insS]
theorem addS_can {S : List (Int × Int)} : ∀ {c lo hi : Int}, Can c S → c < lo → lo < hi → Can c (addS S lo hi) ∧ ∀ x, Mem x (addS S lo hi) ↔ Mem x S ∨ (lo ≤ x ∧ x < hi) := by
  induction S with
  | nil => intro c lo hi _ h1 h2; exact ⟨⟨h1, h2, trivial⟩, fun x => by simp [addS, addF, insS, Mem]⟩
  | cons p r ih =>
    intro c lo hi hS h1 h2
    obtain ⟨s1, s2, s3⟩ := hS
    by_cases k1 : p.2 < lo
    · obtain ⟨i1, i2⟩ := ih s3 k1 h2
      have e : addS (p :: r) lo hi = p :: addS r lo hi := by
        have hl : p.2 < (addF r lo hi).2.1 := (i1.ge (insS_mem _ _ _)).1
        unfold addS
        rw [show addF (p :: r) lo hi = (p :: (addF r lo hi).1, (addF r lo hi).2) by rw [addF, if_pos (.inl k1)]]
        have hd : decide (p.1 < (addF r lo hi).2.1) = true := decide_eq_true (by omega)
        show insS (p :: (addF r lo hi).1) (addF r lo hi).2.1 (addF r lo hi).2.2 = p :: insS (addF r lo hi).1 (addF r lo hi).2.1 (addF r lo hi).2.2
        unfold insS
        rw [List.takeWhile_cons, List.dropWhile_cons, if_pos hd, if_pos hd]
        rfl
      rw [e]
      exact ⟨⟨s1, s2, i1⟩, fun x => by simp only [Mem]; rw [i2 x, or_assoc]⟩
    · by_cases k2 : hi < p.1
      · have e : addS (p :: r) lo hi = (lo, hi) :: p :: r := by
          unfold addS
          rw [show addF (p :: r) lo hi = (p :: r, lo, hi) by unfold addF; rw [if_pos (.inr k2), addF_behind s3 (by omega)]]
          have hd : ¬ decide (p.1 < lo) = true := by simp; omega
          show insS (p :: r) lo hi = _
          unfold insS
          rw [List.takeWhile_cons, List.dropWhile_cons, if_neg hd, if_neg hd]
          rfl
        rw [e]
        refine ⟨⟨h1, h2, k2, s2, s3⟩, fun x => ?_⟩
        simp only [Mem]
        constructor
        · rintro (h | h)
          · exact .inr h
          · exact .inl h
        · rintro (h | h)
          · exact .inr h
          · exact .inl h
      · have e : addS (p :: r) lo hi = addS r (min lo p.1) (max hi p.2) := by
          unfold addS
          rw [show addF (p :: r) lo hi = addF r (min lo p.1) (max hi p.2) by conv => lhs; unfold addF; rw [if_neg (by omega)]]
        rw [e]
        obtain ⟨i1, i2⟩ := ih (s3.mono (show c ≤ p.2 by omega)) (show c < min lo p.1 by omega) (show min lo p.1 < max hi p.2 by omega)
        refine ⟨i1, fun x => ?_⟩
        rw [i2 x]
        simp only [Mem]
        constructor
        · rintro (h | h)
          · exact .inl (.inr h)
          · rcases (by omega : (lo ≤ x ∧ x < hi) ∨ (p.1 ≤ x ∧ x < p.2)) with k | k
            · exact .inr k
            · exact .inl (.inl k)
        · rintro ((h | h) | h)
          · exact .inr (by omega)
          · exact .inl h
          · exact .inr (by omega)
/-- The contrary from a number on. -/
def notF : List (Int × Int) → Int → List (Int × Int)
  | [], from' => if from' ≤ 1114111 then [(from', 1114112)] else []
  | p :: r, from' => if from' < p.1 then (from', p.1) :: notF r p.2 else notF r p.2
theorem notF_can {S : List (Int × Int)} : ∀ {f c : Int}, Can (f - 1) S → c < f → (∀ p ∈ S, p.2 ≤ 1114112) → Can c (notF S f) ∧ ∀ x, Mem x (notF S f) ↔ (f ≤ x ∧ x ≤ 1114111) ∧ ¬ Mem x S := by
  induction S with
  | nil =>
    intro f c _ hc _
    unfold notF
    by_cases h : f ≤ 1114111
    · rw [if_pos h]
      refine ⟨⟨hc, by show f < 1114112; omega, trivial⟩, fun x => ?_⟩
      simp only [Mem, or_false, not_false_iff, and_true]
      omega
    · rw [if_neg h]
      refine ⟨trivial, fun x => ?_⟩
      simp only [Mem, not_false_iff, and_true, false_iff]
      omega
  | cons p r ih =>
    intro f c hS hc hb
    obtain ⟨s1, s2, s3⟩ := hS
    have hp := hb p (by simp)
    obtain ⟨i1, i2⟩ := ih (f := p.2) (c := p.1) (s3.mono (by omega)) s2 (fun q hq => hb q (by simp [hq]))
    unfold notF
    by_cases h : f < p.1
    · rw [if_pos h]
      refine ⟨⟨hc, h, i1⟩, fun x => ?_⟩
      simp only [Mem]
      rw [i2 x]
      constructor
      · rintro (k | ⟨k, k'⟩)
        · exact ⟨by omega, fun q => by rcases q with q | q
                                       · omega
                                       · have := s3.lt q; omega⟩
        · exact ⟨by omega, fun q => by rcases q with q | q
                                       · omega
                                       · exact k' q⟩
      · rintro ⟨k, k'⟩
        by_cases q : x < p.1
        · exact .inl ⟨k.1, q⟩
        · refine .inr ⟨⟨?_, k.2⟩, fun m => k' (.inr m)⟩
          have : ¬ (p.1 ≤ x ∧ x < p.2) := fun m => k' (.inl m)
          omega
    · rw [if_neg h]
      refine ⟨i1.mono (by omega), fun x => ?_⟩
      simp only [Mem]
      rw [i2 x]
      constructor
      · rintro ⟨k, k'⟩
        exact ⟨by omega, fun q => by rcases q with q | q
                                     · omega
                                     · exact k' q⟩
      · rintro ⟨k, k'⟩
        refine ⟨⟨?_, k.2⟩, fun m => k' (.inr m)⟩
        have : ¬ (p.1 ≤ x ∧ x < p.2) := fun m => k' (.inl m)
        omega
/-- Joining, the last one ahead: the one that is taken next is made one with the last, where it begins no later than that ends. -/
def jStep (acc : List (Int × Int)) (p : Int × Int) : List (Int × Int) :=
  if p.2 ≤ p.1 then acc else match acc with
    | [] => [p]
    | q :: r => if p.1 ≤ q.2 then (q.1, max q.2 p.2) :: r else p :: q :: r
theorem jStep_nil (p : Int × Int) : jStep [] p = if p.2 ≤ p.1 then [] else [p] := rfl
theorem jStep_cons (q : Int × Int) (r : List (Int × Int)) (p : Int × Int) : jStep (q :: r) p = if p.2 ≤ p.1 then q :: r else if p.1 ≤ q.2 then (q.1, max q.2 p.2) :: r else p :: q :: r := rfl
def joinF (S : List (Int × Int)) : List (Int × Int) := (S.foldl jStep []).reverse
theorem jStep_len (acc : List (Int × Int)) (p : Int × Int) : acc.length ≤ (jStep acc p).length ∧ (jStep acc p).length ≤ acc.length + 1 := by
  unfold jStep
  split
  · simp
  · split
    · simp
    · split <;> simp
theorem jFold_len (S acc : List (Int × Int)) : acc.length ≤ (S.foldl jStep acc).length := by
  induction S generalizing acc with
  | nil => simp
  | cons p r ih => have h1 := ih (jStep acc p); have h2 := jStep_len acc p; simp only [List.foldl_cons]; omega
/-- A reversed list in the one form: seen from its last. -/
def CanR (c : Int) : List (Int × Int) → Prop
  | [] => True
  | [p] => c < p.1 ∧ p.1 < p.2
  | p :: q :: r => p.1 < p.2 ∧ q.2 < p.1 ∧ CanR c (q :: r)
theorem can_snoc {c : Int} {A : List (Int × Int)} {q p : Int × Int} : Can c (A ++ [q]) → p.1 < p.2 → q.2 < p.1 → Can c (A ++ [q] ++ [p]) := by
  induction A generalizing c with
  | nil => rintro ⟨h1, h2, _⟩ h3 h4; exact ⟨h1, h2, h4, h3, trivial⟩
  | cons a A ih => rintro ⟨h1, h2, h3⟩ h4 h5; exact ⟨h1, h2, ih h3 h4 h5⟩
theorem can_of_canR {c : Int} : ∀ {A : List (Int × Int)}, CanR c A → Can c A.reverse
  | [], _ => trivial
  | [p], h => ⟨h.1, h.2, trivial⟩
  | p :: q :: r, ⟨h1, h2, h3⟩ => by
    have i := can_of_canR h3
    simp only [List.reverse_cons] at i ⊢
    exact can_snoc i h1 h2
theorem mem_reverse {x : Int} {A : List (Int × Int)} : Mem x A.reverse ↔ Mem x A := by simp [mem_iff]
theorem jFold {c : Int} : ∀ {S acc : List (Int × Int)}, CanR c acc → (∀ q ∈ acc, ∀ p ∈ S, p.1 < p.2 → q.1 ≤ p.1) → (∀ p ∈ S, p.1 < p.2 → c < p.1) → S.Pairwise (fun p q => p.1 ≤ q.1) →
    CanR c (S.foldl jStep acc) ∧ ∀ x, Mem x (S.foldl jStep acc) ↔ Mem x acc ∨ Mem x S
  | [], acc, h, _, _, _ => ⟨h, fun x => by simp [Mem]⟩
  | p :: S, acc, h, ha, hc, hs => by
    obtain ⟨hs1, hs2⟩ := List.pairwise_cons.1 hs
    have key : CanR c (jStep acc p) ∧ (∀ q ∈ jStep acc p, ∀ p' ∈ S, p'.1 < p'.2 → q.1 ≤ p'.1) ∧ ∀ x, Mem x (jStep acc p) ↔ Mem x acc ∨ (p.1 ≤ x ∧ x < p.2) := by
      by_cases k : p.2 ≤ p.1
      · rw [show jStep acc p = acc by unfold jStep; rw [if_pos k]]
        exact ⟨h, fun q hq p' hp' => ha q hq p' (by simp [hp']), fun x => ⟨.inl, fun m => m.elim id (fun m => absurd m (by omega))⟩⟩
      · have k' : p.1 < p.2 := by omega
        have hcp := hc p (by simp) k'
        cases acc with
        | nil => rw [jStep_nil, if_neg k]; exact ⟨⟨hcp, k'⟩, fun q hq p' hp' _ => by simp at hq; subst hq; exact hs1 p' hp', fun x => by simp [Mem]⟩
        | cons q r =>
          have hq := ha q (by simp) p (by simp) k'
          rw [jStep_cons, if_neg k]
          by_cases m : p.1 ≤ q.2
          · rw [if_pos m]
            have hqq : q.1 < q.2 := by cases r with
              | nil => exact h.2
              | cons r1 r2 => exact h.1
            refine ⟨?_, fun q' hq' p' hp' hl => ?_, fun x => ?_⟩
            · cases r with
              | nil => exact ⟨h.1, by show q.1 < max q.2 p.2; omega⟩
              | cons r1 r2 => exact ⟨by show q.1 < max q.2 p.2; omega, h.2.1, h.2.2⟩
            · rcases List.mem_cons.1 hq' with rfl | hq'
              · exact ha q (by simp) p' (by simp [hp']) hl
              · exact ha q' (by simp [hq']) p' (by simp [hp']) hl
            · simp only [Mem]
              constructor
              · rintro (t | t)
                · rcases (by omega : (q.1 ≤ x ∧ x < q.2) ∨ (p.1 ≤ x ∧ x < p.2)) with u | u
                  · exact .inl (.inl u)
                  · exact .inr u
                · exact .inl (.inr t)
              · rintro ((t | t) | t)
                · exact .inl (by omega)
                · exact .inr t
                · exact .inl (by omega)
          · rw [if_neg m]
            refine ⟨⟨k', by omega, h⟩, fun q' hq' p' hp' hl => ?_, fun x => ?_⟩
            · rcases List.mem_cons.1 hq' with rfl | hq'
              · exact hs1 p' hp'
              · exact ha q' hq' p' (by simp [hp']) hl
            · simp only [Mem]
              constructor
              · rintro (t | t)
                · exact .inr t
                · exact .inl t
              · rintro (t | t)
                · exact .inr t
                · exact .inl t
    obtain ⟨k1, k2, k3⟩ := key
    obtain ⟨i1, i2⟩ := jFold k1 k2 (fun p' hp' => hc p' (by simp [hp'])) hs2
    refine ⟨i1, fun x => ?_⟩
    rw [List.foldl_cons, i2 x, k3 x]
    simp only [Mem]
    rw [or_assoc]
theorem joinF_can {c : Int} {S : List (Int × Int)} (hc : ∀ p ∈ S, p.1 < p.2 → c < p.1) (hs : S.Pairwise (fun p q => p.1 ≤ q.1)) : Can c (joinF S) ∧ ∀ x, Mem x (joinF S) ↔ Mem x S := by
  obtain ⟨h1, h2⟩ := jFold (c := c) (S := S) (acc := []) trivial (fun q hq => by cases hq) hc hs
  refine ⟨can_of_canR h1, fun x => ?_⟩
  rw [joinF, mem_reverse, h2 x]
  simp [Mem]
theorem joinF_self {S : List (Int × Int)} : ∀ {acc : List (Int × Int)}, (∀ q, acc.head? = some q → Can q.2 S) → (∀ p ∈ S, p.1 < p.2) → Can (match acc.head? with | some q => q.2 | none => -1) S → S.foldl jStep acc = S.reverse ++ acc := by
  induction S with
  | nil => intro acc _ _ _; rfl
  | cons p r ih =>
    intro acc ha hp hc
    have k' := hp p (by simp)
    have e : jStep acc p = p :: acc := by
      cases acc with
      | nil => rw [jStep_nil, if_neg (by omega)]
      | cons q t =>
        have := (ha q rfl).1
        rw [jStep_cons, if_neg (by omega), if_neg (by omega)]
    rw [List.foldl_cons, e, ih (fun q hq => by simp at hq; subst hq; cases acc <;> exact hc.2.2) (fun q hq => hp q (by simp [hq])) (by cases acc <;> exact hc.2.2)]
    simp
/-- Spans none of which is empty are left as they are by joining just where they are in the one form. -/
theorem joinF_iff {S : List (Int × Int)} (hp : ∀ p ∈ S, p.1 < p.2) (h0 : ∀ p ∈ S, -1 < p.1) : joinF S = S ↔ Can (-1) S := by
  constructor
  · intro h
    -- the number of spans is kept, so none was made one with another
    have key : ∀ (S acc : List (Int × Int)), (∀ p ∈ S, p.1 < p.2) → (S.foldl jStep acc).length ≤ S.length + acc.length ∧ ((S.foldl jStep acc).length = S.length + acc.length → ∀ q, acc.head? = some q → Can q.2 S) := by
      intro S
      induction S with
      | nil => intro acc _; exact ⟨by simp, fun _ q _ => trivial⟩
      | cons p r ih =>
        intro acc hp
        have k' := hp p (by simp)
        have i := ih (jStep acc p) (fun q hq => hp q (by simp [hq]))
        have hl := (jStep_len acc p).2
        refine ⟨by simp only [List.foldl_cons, List.length_cons]; omega, fun he q hq => ?_⟩
        simp only [List.foldl_cons, List.length_cons] at he
        have he2 : (jStep acc p).length = acc.length + 1 := by omega
        cases acc with
        | nil => simp at hq
        | cons q' t =>
          simp at hq
          subst hq
          rw [jStep_cons, if_neg (by omega)] at he2
          by_cases m : p.1 ≤ q'.2
          · rw [if_pos m] at he2; simp at he2
          · have e3 : jStep (q' :: t) p = p :: q' :: t := by rw [jStep_cons, if_neg (by omega), if_neg m]
            exact ⟨by omega, k', i.2 (by rw [e3] at he ⊢; simp at he ⊢; omega) p (by rw [e3]; rfl)⟩
    cases S with
    | nil => trivial
    | cons p r =>
      have k' := hp p (by simp)
      have e : jStep [] p = [p] := by rw [jStep_nil, if_neg (by omega)]
      have hlen : ((p :: r).foldl jStep []).length = (p :: r).length := by
        have := congrArg List.length h
        simpa [joinF] using this
      rw [List.foldl_cons, e] at hlen
      exact ⟨h0 p (by simp), k', (key r [p] (fun q hq => hp q (by simp [hq]))).2 (by simp at hlen ⊢; omega) p rfl⟩
  · intro h
    unfold joinF
    rw [joinF_self (acc := []) (fun q hq => by cases hq) hp h]
    simp
end Go.Proofs.Ytlkcdcdgpklpoaa
