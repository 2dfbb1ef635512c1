/-
  Trees of nodes: where their parts stand in the list, one reading alone, turned round, whether the empty list is matched.
-/
import Derived.Test.YtendikiflikobaaT5A
namespace Go.Proofs.Ytendikiflikobaa
open Go.ChangeShapes Go.WideShapes Go.ChangeAt Go.WideMaps Go.WideElems Go.RowKit
theorem post_some (op : Int) (s : List Int) (a b : Option Tr) : post (some ⟨op, s, a, b⟩) = post a ++ post b ++ [(op, s)] := by rw [post]
theorem post_none : post none = [] := by rw [post]
theorem post_pos (t : Tr) : 0 < (post (some t)).length := by
  obtain ⟨op, s, a, b⟩ := t
  rw [post_some, List.length_append, List.length_singleton]
  omega
def bal (L : List Nd) : Int := (L.map fun x => arity x.1 - 1).sum
theorem bal_app (A B : List Nd) : bal (A ++ B) = bal A + bal B := by simp [bal]
theorem bal_one (x : Nd) : bal [x] = arity x.1 - 1 := by simp [bal]
theorem drop_app_le (A B : List Nd) (j : Nat) (h : j ≤ B.length) : (A ++ B).drop ((A ++ B).length - j) = B.drop (B.length - j) := by
  rw [List.length_append, List.drop_append, List.drop_eq_nil_of_le (by omega), List.nil_append]
  congr 1
  omega
theorem drop_app_ge (A B : List Nd) (j : Nat) (h : B.length ≤ j) (h2 : j ≤ (A ++ B).length) : (A ++ B).drop ((A ++ B).length - j) = A.drop (A.length - (j - B.length)) ++ B := by
  rw [List.length_append] at h2 ⊢
  rw [List.drop_append, show A.length + B.length - j - A.length = 0 by omega, List.drop_zero]
  congr 2
  omega
/-- Going back from a node's last, more is wanted till the first is met. -/
theorem bal_suf : ∀ t : Option Tr, okT t → ∀ j, j ≤ (post t).length → (j < (post t).length → 0 ≤ bal ((post t).drop ((post t).length - j))) ∧ (j = (post t).length → bal ((post t).drop ((post t).length - j)) = -1)
  | none, h => by rw [okT] at h; exact h.elim
  | some ⟨op, s, a, b⟩, h => by
    intro j hj
    rw [okT] at h
    rw [post_some] at hj ⊢
    have hroot : ∀ X : List Nd, 0 < j → j ≤ (X ++ [(op, s)]).length → bal ((X ++ [(op, s)]).drop ((X ++ [(op, s)]).length - j)) = bal (X.drop (X.length - (j - 1))) + (arity op - 1) := fun X h0 hX => by
      rw [drop_app_ge X [(op, s)] j (by simp; omega) hX, bal_app, bal_one]
      simp
    have hzero : ∀ X : List Nd, j = 0 → bal (X.drop (X.length - j)) = 0 := fun X h0 => by subst h0; simp [bal]
    rcases h with ⟨h1, -, rfl, rfl⟩ | ⟨h1, -, ha, rfl⟩ | ⟨h1, -, ha, hb⟩
    · simp only [post_none, List.nil_append, List.append_nil, List.length_singleton] at hj ⊢
      have : j = 0 ∨ j = 1 := by omega
      rcases this with rfl | rfl
      · simp [bal]
      · simp [bal, h1]
    · have ia := bal_suf a ha
      simp only [post_none, List.append_nil] at hj ⊢
      by_cases h0 : j = 0
      · refine ⟨fun _ => by rw [hzero _ h0]; omega, fun e => ?_⟩
        rw [List.length_append, List.length_singleton] at e
        omega
      · rw [hroot _ (by omega) hj, h1]
        rw [List.length_append, List.length_singleton] at hj ⊢
        obtain ⟨i1, i2⟩ := ia (j - 1) (by omega)
        exact ⟨fun h => by have := i1 (by omega); omega, fun h => by have := i2 (by omega); omega⟩
    · have ia := bal_suf a ha
      have ib := bal_suf b hb
      by_cases h0 : j = 0
      · refine ⟨fun _ => by rw [hzero _ h0]; omega, fun e => ?_⟩
        rw [List.length_append, List.length_singleton] at e
        omega
      · rw [hroot _ (by omega) hj, h1]
        rw [List.length_append, List.length_singleton] at hj ⊢
        by_cases h2 : j - 1 ≤ (post b).length
        · rw [drop_app_le _ _ _ h2]
          obtain ⟨i1, i2⟩ := ib (j - 1) h2
          have hpa : 0 < (post a).length := by
            cases a with
            | none => rw [okT] at ha; exact ha.elim
            | some t => exact post_pos t
          rw [List.length_append] at hj ⊢
          refine ⟨fun h => ?_, fun h => by omega⟩
          by_cases h3 : j - 1 < (post b).length
          · have := i1 h3; omega
          · have := i2 (by omega); omega
        · rw [drop_app_ge _ _ _ (by omega) (by omega), bal_app]
          rw [List.length_append] at hj ⊢
          obtain ⟨i1, i2⟩ := ia (j - 1 - (post b).length) (by omega)
          have hb1 : bal (post b) = -1 := by
            have := (ib (post b).length (Nat.le_refl _)).2 rfl
            simpa using this
          exact ⟨fun h => by have := i1 (by omega); omega, fun h => by have := i2 (by omega); omega⟩
/-- The tree of the node at a place. -/
def Sub (P : List Nd) (k : Nat) (t : Option Tr) : Prop := okT t ∧ k < P.length ∧ ∃ pre, P.take (k + 1) = pre ++ post t
theorem Sub.whole {P : List Nd} {t : Tr} (h : pileT P P.length = some [t]) : 0 < P.length ∧ Sub P (P.length - 1) (some t) := by
  obtain ⟨h1, h2⟩ := tree_of h
  have := post_pos t
  rw [h2] at this
  exact ⟨this, h1, by omega, [], by rw [h2, List.nil_append, List.take_of_length_le (by omega)]⟩
theorem Sub.nd {P : List Nd} {k : Nat} {op : Int} {s : List Int} {a b : Option Tr} (h : Sub P k (some ⟨op, s, a, b⟩)) : nd P k = (op, s) := by
  obtain ⟨-, hk, pre, hp⟩ := h
  rw [post_some, take_snocN P k hk, ← List.append_assoc] at hp
  have := congrArg List.getLast? hp
  simpa using this
theorem Sub.cut {P : List Nd} {k : Nat} {op : Int} {s : List Int} {a b : Option Tr} (h : Sub P k (some ⟨op, s, a, b⟩)) : ∃ pre, P.take k = pre ++ (post a ++ post b) := by
  obtain ⟨-, hk, pre, hp⟩ := h
  rw [post_some, take_snocN P k hk, ← List.append_assoc] at hp
  exact ⟨pre, (List.append_inj' hp rfl).1⟩
theorem Sub.one {P : List Nd} {k : Nat} {op : Int} {s : List Int} {a : Option Tr} (h : Sub P k (some ⟨op, s, a, none⟩)) (ha : okT a) : 1 ≤ k ∧ Sub P (k - 1) a := by
  obtain ⟨pre, hp⟩ := h.cut
  have hk := h.2.1
  rw [post_none, List.append_nil] at hp
  have hl := congrArg List.length hp
  rw [List.length_take, List.length_append] at hl
  have hpa : 0 < (post a).length := by
    cases a with
    | none => rw [okT] at ha; exact ha.elim
    | some t => exact post_pos t
  exact ⟨by omega, ha, by omega, pre, by rw [show k - 1 + 1 = k by omega]; exact hp⟩
theorem Sub.two {P : List Nd} {k : Nat} {op : Int} {s : List Int} {a b : Option Tr} (h : Sub P k (some ⟨op, s, a, b⟩)) (ha : okT a) (hb : okT b) : (post a).length + (post b).length ≤ k ∧ 0 < (post b).length ∧ Sub P (k - 1) b ∧ Sub P (k - 1 - (post b).length) a := by
  obtain ⟨pre, hp⟩ := h.cut
  have hk := h.2.1
  have hl := congrArg List.length hp
  rw [List.length_take, List.length_append, List.length_append] at hl
  have hpa : 0 < (post a).length := by
    cases a with
    | none => rw [okT] at ha; exact ha.elim
    | some t => exact post_pos t
  have hpb : 0 < (post b).length := by
    cases b with
    | none => rw [okT] at hb; exact hb.elim
    | some t => exact post_pos t
  refine ⟨by omega, hpb, ⟨hb, by omega, pre ++ post a, by rw [show k - 1 + 1 = k by omega, List.append_assoc]; exact hp⟩, ha, by omega, pre, ?_⟩
  have h1 := congrArg (List.take (pre.length + (post a).length)) hp
  rw [List.take_take, ← List.append_assoc, List.take_left' (by simp)] at h1
  rw [← h1]
  congr 1
  omega
/-- What is wanted, going back from a root. -/
theorem Sub.need {P : List Nd} {k : Nat} {t : Option Tr} (h : Sub P k t) (j : Nat) (hj : j ≤ (post t).length) : (j < (post t).length → 0 ≤ bal ((P.take (k + 1)).drop (k + 1 - j))) ∧ (j = (post t).length → bal ((P.take (k + 1)).drop (k + 1 - j)) = -1) := by
  obtain ⟨ho, hk, pre, hp⟩ := h
  have hl := congrArg List.length hp
  rw [List.length_take, List.length_append] at hl
  have e := drop_app_le pre (post t) j hj
  rw [← hp, List.length_take, show min (k + 1) P.length = k + 1 by omega] at e
  rw [e]
  exact bal_suf t ho j hj
/-- Reading goes one way alone. -/
def stepsT : List Nd → List Tr → Option (List Tr)
  | [], ts => some ts
  | x :: L, ts => (stepT x ts).bind (stepsT L)
theorem steps_app : ∀ (A B : List Nd) (ts : List Tr), stepsT (A ++ B) ts = (stepsT A ts).bind (stepsT B)
  | [], B, ts => rfl
  | x :: A, B, ts => by
    simp only [List.cons_append, stepsT]
    cases stepT x ts with
    | none => rfl
    | some us => simp only [Option.bind_some]; exact steps_app A B us
theorem steps_post : ∀ t : Option Tr, okT t → ∀ ts, stepsT (post t) ts = t.map (· :: ts)
  | none, h => by rw [okT] at h; exact h.elim
  | some ⟨op, s, a, b⟩, h => by
    intro ts
    rw [okT] at h
    rw [post_some, steps_app, steps_app]
    rcases h with ⟨h1, h2, rfl, rfl⟩ | ⟨h1, rfl, ha, rfl⟩ | ⟨h1, rfl, ha, hb⟩
    · simp [post_none, stepsT, step0 h1 h2]
    · rw [steps_post a ha]
      cases a with
      | none => rw [okT] at ha; exact ha.elim
      | some t => simp [post_none, stepsT, step1 h1]
    · rw [steps_post a ha]
      cases a with
      | none => rw [okT] at ha; exact ha.elim
      | some t =>
        simp only [Option.map_some, Option.bind_some]
        rw [steps_post b hb]
        cases b with
        | none => rw [okT] at hb; exact hb.elim
        | some u => simp [stepsT, step2 h1]
theorem post_inj {t u : Tr} (ht : okT (some t)) (hu : okT (some u)) (h : post (some t) = post (some u)) : t = u := by
  have h1 := steps_post _ ht []
  have h2 := steps_post _ hu []
  rw [h, h2] at h1
  simpa using h1.symm
/-- Whether the empty list is matched. -/
def nul : Option Tr → Bool
  | none => false
  | some ⟨op, _, a, b⟩ => if op = 1 ∨ op = 6 then true else if op = 3 ∨ op = 5 then nul a && nul b else if op = 4 then nul a || nul b else if op = 7 then !nul a else false
/-- The tree turned round. -/
def revT : Option Tr → Option Tr
  | none => none
  | some ⟨op, s, a, b⟩ => if op = 3 then some ⟨op, s, revT b, revT a⟩ else some ⟨op, s, revT a, revT b⟩
theorem revT_none : revT none = none := by rw [revT]
theorem revT_cat {op : Int} (h : op = 3) (s : List Int) (a b : Option Tr) : revT (some ⟨op, s, a, b⟩) = some ⟨op, s, revT b, revT a⟩ := by rw [revT, if_pos h]
theorem revT_else {op : Int} (h : op ≠ 3) (s : List Int) (a b : Option Tr) : revT (some ⟨op, s, a, b⟩) = some ⟨op, s, revT a, revT b⟩ := by rw [revT, if_neg h]
theorem revT_len : ∀ t : Option Tr, (post (revT t)).length = (post t).length
  | none => by rw [revT_none]
  | some ⟨op, s, a, b⟩ => by
    have h1 := revT_len a
    have h2 := revT_len b
    by_cases h : op = 3
    · rw [revT_cat h, post_some, post_some]; simp [h1, h2]; omega
    · rw [revT_else h, post_some, post_some]; simp [h1, h2]
theorem revT_sz : ∀ t : Option Tr, szP (post (revT t)) = szP (post t)
  | none => by rw [revT_none]
  | some ⟨op, s, a, b⟩ => by
    have h1 := revT_sz a
    have h2 := revT_sz b
    have app : ∀ A B : List Nd, szP (A ++ B) = szP A + szP B := fun A B => by simp [szP]; omega
    by_cases h : op = 3
    · rw [revT_cat h, post_some, post_some, app, app, app, app, h1, h2]; omega
    · rw [revT_else h, post_some, post_some, app, app, app, app, h1, h2]
end Go.Proofs.Ytendikiflikobaa
