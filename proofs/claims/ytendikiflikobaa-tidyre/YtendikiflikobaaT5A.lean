/-
  Patterns as trees: what a list of nodes is the writing of, read as a pile of trees.
-/
import Derived.Test.YtendikiflikobaaR5A
namespace Go.Proofs.Ytendikiflikobaa
open Go.ChangeShapes Go.WideShapes Go.ChangeAt Go.WideMaps Go.WideElems Go.RowKit
/-- A node with its parts. -/
structure Tr where
  op : Int
  s : List Int
  fst : Option Tr
  snd : Option Tr
/-- The list of nodes of a tree, the root last. -/
def post : Option Tr → List Nd
  | none => []
  | some ⟨op, s, a, b⟩ => post a ++ post b ++ [(op, s)]
/-- A tree whose nodes have as many parts as they must. -/
def okT : Option Tr → Prop
  | none => False
  | some ⟨op, s, a, b⟩ => (arity op = 0 ∧ nodeB (op, s) = true ∧ a = none ∧ b = none) ∨ (arity op = 1 ∧ s = [] ∧ okT a ∧ b = none) ∨ (arity op = 2 ∧ s = [] ∧ okT a ∧ okT b)
/-- The pile behind one more node, the upper one first. -/
def stepT (x : Nd) (ts : List Tr) : Option (List Tr) :=
  if nodeB x = true then
    if arity x.1 = 0 then some (⟨x.1, x.2, none, none⟩ :: ts)
    else if arity x.1 = 1 then (match ts with
      | a :: r => some (⟨x.1, [], some a, none⟩ :: r)
      | [] => none)
    else (match ts with
      | b :: a :: r => some (⟨x.1, [], some a, some b⟩ :: r)
      | _ => none)
  else none
def pileT (P : List Nd) : Nat → Option (List Tr)
  | 0 => some []
  | k + 1 => (pileT P k).bind (stepT (nd P k))
theorem nodeB_nonneg {x : Nd} (h : nodeB x = true) : 0 ≤ arity x.1 := by
  simp only [nodeB, Bool.and_eq_true, decide_eq_true_eq] at h
  exact h.1.1
theorem nodeB_empty {x : Nd} (h : nodeB x = true) (h2 : arity x.1 ≠ 0) : x.2 = [] := by
  simp only [nodeB, Bool.and_eq_true, Bool.or_eq_true, decide_eq_true_eq] at h
  rcases h.1.2 with e | e
  · rw [e] at h2; exact absurd rfl h2
  · simpa using e
theorem nodeB_of_empty {op : Int} (h : 0 ≤ arity op) : nodeB (op, []) = true := by
  simp [nodeB, h, show goodS ([] : List Int) = true by decide, show allG ([] : List Int) = true by decide]
theorem step_len (x : Nd) (ts : List Tr) : (stepT x ts).map (fun r => (r.length : Int)) = if nodeB x = true ∧ arity x.1 ≤ (ts.length : Int) then some ((ts.length : Int) + 1 - arity x.1) else none := by
  unfold stepT
  cases hn : nodeB x
  · simp
  · have h0 := nodeB_nonneg hn
    have h1 := (arity_bd x.1).2
    simp only [if_true, true_and]
    split
    · rename_i e
      rw [e]
      simp
    · split
      · rename_i e
        rw [e]
        cases ts with
        | nil => simp
        | cons a r => simp; omega
      · rename_i e1 e2
        have e : arity x.1 = 2 := by omega
        rw [e]
        rcases ts with _ | ⟨b, _ | ⟨a, r⟩⟩
        · simp
        · simp
        · simp; omega
theorem pileT_len (P : List Nd) : ∀ k, (pileT P k).map (fun r => (r.length : Int)) = pileK P k
  | 0 => rfl
  | k + 1 => by
    have ih := pileT_len P k
    rw [pileT, pileK, ← ih]
    cases h : pileT P k with
    | none => rfl
    | some ts => simp only [Option.bind_some, Option.map_some]; exact step_len _ _
theorem pileT_none {P : List Nd} {k : Nat} (h : pileT P k = none) : ∀ m, pileT P (k + m) = none
  | 0 => h
  | m + 1 => by rw [show k + (m + 1) = (k + m) + 1 by omega, pileT, pileT_none h m]; rfl
theorem pileT_no {P : List Nd} {k : Nat} {ts : List Tr} (hk : k < P.length) (h : pileT P k = some ts) (h1 : stepT (nd P k) ts = none) : pileT P P.length = none := by
  have : pileT P (k + 1) = none := by rw [pileT, h]; exact h1
  have := pileT_none this (P.length - (k + 1))
  rwa [show k + 1 + (P.length - (k + 1)) = P.length by omega] at this
theorem pileT_yes {P : List Nd} {k : Nat} {ts rs : List Tr} (h : pileT P k = some ts) (h1 : stepT (nd P k) ts = some rs) : pileT P (k + 1) = some rs := by rw [pileT, h]; exact h1
theorem pileT_bd {P : List Nd} {k : Nat} {ts : List Tr} (h : pileT P k = some ts) : ts.length ≤ k := by
  have h1 := pileT_len P k
  rw [h] at h1
  have := pileK_bd h1.symm
  simp only at this
  omega
/-- One pattern: its tree. -/
theorem oneP_tree (P : List Nd) : oneP P = true ↔ ∃ t, pileT P P.length = some [t] := by
  have h := pileT_len P P.length
  unfold oneP
  rw [decide_eq_true_eq, ← h]
  constructor
  · intro h
    cases e : pileT P P.length with
    | none => rw [e] at h; cases h
    | some ts =>
      rw [e] at h
      simp only [Option.map_some, Option.some.injEq] at h
      rcases ts with _ | ⟨t, _ | ⟨u, r⟩⟩
      · simp at h
      · exact ⟨t, rfl⟩
      · simp at h; omega
  · rintro ⟨t, e⟩
    rw [e]
    rfl
def posts : List Tr → List Nd
  | [] => []
  | t :: r => posts r ++ post (some t)
theorem step_ok {x : Nd} {ts rs : List Tr} (h : stepT x ts = some rs) (ho : ∀ t ∈ ts, okT (some t)) : (∀ t ∈ rs, okT (some t)) ∧ posts rs = posts ts ++ [x] := by
  unfold stepT at h
  cases hn : nodeB x
  · simp [hn] at h
  · have hx : x = (x.1, x.2) := rfl
    simp only [hn, if_true] at h
    split at h
    · rename_i e
      cases h
      refine ⟨fun t ht => ?_, ?_⟩
      · rcases List.mem_cons.1 ht with rfl | ht
        · rw [okT]
          exact .inl ⟨e, by rw [← hx]; exact hn, rfl, rfl⟩
        · exact ho t ht
      · simp [posts, post]
    · split at h
      · rename_i e0 e
        have hs := nodeB_empty hn e0
        cases ts with
        | nil => cases h
        | cons a r =>
          cases h
          refine ⟨fun t ht => ?_, ?_⟩
          · rcases List.mem_cons.1 ht with rfl | ht
            · rw [okT]
              exact .inr (.inl ⟨e, rfl, ho a (by simp), rfl⟩)
            · exact ho t (by simp [ht])
          · rw [hx, hs]; simp [posts, post]
      · rename_i e0 e1
        have hs := nodeB_empty hn e0
        have e : arity x.1 = 2 := by have := nodeB_nonneg hn; have := (arity_bd x.1).2; omega
        rcases ts with _ | ⟨b, _ | ⟨a, r⟩⟩
        · cases h
        · cases h
        · cases h
          refine ⟨fun t ht => ?_, ?_⟩
          · rcases List.mem_cons.1 ht with rfl | ht
            · rw [okT]
              exact .inr (.inr ⟨e, rfl, ho a (by simp), ho b (by simp)⟩)
            · exact ho t (by simp [ht])
          · rw [hx, hs]; simp [posts, post]
theorem pileT_ok (P : List Nd) : ∀ k ts, k ≤ P.length → pileT P k = some ts → (∀ t ∈ ts, okT (some t)) ∧ posts ts = P.take k
  | 0, ts, _, h => by cases h; exact ⟨fun t ht => (by cases ht), rfl⟩
  | k + 1, ts, hk, h => by
    rw [pileT] at h
    obtain ⟨us, hu, h2⟩ := Option.bind_eq_some_iff.1 h
    obtain ⟨i1, i2⟩ := pileT_ok P k us (by omega) hu
    obtain ⟨j1, j2⟩ := step_ok h2 i1
    exact ⟨j1, by rw [j2, i2, take_snocN P k (by omega)]⟩
/-- The tree of a pattern. -/
theorem tree_of {P : List Nd} {t : Tr} (h : pileT P P.length = some [t]) : okT (some t) ∧ post (some t) = P := by
  obtain ⟨h1, h2⟩ := pileT_ok P P.length [t] (Nat.le_refl _) h
  refine ⟨h1 t (by simp), ?_⟩
  simpa [posts] using h2
theorem step0 {op : Int} {s : List Int} (h : arity op = 0) (hn : nodeB (op, s) = true) (ts : List Tr) : stepT (op, s) ts = some (⟨op, s, none, none⟩ :: ts) := by simp [stepT, hn, h]
theorem step1 {op : Int} (h : arity op = 1) (a : Tr) (r : List Tr) : stepT (op, []) (a :: r) = some (⟨op, [], some a, none⟩ :: r) := by simp [stepT, nodeB_of_empty (show 0 ≤ arity op by omega), h]
theorem step1_no {op : Int} (h : arity op = 1) (s : List Int) : stepT (op, s) [] = none := by simp [stepT, h]
theorem step2 {op : Int} (h : arity op = 2) (b a : Tr) (r : List Tr) : stepT (op, []) (b :: a :: r) = some (⟨op, [], some a, some b⟩ :: r) := by simp [stepT, nodeB_of_empty (show 0 ≤ arity op by omega), h]
theorem step2_no {op : Int} (h : arity op = 2) (s : List Int) : stepT (op, s) [] = none := by simp [stepT, h]
theorem step2_no1 {op : Int} (h : arity op = 2) (s : List Int) (a : Tr) : stepT (op, s) [a] = none := by simp [stepT, h]
theorem step_bad {x : Nd} (h : nodeB x = false) (ts : List Tr) : stepT x ts = none := by simp [stepT, h]
end Go.Proofs.Ytendikiflikobaa
