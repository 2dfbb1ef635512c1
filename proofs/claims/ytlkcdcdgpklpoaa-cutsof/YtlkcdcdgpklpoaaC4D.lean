/-
  impl.readSet: a list of numbers is a set just where its spans, joined in their order, are the same; arrays of spans compared.
-/
import Derived.Test.YtlkcdcdgpklpoaaC4C
namespace Go.Proofs.Ytlkcdcdgpklpoaa
open Go.ChangeShapes Go.WideShapes Go.ChangeAt Go.RowKit
def PR (L : List Int) (k : Nat) : List (Int × Int) := (List.range k).map fun j => (L.getD (2 * j) 0, L.getD (2 * j + 1) 0 + 1)
theorem PR_len (L : List Int) (k : Nat) : (PR L k).length = k := by simp [PR]
theorem PR_succ (L : List Int) (k : Nat) : PR L (k + 1) = PR L k ++ [(L.getD (2 * k) 0, L.getD (2 * k + 1) 0 + 1)] := by simp [PR, List.range_succ]
def spok (L : List Int) (j : Nat) : Prop := 0 ≤ L.getD (2 * j) 0 ∧ L.getD (2 * j) 0 ≤ L.getD (2 * j + 1) 0 ∧ L.getD (2 * j + 1) 0 ≤ 1114111
theorem can_snoc_inv {c : Int} {A : List (Int × Int)} {q p : Int × Int} : Can c (A ++ [q] ++ [p]) → Can c (A ++ [q]) ∧ p.1 < p.2 ∧ q.2 < p.1 := by
  induction A generalizing c with
  | nil => rintro ⟨h1, h2, h3, h4, _⟩; exact ⟨⟨h1, h2, trivial⟩, h4, h3⟩
  | cons a A ih =>
    rintro ⟨h1, h2, h3⟩
    obtain ⟨i1, i2⟩ := ih h3
    exact ⟨⟨h1, h2, i1⟩, i2⟩
theorem can_PR (L : List Int) (n : Nat) : Can (-1) (PR L n) ↔ ∀ j, j < n → L.getD (2 * j) 0 ≤ L.getD (2 * j + 1) 0 ∧ (j = 0 → 0 ≤ L.getD (2 * j) 0) ∧ (0 < j → L.getD (2 * j - 1) 0 + 2 ≤ L.getD (2 * j) 0) := by
  induction n with
  | zero => exact ⟨fun _ j hj => absurd hj (by omega), fun _ => trivial⟩
  | succ n ih =>
    cases n with
    | zero =>
      constructor
      · rintro ⟨h1, h2, _⟩ j hj
        obtain rfl : j = 0 := by omega
        simp only [Nat.mul_zero] at h1 h2 ⊢
        exact ⟨by omega, fun _ => by omega, fun h => absurd h (by omega)⟩
      · intro h
        obtain ⟨h1, h2, _⟩ := h 0 (by omega)
        have h2 := h2 rfl
        simp only [Nat.mul_zero] at h1 h2
        exact ⟨by show -1 < L.getD (2 * 0) 0; simp only [Nat.mul_zero]; omega, by show L.getD (2 * 0) 0 < L.getD (2 * 0 + 1) 0 + 1; simp only [Nat.mul_zero]; omega, trivial⟩
    | succ n =>
      have e : PR L (n + 1 + 1) = PR L n ++ [(L.getD (2 * n) 0, L.getD (2 * n + 1) 0 + 1)] ++ [(L.getD (2 * (n + 1)) 0, L.getD (2 * (n + 1) + 1) 0 + 1)] := by rw [PR_succ, PR_succ]
      have e1 : PR L (n + 1) = PR L n ++ [(L.getD (2 * n) 0, L.getD (2 * n + 1) 0 + 1)] := PR_succ L n
      have ex : 2 * (n + 1) - 1 = 2 * n + 1 := by omega
      rw [e]
      rw [e1] at ih
      constructor
      · intro h j hj
        obtain ⟨h1, h2, h3⟩ := can_snoc_inv h
        by_cases hj' : j = n + 1
        · subst hj'
          simp only at h2 h3
          exact ⟨by omega, fun h => absurd h (by omega), fun _ => by rw [ex]; omega⟩
        · exact ih.1 h1 j (by omega)
      · intro h
        obtain ⟨h1, _, h3⟩ := h (n + 1) (by omega)
        have h3 := h3 (by omega)
        rw [ex] at h3
        exact can_snoc (ih.2 fun j hj => h j (by omega)) (by simp only; omega) (by simp only; omega)
theorem goodS_of {L : List Int} {n : Nat} (hn : L.length = 2 * n) (h24 : L.length ≤ 24) (hs : ∀ j, j < n → spok L j) (hc : Can (-1) (PR L n)) : goodS L = true := by
  have h := (can_PR L n).1 hc
  refine goodS_mk (by omega) h24 (List.all_eq_true.2 fun x hx => ?_) (fun j hj => ⟨(h j (by omega)).1, (h j (by omega)).2.2⟩)
  obtain ⟨i, hi, rfl⟩ := List.mem_iff_getElem.1 hx
  have hg : L.getD i 0 = L[i] := by simp [List.getD, hi]
  rw [← hg]
  refine decide_eq_true ?_
  rcases (by omega : i = 2 * (i / 2) ∨ i = 2 * (i / 2) + 1) with e | e
  · have := hs (i / 2) (by omega)
    unfold spok at this
    rw [← e] at this
    rw [show 2 * (i / 2) = i from e.symm]  at *
    omega
  · have := hs (i / 2) (by omega)
    unfold spok at this
    rw [← e] at this
    omega
theorem goodS_spok {L : List Int} {n : Nat} (hn : L.length = 2 * n) (h : goodS L = true) : (∀ j, j < n → spok L j) ∧ Can (-1) (PR L n) := by
  obtain ⟨h1, h2, h3, h4⟩ := goodS_true h
  refine ⟨fun j hj => ⟨(inR_at h3 (by omega)).1, (h4 j (by omega)).1, (inR_at h3 (by omega)).2⟩, (can_PR L n).2 fun j hj => ⟨(h4 j (by omega)).1, fun _ => (inR_at h3 (by omega)).1, (h4 j (by omega)).2⟩⟩
theorem foldl_empty (S acc : List (Int × Int)) (h : ∀ p ∈ S, p.2 ≤ p.1) : S.foldl jStep acc = acc := by
  induction S generalizing acc with
  | nil => rfl
  | cons p r ih =>
    have e : jStep acc p = acc := by unfold jStep; rw [if_pos (h p (by simp))]
    rw [List.foldl_cons, e]
    exact ih acc (fun q hq => h q (by simp [hq]))
theorem joinF_pad (S : List (Int × Int)) (n : Nat) : joinF (S ++ List.replicate n (0, 0)) = joinF S := by
  unfold joinF
  rw [List.foldl_append, foldl_empty]
  intro p hp
  rw [(List.mem_replicate.1 hp).2]
  exact Int.le_refl _
theorem jFold_le (S acc : List (Int × Int)) : (S.foldl jStep acc).length ≤ acc.length + S.length := by
  induction S generalizing acc with
  | nil => simp
  | cons p r ih => have h1 := ih (jStep acc p); have h2 := (jStep_len acc p).2; simp only [List.foldl_cons, List.length_cons]; omega
theorem joinF_le (S : List (Int × Int)) : (joinF S).length ≤ S.length := by have := jFold_le S []; simpa [joinF] using this
theorem jFold_ne : ∀ (S acc : List (Int × Int)), (∀ p ∈ acc, p.1 < p.2) → ∀ p ∈ S.foldl jStep acc, p.1 < p.2
  | [], acc, h => h
  | q :: r, acc, h => by
    refine jFold_ne r (jStep acc q) ?_
    intro p hp
    unfold jStep at hp
    by_cases k : q.2 ≤ q.1
    · rw [if_pos k] at hp; exact h p hp
    · rw [if_neg k] at hp
      cases acc with
      | nil => simp at hp; subst hp; omega
      | cons x t =>
        simp only at hp
        have hx := h x (by simp)
        by_cases k2 : q.1 ≤ x.2
        · rw [if_pos k2] at hp
          rcases List.mem_cons.1 hp with rfl | hp
          · show x.1 < max x.2 q.2; omega
          · exact h p (by simp [hp])
        · rw [if_neg k2] at hp
          rcases List.mem_cons.1 hp with rfl | hp
          · omega
          · exact h p hp
theorem joinF_ne (S : List (Int × Int)) : ∀ p ∈ joinF S, p.1 < p.2 := fun p hp => jFold_ne S [] (fun q hq => by cases hq) p (by simpa [joinF] using hp)
theorem fl_inj : ∀ {A B : List (Int × Int)}, fl A = fl B → A = B
  | [], [], _ => rfl
  | [], p :: r, h => by simp [fl] at h
  | p :: r, [], h => by simp [fl] at h
  | p :: r, q :: s, h => by
    simp only [fl, List.cons.injEq] at h
    rw [fl_inj h.2.2, Prod.ext h.1 h.2.1]
theorem pad_lt {A B : List (Int × Int)} (hB : ∀ p ∈ B, p.1 < p.2) (h : pad A = pad B) : B.length ≤ A.length := by
  refine Nat.le_of_not_lt fun hlt => ?_
  have hA := fl_len A
  obtain ⟨B1, q, B2, hs, hq⟩ : ∃ B1 q B2, B = B1 ++ q :: B2 ∧ B1.length = A.length := by
    refine ⟨B.take A.length, B[A.length], B.drop (A.length + 1), ?_, by simp; omega⟩
    simp
  have h1 := fl_len B1
  have e1 : (pad B)[2 * A.length]? = some q.1 := by
    unfold pad
    rw [hs, fl_append, List.append_assoc, List.getElem?_append_right (by omega), show 2 * A.length - (fl B1).length = 0 by omega]
    rfl
  have e2 : (pad B)[2 * A.length + 1]? = some q.2 := by
    unfold pad
    rw [hs, fl_append, List.append_assoc, List.getElem?_append_right (by omega), show 2 * A.length + 1 - (fl B1).length = 1 by omega]
    rfl
  have hqq := hB q (by rw [hs]; simp)
  rw [← h] at e1 e2
  unfold pad at e1 e2
  rw [List.getElem?_append_right (by omega), List.getElem?_replicate] at e1 e2
  split at e1
  · split at e2
    · simp at e1 e2; omega
    · cases e2
  · cases e1
theorem pad_inj {A B : List (Int × Int)} (hA : ∀ p ∈ A, p.1 < p.2) (hB : ∀ p ∈ B, p.1 < p.2) (h : pad A = pad B) : A = B := by
  have l1 := pad_lt hB h
  have l2 := pad_lt hA h.symm
  have e : A.length = B.length := by omega
  unfold pad at h
  exact fl_inj (List.append_inj h (by rw [fl_len, fl_len, e])).1
theorem span_eq (w : World) (d : Nat) (a b c e : Int) : (Op.equalIn (d + 2) 203 (.agg #[.int .i64 a, .int .i64 b]) (.agg #[.int .i64 c, .int .i64 e])).run Try.prog w = .ok (decide (a = c ∧ b = e)) w := by
  obtain ⟨i0, hi, hz0, hz1, hz2⟩ := info_parts Try.info3
  rw [run_equalIn_array w (d + 1) _ _ Try.underlying203 hi, show Try.prog.cellsOf 3 = 1 by kernel_rfl, show List.range 2 = [0, 1] from rfl]
  have hp : ∀ (xs : Array Value) (off : Nat) (v : Value), xs[off]? = some v → (part 3 xs off).run Try.prog w = .ok v w := fun xs off v h => run_part_plain w (by kernel_rfl) h
  simp only [Op.eqItems, Sem.run_bind, hp #[.int .i64 a, .int .i64 b] (0 * 1) (.int .i64 a) rfl, hp #[.int .i64 c, .int .i64 e] (0 * 1) (.int .i64 c) rfl, hp #[.int .i64 a, .int .i64 b] (1 * 1) (.int .i64 b) rfl, hp #[.int .i64 c, .int .i64 e] (1 * 1) (.int .i64 e) rfl, Result.andThen_ok, run_equalIn_int w d 3 .i64 .i64 _ _ Try.underlying3, Sem.run_ite, Sem.run_pure]
  by_cases h1 : a = c <;> by_cases h2 : b = e <;> simp [h1, h2]
/-- The model's '==' on two arrays of spans. -/
theorem items_eq (w : World) (d : Nat) (F G : List Int) (hF : F.length = 24) (hG : G.length = 24) : ∀ (is : List Nat), (∀ i ∈ is, i < 12) →
    (Op.eqItems (d + 2) 203 2 (ints F).toArray (ints G).toArray is).run Try.prog w = .ok (decide (∀ i ∈ is, F.getD (i * 2) 0 = G.getD (i * 2) 0 ∧ F.getD (i * 2 + 1) 0 = G.getD (i * 2 + 1) 0)) w
  | [], _ => by simp [Op.eqItems]
  | i :: is, h => by
    have hi := h i (by simp)
    have hp : ∀ (X : List Int), X.length = 24 → (part 203 (ints X).toArray (i * 2)).run Try.prog w = .ok (.agg #[.int .i64 (X.getD (i * 2) 0), .int .i64 (X.getD (i * 2 + 1) 0)]) w := fun X hX => by
      unfold part
      simp only [Sem.run_bind, Try.isAgg203, Try.sizeOf203, Result.andThen_ok, if_true, Sem.run_pure]
      congr 2
      apply Array.ext'
      have h1 : i * 2 < X.length := by omega
      have h2 : i * 2 + 1 < X.length := by omega
      rw [Array.toList_extract]
      have e : (ints X).drop (i * 2) = .int .i64 (X.getD (i * 2) 0) :: .int .i64 (X.getD (i * 2 + 1) 0) :: (ints X).drop (i * 2 + 2) := by
        rw [List.drop_eq_getElem_cons (by rw [ints_len]; omega), List.drop_eq_getElem_cons (by rw [ints_len]; omega)]
        simp [ints, List.getD, h1, h2]
      simp [List.extract, e]
    simp only [Op.eqItems, Sem.run_bind, hp F hF, hp G hG, Result.andThen_ok, span_eq]
    by_cases hk : F.getD (i * 2) 0 = G.getD (i * 2) 0 ∧ F.getD (i * 2 + 1) 0 = G.getD (i * 2 + 1) 0
    · rw [decide_eq_true hk]
      simp only [Bool.not_true, Bool.false_eq_true, if_false]
      rw [items_eq w d F G hF hG is (fun j hj => h j (by simp [hj]))]
      congr 1
      simp only [List.forall_mem_cons]
      exact decide_eq_decide.2 ⟨fun q => ⟨hk, q⟩, fun q => q.2⟩
    · rw [decide_eq_false hk]
      simp only [Bool.not_false, if_true, Sem.run_pure]
      congr 1
      simp only [List.forall_mem_cons]
      exact (decide_eq_false fun q => hk q.1).symm
set_option maxRecDepth 100000 in
theorem set_eqd (d : Nat) (A B : List (Int × Int)) (hA : A.length ≤ 12) (hB : B.length ≤ 12) (w : World) : (Op.equalIn (d + 3) 205 (.agg (ints (pad A)).toArray) (.agg (ints (pad B)).toArray)).run Try.prog w = .ok (decide (pad A = pad B)) w := by
  have lA := pad_len hA
  have lB := pad_len hB
  obtain ⟨i0, hi⟩ : ∃ i, Try.prog.info? 203 = some i := by
    have := info62
    cases h : Try.prog.info? 203 with
    | none => rw [h] at this; cases this
    | some i => exact ⟨i, rfl⟩
  rw [run_equalIn_array w (d + 2) _ _ Try.underlying205 hi, show Try.prog.cellsOf 203 = 2 by kernel_rfl, items_eq w d _ _ lA lB (List.range 12) (fun i hi => List.mem_range.1 hi)]
  congr 1
  refine decide_eq_decide.2 ⟨fun h => ?_, fun h => by rw [h]; exact fun i _ => ⟨rfl, rfl⟩⟩
  refine List.ext_getElem (by omega) fun n h1 h2 => ?_
  have g1 : ∀ k (hk : k < (pad A).length), (pad A)[k] = (pad A).getD k 0 := fun k hk => by simp [List.getD, hk]
  have g2 : ∀ k (hk : k < (pad B).length), (pad B)[k] = (pad B).getD k 0 := fun k hk => by simp [List.getD, hk]
  rw [g1 n h1, g2 n h2]
  have := h (n / 2) (List.mem_range.2 (by omega))
  rcases (by omega : n = n / 2 * 2 ∨ n = n / 2 * 2 + 1) with e | e
  · rw [← e] at this; exact this.1
  · rw [← e] at this; exact this.2
theorem set_eq (A B : List (Int × Int)) (hA : A.length ≤ 12) (hB : B.length ≤ 12) (w : World) : (Op.equalIn 10000 205 (.agg (ints (pad A)).toArray) (.agg (ints (pad B)).toArray)).run Try.prog w = .ok (decide (pad A = pad B)) w := set_eqd 9997 A B hA hB w
end Go.Proofs.Ytlkcdcdgpklpoaa
