/-
  LitRe of both.
-/
import Derived.Test.YtendikiflikobaaR5M
import Derived.Test.YtendikiflikobaaR5B
import Derived.Maps.AppendAt
namespace Go.Proofs.Ytendikiflikobaa
open Go.ChangeShapes Go.WideShapes Go.ChangeAt Go.RowKit
theorem infoRe : ∃ i, Try.prog.info? 81 = some i ∧ i.zero = some (.agg #[.int .i64 0, .slice none 0 0]) ∧ i.size = 2 ∧ i.bytes = 32 := by
  have h : (Try.prog.info? 81).map (fun i => (i.zero, i.size, i.bytes)) = some (some (.agg #[.int .i64 0, .slice none 0 0]), 2, 32) := by kernel_rfl
  cases hi : Try.prog.info? 81 with
  | none => rw [hi] at h; cases h
  | some i =>
    rw [hi] at h
    simp only [Option.map_some, Option.some.injEq, Prod.mk.injEq] at h
    exact ⟨i, rfl, h.1, h.2.1, h.2.2⟩
theorem run_append_re (w : World) (base : Nat) (ty : TypeId) (v : Value) (n : Nat) (Q : List (Int × Value)) (hown : w.ownsRow base 81 2 v n (fl2 Q)) (B cap : Nat) (op : Int) (sa : Option Addr) (sn sc : Nat) (hc0 : w.cell? ⟨B, 0, none⟩ = some (.int .i64 op)) (hc1 : w.cell? ⟨B, 1, none⟩ = some (.slice sa sn sc)) (hlen : n ≤ 100000) (hbase : base ≤ w.heap.size) :
    ∃ v' w', (Builtin.append_ #[24, 24] ty #[v, .slice (some ⟨B, 0, none⟩) 1 cap]).run Try.prog w = .ok v' w' ∧ w'.ownsRow base 81 2 v' (n + 1) (fl2 (Q ++ [(op, .slice sa sn sc)])) ∧ w.grownBy w' v.ownBlock := by
  obtain ⟨i0, hi, hz0, hz1, hz2⟩ := infoRe
  obtain ⟨v', w', h1', h2', h3', -, -⟩ := run_append_own_at (P := Try.prog) w base 24 ty 81 i0 (.agg #[.int .i64 0, .slice none 0 0]) 2 32 Try.underlying24 hi hz0 hz1 hz2 rfl (by decide) v n (fl2 Q) hown ⟨B, 0, none⟩ 1 cap [.int .i64 op, .slice sa sn sc] rfl (fun j u hj => by
    rcases j with _ | _ | j
    · simp at hj; subst hj; simpa [Addr.add] using hc0
    · simp at hj; subst hj; simpa [Addr.add] using hc1
    · simp at hj) (fun u hu => by simp at hu; rcases hu with rfl | rfl <;> rfl) (by unfold maxLen; omega) (by omega) hbase
  refine ⟨v', w', h1', ?_, h3'⟩
  rw [fl2_append]
  exact h2'
theorem wpR (w : World) {ops : Array Oper} {rest : List Oper} {o : Oper} {a : Act} {K : Exit → Act → World → Prop} (hgd : o.guard = none) (s x : Operand)
    (ho : o.op = .call { callee := .builtin .append, args := #[s, x], argTypes := #[24, 24] })
    (base : Nat) (v : Value) (n : Nat) (Q : List (Int × Value)) (hs : a.eval s = v) (hown : w.ownsRow base 81 2 v n (fl2 Q))
    (B cap : Nat) (op : Int) (sa : Option Addr) (sn sc : Nat) (hx : a.eval x = .slice (some ⟨B, 0, none⟩) 1 cap) (hc0 : w.cell? ⟨B, 0, none⟩ = some (.int .i64 op)) (hc1 : w.cell? ⟨B, 1, none⟩ = some (.slice sa sn sc))
    (hlen : n ≤ 100000) (hbase : base ≤ w.heap.size)
    (h : ∀ v' w', w'.ownsRow base 81 2 v' (n + 1) (fl2 (Q ++ [(op, .slice sa sn sc)])) → w.grownBy w' v.ownBlock → wpList Try.prog ops K rest (a.put o.dst v') w') :
    wpList Try.prog ops K (o :: rest) a w := by
  refine wpList_plain hgd fun K hK => ?_
  obtain ⟨v', w', hr, h2, h3⟩ := run_append_re w base o.type v n Q hown B cap op sa sn sc hc0 hc1 hlen hbase
  unfold Oper.wp execOp
  simp only [ho, resolve, invoke, builtin, Sem.run_bind, Sem.run_pure, Result.andThen_ok, List.map_toArray, List.map_cons, List.map_nil, hs, hx, hr]
  exact hK _ _ (h v' w' h2 h3)
theorem qd_app_old (Q : List (Int × Value)) (x : Int × Value) (j : Nat) (h : j < Q.length) : qd (Q ++ [x]) j = qd Q j := by simp [qd, List.getD, List.getElem?_append_left h]
theorem qd_app_new (Q : List (Int × Value)) (x : Int × Value) : qd (Q ++ [x]) Q.length = x := by simp [qd, List.getD]
/-- One node more. -/
theorem own_push {w0 w w' : World} {base : Nat} {v v' : Value} {n : Nat} {f : Nat → Nd} {op : Int} {sv : Value} {s : List Int} (Q : List (Int × Value)) (hQ : Q.length = n) (hr : w0.ownsRow base 81 2 v n (fl2 Q))
    (hs : ∀ j, j < n → (qd Q j).1 = (f j).1 ∧ w0.ownsRow base 3 1 (qd Q j).2 (f j).2.length (ints (f j).2)) (ha : ∀ i j, i < n → j < n → i ≠ j → (qd Q i).2.ownBlock = none ∨ (qd Q i).2.ownBlock ≠ (qd Q j).2.ownBlock)
    (hb : Below w0.heap.size w0 w) (hsv : w.ownsRow base 3 1 sv s.length (ints s)) (hfr : ∀ g, sv.ownBlock = some g → w0.heap.size ≤ g) (hr' : w'.ownsRow base 81 2 v' (n + 1) (fl2 (Q ++ [(op, sv)]))) (hg : w.grownBy w' v.ownBlock) :
    OwnF w' base v' (n + 1) (fun j => if j = n then (op, s) else f j) := by
  have rw_ := World.ownsRow.keepB hr hb
  have old : ∀ j, j < n → w'.ownsRow base 3 1 (qd Q j).2 (f j).2.length (ints (f j).2) := fun j hj => World.ownsRow.kept (World.ownsRow.keepB (hs j hj).2 hb) hg (kinds_apart' rw_ (World.ownsRow.keepB (hs j hj).2 hb))
  have new : w'.ownsRow base 3 1 sv s.length (ints s) := World.ownsRow.kept hsv hg (kinds_apart' rw_ hsv)
  have ne : ∀ j, j < n → ((qd Q j).2.ownBlock = none ∨ (qd Q j).2.ownBlock ≠ sv.ownBlock) ∧ (sv.ownBlock = none ∨ sv.ownBlock ≠ (qd Q j).2.ownBlock) := fun j hj => by
    have lt := World.ownsRow.lt (hs j hj).2
    cases h1 : (qd Q j).2.ownBlock with
    | none => cases h2 : sv.ownBlock with
      | none => exact ⟨.inl rfl, .inl rfl⟩
      | some g => exact ⟨.inl rfl, .inr (by simp)⟩
    | some a =>
      have := (lt a h1).2
      cases h2 : sv.ownBlock with
      | none => exact ⟨.inr (by simp), .inl rfl⟩
      | some g =>
        have := hfr g h2
        exact ⟨.inr (fun e => by have := Option.some.inj e; omega), .inr (fun e => by have := Option.some.inj e; omega)⟩
  subst hQ
  refine ⟨Q ++ [(op, sv)], by simp, hr', fun j hj => ?_, fun i j hi hj hij => ?_⟩
  · by_cases e : j = Q.length
    · subst e
      rw [qd_app_new]
      dsimp only
      rw [if_pos rfl]
      exact ⟨rfl, new⟩
    · rw [qd_app_old Q _ j (by omega)]
      dsimp only
      rw [if_neg e]
      exact ⟨(hs j (by omega)).1, old j (by omega)⟩
  · by_cases e : i = Q.length
    · subst e
      rw [qd_app_new, qd_app_old Q _ j (by omega)]
      exact (ne j (by omega)).2
    · by_cases e' : j = Q.length
      · subst e'
        rw [qd_app_new, qd_app_old Q _ i (by omega)]
        exact (ne i (by omega)).1
      · rw [qd_app_old Q _ i (by omega), qd_app_old Q _ j (by omega)]
        exact ha i j (by omega) (by omega) hij
/-- The pattern of the first k runes. -/
def litK (L : List Int) : Nat → List Nd
  | 0 => []
  | k + 1 => litK L k ++ [(2, [L.getD k 0, L.getD k 0])] ++ (if 0 < k then [(3, [])] else [])
def litL (L : List Int) : List Nd := if L.length = 0 then [(1, [])] else litK L L.length
theorem litK_len (L : List Int) : ∀ k, (litK L k).length = 2 * k - 1
  | 0 => rfl
  | k + 1 => by
    have := litK_len L k
    simp only [litK, List.length_append, List.length_cons, List.length_nil]
    split
    · simp; omega
    · simp; omega
theorem szP_append (A B : List Nd) : szP (A ++ B) = szP A + szP B := by simp [szP]; omega
theorem litK_sz (L : List Int) : ∀ k, szP (litK L k) ≤ 4 * k
  | 0 => by simp [litK, szP]
  | k + 1 => by
    have := litK_sz L k
    rw [litK, szP_append, szP_append]
    have e1 : szP [((2 : Int), [L.getD k 0, L.getD k 0])] = 3 := by simp [szP]
    rw [e1]
    split
    · have : szP [((3 : Int), ([] : List Int))] = 1 := by simp [szP]
      omega
    · have : szP [] = 0 := by simp [szP]
      omega
theorem nd_old (A B : List Nd) (j : Nat) (h : j < A.length) : nd (A ++ B) j = nd A j := by simp [nd, List.getD, List.getElem?_append_left h]
theorem nd_new (A : List Nd) (x : Nd) (B : List Nd) : nd (A ++ x :: B) A.length = x := by simp [nd, List.getD]
theorem pileK_app (A B : List Nd) : ∀ k, k ≤ A.length → pileK (A ++ B) k = pileK A k
  | 0, _ => rfl
  | k + 1, h => by rw [pileK, pileK, pileK_app A B k (by omega), nd_old A B k (by omega)]
theorem pile_snoc (A : List Nd) (x : Nd) : pileK (A ++ [x]) (A ++ [x]).length = (pileK A A.length).bind fun n => if nodeB x = true ∧ arity x.1 ≤ n then some (n + 1 - arity x.1) else none := by
  rw [List.length_append, List.length_singleton, pileK, pileK_app A [x] _ (Nat.le_refl _), nd_new]
theorem goodS_pair (r : Int) (h : goodB r = true) : goodS [r, r] = true := by
  have g := goodB_true h
  have h1 : inR [r, r] = true := by simp [inR]; omega
  have h2 : okAll [r, r] = true := decide_eq_true fun j hj => by
    obtain rfl : j = 0 := by simp at hj; omega
    simp [okAt]
  simp [goodS, h1, h2]
theorem nodeB_pair (r : Int) : nodeB (2, [r, r]) = goodB r := by
  cases h : goodB r with
  | true => simp [nodeB, arity, goodS_pair r h, allG, h]
  | false => simp [nodeB, allG, h]
theorem allG_snoc (L : List Int) (k : Nat) (h : k < L.length) : allG (L.take (k + 1)) = (allG (L.take k) && goodB (L.getD k 0)) := by
  rw [take_snoc L k h]
  simp [allG]
theorem lit_pile (L : List Int) : ∀ k, k ≤ L.length → pileK (litK L k) (litK L k).length = if allG (L.take k) = true then some (if k = 0 then 0 else 1) else none
  | 0, _ => by simp [litK, pileK, allG]
  | k + 1, h => by
    have ih := lit_pile L k (by omega)
    have ar2 : arity 2 = 0 := rfl
    have ar3 : arity 3 = 2 := rfl
    have nb3 : nodeB (3, []) = true := by decide
    have key : pileK (litK L k ++ [(2, [L.getD k 0, L.getD k 0])]) (litK L k ++ [(2, [L.getD k 0, L.getD k 0])]).length = if allG (L.take (k + 1)) = true then some (if k = 0 then 1 else 2) else none := by
      rw [pile_snoc, ih, nodeB_pair, allG_snoc L k (by omega)]
      cases allG (L.take k) with
      | false => simp
      | true =>
        cases goodB (L.getD k 0) with
        | false => simp
        | true => by_cases e : k = 0 <;> simp [e, ar2]
    rw [litK]
    by_cases hk : 0 < k
    · rw [if_pos hk, pile_snoc, key]
      cases allG (L.take (k + 1)) with
      | false => simp
      | true => simp [show ¬ k = 0 by omega, ar3, nb3]
    · rw [if_neg hk, List.append_nil, key]
      obtain rfl : k = 0 := by omega
      simp
theorem lit_good (L : List Int) (h0 : 0 < L.length) : goodP (litK L L.length) = (allG L && decide (L.length ≤ 20)) := by
  have h := lit_pile L L.length (Nat.le_refl _)
  rw [List.take_length, if_neg (show ¬ L.length = 0 by omega)] at h
  have hl := litK_len L L.length
  unfold goodP oneP
  rw [h]
  cases allG L with
  | false => simp
  | true => simp [hl]; omega

theorem own_of_two {w : World} {base B : Nat} {x y : Int} (hb : base ≤ B) (hg : w.heap[B]? = some (.cells #[.int .i64 x, .int .i64 y] 3)) : w.ownsRow base 3 1 (.slice (some ⟨B, 0, none⟩) 2 2) 2 (ints [x, y]) :=
  ⟨rfl, .inr ⟨B, 2, _, rfl, hb, hg, Nat.le_refl _, by unfold maxLen; omega, rfl, rfl⟩⟩
theorem litK_one (L : List Int) (k : Nat) (hk : ¬ 0 < k) : litK L (k + 1) = litK L k ++ [(2, [L.getD k 0, L.getD k 0])] := by rw [litK, if_neg hk, List.append_nil]
theorem litK_more (L : List Int) (k : Nat) (hk : 0 < k) : litK L (k + 1) = litK L k ++ [(2, [L.getD k 0, L.getD k 0])] ++ [(3, [])] := by rw [litK, if_pos hk]
theorem nd_snoc (A : List Nd) (x : Nd) (j : Nat) (h : j < A.length + 1) : (if j = A.length then x else nd A j) = nd (A ++ [x]) j := by
  by_cases e : j = A.length
  · subst e; rw [if_pos rfl, nd_new]
  · rw [if_neg e, nd_old A [x] j (by omega)]
/-- One node more at the end of a list. -/
theorem own_push_list {w0 w w' : World} {base : Nat} {v v' : Value} {A : List Nd} {op : Int} {sv : Value} {s : List Int} (Q : List (Int × Value)) (hQ : Q.length = A.length) (hr : w0.ownsRow base 81 2 v A.length (fl2 Q))
    (hs : ∀ j, j < A.length → (qd Q j).1 = (nd A j).1 ∧ w0.ownsRow base 3 1 (qd Q j).2 (nd A j).2.length (ints (nd A j).2)) (ha : ∀ i j, i < A.length → j < A.length → i ≠ j → (qd Q i).2.ownBlock = none ∨ (qd Q i).2.ownBlock ≠ (qd Q j).2.ownBlock)
    (hb : Below w0.heap.size w0 w) (hsv : w.ownsRow base 3 1 sv s.length (ints s)) (hfr : ∀ g, sv.ownBlock = some g → w0.heap.size ≤ g) (hr' : w'.ownsRow base 81 2 v' (A.length + 1) (fl2 (Q ++ [(op, sv)]))) (hg : w.grownBy w' v.ownBlock) :
    OwnF w' base v' (A ++ [(op, s)]).length (nd (A ++ [(op, s)])) := by
  have h := own_push Q hQ hr hs ha hb hsv hfr hr' hg
  have e : (A ++ [(op, s)]).length = A.length + 1 := by simp
  rw [e]
  exact h.cast (fun j hj => nd_snoc A (op, s) j hj)
end Go.Proofs.Ytendikiflikobaa
