/-
  The specification's lists of nodes: one put behind the other; l5Rev; RevRe of the specification.
-/
import Derived.Test.YtendikiflikobaaT5S
import Derived.Test.YtendikiflikobaaRowAp
namespace Go.Proofs.Ytendikiflikobaa
open Go.ChangeShapes Go.WideShapes Go.ChangeAt Go.WideMaps Go.WideElems Go.RowKit
/-- A list of nodes in memory of its own, two of whose sets may be one. -/
def OwnG (w : World) (base : Nat) (v : Value) (P : List Nd) : Prop :=
  ∃ Q : List (Int × Value), Q.length = P.length ∧ w.ownsRow base 81 2 v P.length (fl2 Q) ∧ ∀ j, j < P.length → (qd Q j).1 = (nd P j).1 ∧ w.ownsRow base 3 1 (qd Q j).2 (nd P j).2.length (ints (nd P j).2)
theorem OwnF.g {w : World} {base : Nat} {v : Value} {P : List Nd} (h : OwnF w base v P.length (nd P)) : OwnG w base v P := by
  obtain ⟨Q, h1, h2, h3, -⟩ := h
  exact ⟨Q, h1, h2, h3⟩
theorem OwnG.keepB {w w' : World} {base : Nat} {v : Value} {P : List Nd} (h : OwnG w base v P) (hb : Below w.heap.size w w') : OwnG w' base v P := by
  obtain ⟨Q, h1, h2, h3⟩ := h
  exact ⟨Q, h1, World.ownsRow.keepB h2 hb, fun j hj => ⟨(h3 j hj).1, World.ownsRow.keepB (h3 j hj).2 hb⟩⟩
theorem OwnG.mono {w : World} {base base' : Nat} {v : Value} {P : List Nd} (h : OwnG w base v P) (hb : base' ≤ base) : OwnG w base' v P := by
  obtain ⟨Q, h1, h2, h3⟩ := h
  exact ⟨Q, h1, own_mono h2 hb, fun j hj => ⟨(h3 j hj).1, own_mono (h3 j hj).2 hb⟩⟩
theorem OwnG.form {w : World} {base : Nat} {v : Value} {P : List Nd} (h : OwnG w base v P) : ∃ ao cap, v = .slice ao P.length cap ∧ ResAt w ao P := by
  obtain ⟨Q, hQ, hr, hs⟩ := h
  rcases hr.2 with ⟨rfl, h0⟩ | ⟨g, cap, cur, rfl, h2, h3, h4⟩
  · exact ⟨none, 0, by rw [h0], fun j hj => by omega⟩
  · refine ⟨_, _, rfl, fun j hj => ?_⟩
    have hf := fl2_at Q j (by omega)
    obtain ⟨e, ho⟩ := hs j hj
    obtain ⟨-, a, c, hv, hi⟩ := ints_of_own ho
    refine ⟨g, 0, a, c, rfl, (Array.getElem?_eq_some_iff.1 h3).1, ?_, ?_, hi⟩
    · rw [Nat.zero_add, World.ownsRow.cellAt hr (j * 2) (by omega), hf.1, e]
    · rw [Nat.zero_add, World.ownsRow.cellAt hr (j * 2 + 1) (by omega), hf.2, hv]
/-- One node more, whose set lies anywhere behind. -/
theorem OwnG.push {w w' : World} {base : Nat} {v v' : Value} {A : List Nd} {op : Int} {sv : Value} {s : List Int} (Q : List (Int × Value)) (hQ : Q.length = A.length) (hr : w.ownsRow base 81 2 v A.length (fl2 Q))
    (hs : ∀ j, j < A.length → (qd Q j).1 = (nd A j).1 ∧ w.ownsRow base 3 1 (qd Q j).2 (nd A j).2.length (ints (nd A j).2)) (hsv : w.ownsRow base 3 1 sv s.length (ints s)) (hr' : w'.ownsRow base 81 2 v' (A.length + 1) (fl2 (Q ++ [(op, sv)]))) (hg : w.grownBy w' v.ownBlock) : OwnG w' base v' (A ++ [(op, s)]) := by
  refine ⟨Q ++ [(op, sv)], by simp [hQ], by rw [List.length_append, List.length_singleton]; exact hr', fun j hj => ?_⟩
  rw [List.length_append, List.length_singleton] at hj
  by_cases e : j = A.length
  · subst e
    rw [nd_new, ← hQ, qd_app_new]
    exact ⟨rfl, World.ownsRow.kept hsv hg (kinds_apart' hr hsv)⟩
  · rw [nd_old A _ j (by omega), qd_app_old Q _ j (by omega)]
    exact ⟨(hs j (by omega)).1, World.ownsRow.kept (hs j (by omega)).2 hg (kinds_apart' hr (hs j (by omega)).2)⟩
theorem fl2_one {Q : List (Int × Value)} (h : ∀ j, j < Q.length → (qd Q j).2.oneCell' = true) : ∀ u ∈ fl2 Q, u.oneCell' = true := by
  induction Q with
  | nil => intro u hu; cases hu
  | cons q r ih =>
    intro u hu
    simp only [fl2, List.mem_cons] at hu
    rcases hu with rfl | rfl | hu
    · rfl
    · exact h 0 (by simp)
    · exact ih (fun j hj => h (j + 1) (by simp; omega)) u hu
theorem own_one' {w : World} {base : Nat} {v : Value} {n : Nat} {xs : List Value} (h : w.ownsRow base 3 1 v n xs) : v.oneCell' = true := by
  rcases h.2 with ⟨rfl, -⟩ | ⟨g, cap, cur, rfl, -⟩ <;> rfl
/-- Nodes behind nodes. -/
theorem append_g {w : World} {base : Nat} {v u : Value} {A B : List Nd} (ty : TypeId) (h : OwnG w base v A) (k : OwnG w base u B) (hlen : A.length + B.length ≤ 100000) (hb : base ≤ w.heap.size) :
    ∃ v' w', (Builtin.append_ #[24, 24] ty #[v, u]).run Try.prog w = .ok v' w' ∧ OwnG w' base v' (A ++ B) ∧ w.grownBy w' v.ownBlock ∧ Below base w w' := by
  obtain ⟨i0, hi, hz0, hz1, hz2⟩ := infoRe
  obtain ⟨Q, q1, q2, q3⟩ := h
  obtain ⟨R, r1, r2, r3⟩ := k
  obtain ⟨v', w', h1, h2, h3, -⟩ := run_append_row (P := Try.prog) w base 24 ty 81 i0 (.agg #[.int .i64 0, .slice none 0 0]) 2 32 Try.underlying24 hi hz0 hz1 hz2 rfl (by decide) v A.length (fl2 Q) q2 base u B.length (fl2 R) r2 (fl2_one (fun j hj => own_one' (r3 j (by omega)).2)) (by unfold maxLen; omega) (by omega) hb
  refine ⟨v', w', h1, ⟨Q ++ R, by simp [q1, r1], by rw [List.length_append, fl2_append]; exact h2, fun j hj => ?_⟩, h3, Below.grown (Below.refl _ _) h3 hb (fun g hg => (World.ownsRow.lt q2 g hg).1)⟩
  rw [List.length_append] at hj
  by_cases e : j < A.length
  · have e1 : qd (Q ++ R) j = qd Q j := by simp [qd, List.getD, List.getElem?_append_left (show j < Q.length by omega)]
    rw [nd_old A _ j e, e1]
    exact ⟨(q3 j e).1, World.ownsRow.kept (q3 j e).2 h3 (kinds_apart' q2 (q3 j e).2)⟩
  · have e1 : qd (Q ++ R) j = qd R (j - A.length) := by simp [qd, List.getD, List.getElem?_append_right (show Q.length ≤ j by omega), q1]
    have e2 : nd (A ++ B) j = nd B (j - A.length) := by simp [nd, List.getD, List.getElem?_append_right (show A.length ≤ j by omega)]
    rw [e1, e2]
    exact ⟨(r3 _ (by omega)).1, World.ownsRow.kept (r3 _ (by omega)).2 h3 (kinds_apart' q2 (r3 _ (by omega)).2)⟩
theorem OwnG.lt {w : World} {base : Nat} {v : Value} {P : List Nd} (h : OwnG w base v P) : ∀ g, v.ownBlock = some g → g < w.heap.size := fun g hg => by
  obtain ⟨Q, h1, h2, h3⟩ := h
  exact (World.ownsRow.lt h2 g hg).2
/-- Nodes behind nodes, one operation. -/
theorem wpG (w : World) {ops : Array Oper} {rest : List Oper} {o : Oper} {a : Act} {K : Exit → Act → World → Prop} (hgd : o.guard = none) (s x : Operand)
    (ho : o.op = .call { callee := .builtin .append, args := #[s, x], argTypes := #[24, 24] })
    (base : Nat) (v u : Value) (A B : List Nd) (hs : a.eval s = v) (hx : a.eval x = u) (hv : OwnG w base v A) (hu : OwnG w base u B) (hlen : A.length + B.length ≤ 100000) (hbase : base ≤ w.heap.size)
    (h : ∀ v' w', OwnG w' base v' (A ++ B) → w.grownBy w' v.ownBlock → Below base w w' → wpList Try.prog ops K rest (a.put o.dst v') w') :
    wpList Try.prog ops K (o :: rest) a w := by
  refine wpList_plain hgd fun K hK => ?_
  obtain ⟨v', w', hr, h2, hgr, h3⟩ := append_g o.type hv hu hlen hbase
  unfold Oper.wp execOp
  simp only [ho, resolve, invoke, builtin, Sem.run_bind, Sem.run_pure, Result.andThen_ok, List.map_toArray, List.map_cons, List.map_nil, hs, hx, hr]
  exact hK _ _ (h v' w' h2 hgr h3)
/-- One node of no set behind nodes. -/
theorem push_g {w : World} {base : Nat} {v : Value} {A : List Nd} (ty : TypeId) (h : OwnG w base v A) (B cap : Nat) (op : Int) (hc0 : w.cell? ⟨B, 0, none⟩ = some (.int .i64 op)) (hc1 : w.cell? ⟨B, 1, none⟩ = some (.slice none 0 0)) (hlen : A.length ≤ 100000) (hb : base ≤ w.heap.size) :
    ∃ v' w', (Builtin.append_ #[24, 24] ty #[v, .slice (some ⟨B, 0, none⟩) 1 cap]).run Try.prog w = .ok v' w' ∧ OwnG w' base v' (A ++ [(op, [])]) ∧ w.grownBy w' v.ownBlock ∧ Below base w w' := by
  obtain ⟨Q, q1, q2, q3⟩ := h
  obtain ⟨v', w', hr, h2, h3⟩ := run_append_re w base ty v A.length Q q2 B cap op none 0 0 hc0 hc1 hlen hb
  exact ⟨v', w', hr, OwnG.push Q q1 q2 q3 (by simpa [ints] using World.ownsRow_nil w base 3 1) h2 h3, h3, Below.grown (Below.refl _ _) h3 hb (fun g hg => (World.ownsRow.lt q2 g hg).1)⟩
theorem wpN (w : World) {ops : Array Oper} {rest : List Oper} {o : Oper} {a : Act} {K : Exit → Act → World → Prop} (hgd : o.guard = none) (s x : Operand)
    (ho : o.op = .call { callee := .builtin .append, args := #[s, x], argTypes := #[24, 24] })
    (base : Nat) (v : Value) (A : List Nd) (hs : a.eval s = v) (hv : OwnG w base v A) (B cap : Nat) (op : Int) (hx : a.eval x = .slice (some ⟨B, 0, none⟩) 1 cap) (hc0 : w.cell? ⟨B, 0, none⟩ = some (.int .i64 op)) (hc1 : w.cell? ⟨B, 1, none⟩ = some (.slice none 0 0)) (hlen : A.length ≤ 100000) (hbase : base ≤ w.heap.size)
    (h : ∀ v' w', OwnG w' base v' (A ++ [(op, [])]) → Below base w w' → wpList Try.prog ops K rest (a.put o.dst v') w') :
    wpList Try.prog ops K (o :: rest) a w := by
  refine wpList_plain hgd fun K hK => ?_
  obtain ⟨v', w', hr, h2, -, h3⟩ := push_g o.type hv B cap op hc0 hc1 hlen hbase
  unfold Oper.wp execOp
  simp only [ho, resolve, invoke, builtin, Sem.run_bind, Sem.run_pure, Result.andThen_ok, List.map_toArray, List.map_cons, List.map_nil, hs, hx, hr]
  exact hK _ _ (h v' w' h2 h3)
theorem stepG {ops : Array Oper} {o : Oper} {a : Act} {K : Act → World → Prop} {Q' : Exit → Act → World → Prop} {E : Prop} (w : World) (hg : o.guard = none) (s x : Operand)
    (hop : o.op = .call { callee := .builtin .append, args := #[s, x], argTypes := #[24, 24] })
    (base : Nat) (v u : Value) (A B : List Nd) (hs : a.eval s = v) (hx : a.eval x = u) (hv : OwnG w base v A) (hu : OwnG w base u B) (hlen : A.length + B.length ≤ 100000) (hbase : base ≤ w.heap.size)
    (h : ∀ v' w', OwnG w' base v' (A ++ B) → w.grownBy w' v.ownBlock → Below base w w' → K (a.put o.dst v') w') :
    if Region.wanted o (yielded ops a.tmps) = true then Oper.wp Try.prog o a w K Q' else E := by
  have hw : Region.wanted o (yielded ops a.tmps) = true := by simp [Region.wanted, hg]
  rw [if_pos hw]
  obtain ⟨v', w', hr, h2, hgr, h3⟩ := append_g o.type hv hu hlen hbase
  unfold Oper.wp execOp
  simp only [hop, resolve, invoke, builtin, Sem.run_bind, Sem.run_pure, Result.andThen_ok, List.map_toArray, List.map_cons, List.map_nil, hs, hx, hr]
  exact h v' w' h2 hgr h3
theorem stepN {ops : Array Oper} {o : Oper} {a : Act} {K : Act → World → Prop} {Q' : Exit → Act → World → Prop} {E : Prop} (w : World) (hg : o.guard = none) (s x : Operand)
    (hop : o.op = .call { callee := .builtin .append, args := #[s, x], argTypes := #[24, 24] })
    (base : Nat) (v : Value) (A : List Nd) (hs : a.eval s = v) (hv : OwnG w base v A) (B cap : Nat) (op : Int) (hx : a.eval x = .slice (some ⟨B, 0, none⟩) 1 cap) (hc0 : w.cell? ⟨B, 0, none⟩ = some (.int .i64 op)) (hc1 : w.cell? ⟨B, 1, none⟩ = some (.slice none 0 0)) (hlen : A.length ≤ 100000) (hbase : base ≤ w.heap.size)
    (h : ∀ v' w', OwnG w' base v' (A ++ [(op, [])]) → Below base w w' → K (a.put o.dst v') w') :
    if Region.wanted o (yielded ops a.tmps) = true then Oper.wp Try.prog o a w K Q' else E := by
  have hw : Region.wanted o (yielded ops a.tmps) = true := by simp [Region.wanted, hg]
  rw [if_pos hw]
  obtain ⟨v', w', hr, h2, -, h3⟩ := push_g o.type hv B cap op hc0 hc1 hlen hbase
  unfold Oper.wp execOp
  simp only [hop, resolve, invoke, builtin, Sem.run_bind, Sem.run_pure, Result.andThen_ok, List.map_toArray, List.map_cons, List.map_nil, hs, hx, hr]
  exact h v' w' h2 h3
set_option maxRecDepth 100000 in
theorem one_cut (ao : Option Addr) (n cap k : Nat) (hk : k < n) (hc : n ≤ cap) : ∃ A C, (∀ w, (Instr.slice 24 (.slice ao n cap) (some (.int .i64 (k : Int))) (some (.int .i64 ((k : Int) + 1))) none).run Try.prog w = .ok (.slice A 1 C) w) ∧ ∀ w P, P.length = n → ResAt w ao P → ResAt w A [nd P k] := by
  obtain ⟨i0, hi, hz0, hz1, hz2⟩ := infoRe
  refine ⟨if cap = k then ao else ao.map (·.add (k * 2)), cap - k, fun w => ?_, fun w P hl h j hj => ?_⟩
  · rw [run_slice_lh w 24 ao n cap Try.underlying24 .i64 .i64 (k : Int) ((k : Int) + 1) (by omega) (by omega) (by omega), show Try.prog.elem 24 = 81 by kernel_rfl]
    simp [sizeOf, typeInfo, hi, hz1, sliced]
  · obtain rfl : j = 0 := by simp at hj; omega
    obtain ⟨b, off, sa, sc, rfl, h2, h3, h4, h5⟩ := h k (by omega)
    rw [if_neg (by omega)]
    refine ⟨b, off + k * 2, sa, sc, by simp [Addr.add], h2, ?_, ?_, ?_⟩
    · simpa [nd, Addr.add] using h3
    · simpa [nd, Addr.add] using h4
    · simpa [nd] using h5
end Go.Proofs.Ytendikiflikobaa
