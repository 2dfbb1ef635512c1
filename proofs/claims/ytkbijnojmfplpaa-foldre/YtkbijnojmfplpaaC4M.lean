/-
  Rows of spans: appended, copied (slices.Clone), sorted (slices.SortFunc, by the library's contract).
-/
import Derived.Test.YtkbijnojmfplpaaC4F
import Derived.Shelf.SlSortCmp.WholeK
import Derived.Shelf.SlSortCmp.NoneTotal
import Derived.Shelf.Lay
import Derived.Ground.SlsfProg
namespace Go.Proofs.Ytkbijnojmfplpaa
open Go.ChangeShapes Go.WideShapes Go.ChangeAt Go.RowKit
open Go.Shelf Go.Sort
shelf_lay_g SlLaysF0.n6 Slsf 6 at Try 119 as Try.sortSp
/-- A row of spans of one's own. -/
def ownS (w : World) (base : Nat) (v : Value) (S : List (Int × Int)) : Prop := w.ownsRow base 103 2 v S.length (ints (fl S))
theorem info62b : ∃ i, Try.prog.info? 103 = some i ∧ i.zero = some (.agg #[.int .i64 0, .int .i64 0]) ∧ i.size = 2 ∧ i.bytes = 16 := by
  have h : (Try.prog.info? 103).map (fun i => (i.zero, i.size, i.bytes)) = some (some (.agg #[.int .i64 0, .int .i64 0]), 2, 16) := by kernel_rfl
  cases hi : Try.prog.info? 103 with
  | none => rw [hi] at h; cases h
  | some i =>
    rw [hi] at h
    simp only [Option.map_some, Option.some.injEq, Prod.mk.injEq] at h
    exact ⟨i, rfl, h.1, h.2.1, h.2.2⟩
theorem fl_at : ∀ (S : List (Int × Int)) (j : Nat), j < S.length → (fl S)[j * 2]? = some (S.getD j (0, 0)).1 ∧ (fl S)[j * 2 + 1]? = some (S.getD j (0, 0)).2
  | [], j, h => by simp at h
  | p :: r, 0, _ => ⟨rfl, rfl⟩
  | p :: r, j + 1, h => by
    have := fl_at r j (by simp at h; omega)
    rw [show (j + 1) * 2 = j * 2 + 1 + 1 by omega]
    simpa [fl] using this
theorem spans_cells {w : World} {b off : Nat} {S : List (Int × Int)} (hA : SpansAt w (some ⟨b, off, none⟩) S) : ∀ j u, (ints (fl S))[j]? = some u → w.cell? ⟨b, off + j, none⟩ = some u := by
  intro j u hj
  have hl := fl_len S
  have hj2 : j < 2 * S.length := by
    have := (List.getElem?_eq_some_iff.1 hj).1
    rw [ints_len] at this
    omega
  obtain ⟨b', off', he, _, c1, c2⟩ := hA (j / 2) (by omega)
  cases he
  have hf := fl_at S (j / 2) (by omega)
  rcases (by omega : j = j / 2 * 2 ∨ j = j / 2 * 2 + 1) with e | e
  · rw [← e] at c1 hf
    rw [c1]
    simp only [ints, List.getElem?_map, hf.1] at hj
    exact hj
  · rw [Nat.add_assoc, ← e] at c2
    rw [← e] at hf
    rw [c2]
    simp only [ints, List.getElem?_map, hf.2] at hj
    exact hj
theorem spans_of_own {w : World} {base : Nat} {v : Value} {S : List (Int × Int)} (h : ownS w base v S) : ∃ ao cap, v = .slice ao S.length cap ∧ SpansAt w ao S := by
  rcases h.2 with ⟨rfl, h0⟩ | ⟨g, cap, cur, rfl, h2, h3, h4⟩
  · exact ⟨none, 0, by rw [h0], fun j hj => by omega⟩
  · refine ⟨_, _, rfl, fun j hj => ⟨g, 0, rfl, (Array.getElem?_eq_some_iff.1 h3).1, ?_⟩⟩
    have hf := fl_at S j hj
    rw [Nat.zero_add]
    constructor
    · rw [World.ownsRow.cellAt h (j * 2) (by omega)]
      simp only [ints, List.getElem?_map, hf.1]
      rfl
    · rw [World.ownsRow.cellAt h (j * 2 + 1) (by omega)]
      simp only [ints, List.getElem?_map, hf.2]
      rfl
theorem SpansAt.below {w w' : World} {ao : Option Addr} {S : List (Int × Int)} (h : SpansAt w ao S) (hb : Below w.heap.size w w') : SpansAt w' ao S := fun j hj => by
  obtain ⟨b, off, he, hl, c1, c2⟩ := h j hj
  exact ⟨b, off, he, Nat.lt_of_lt_of_le hl hb.size, (hb.cell (p := ⟨b, off + j * 2, none⟩) hl).trans c1, (hb.cell (p := ⟨b, off + j * 2 + 1, none⟩) hl).trans c2⟩
theorem run_append_spans (w : World) (base : Nat) (ty : TypeId) (v : Value) (n : Nat) (xs : List Value) (hown : w.ownsRow base 103 2 v n xs) (ao : Option Addr) (S : List (Int × Int)) (m cap : Nat) (hm : m = S.length) (hA : SpansAt w ao S) (hlen : n + m ≤ 4000000) (hbase : base ≤ w.heap.size) :
    ∃ v' w', (Builtin.append_ #[109, 109] ty #[v, .slice ao m cap]).run Try.prog w = .ok v' w' ∧ w'.ownsRow base 103 2 v' (n + m) (xs ++ ints (fl S)) ∧ w.grownBy w' v.ownBlock ∧ (v'.ownBlock = v.ownBlock ∨ v'.ownBlock = some w.heap.size) := by
  subst hm
  obtain ⟨i0, hi, hz0, hz1, hz2⟩ := info62b
  have ht := Try.underlying109
  cases ao with
  | none =>
    have h0 : S = [] := by
      cases S with
      | nil => rfl
      | cons x L => obtain ⟨b, off, h, _⟩ := hA 0 (by simp); cases h
    subst h0
    refine ⟨v, w, ?_, by simpa [ints, fl] using hown, ⟨rfl, rfl, rfl, Nat.le_refl _, fun _ _ _ => rfl⟩, Or.inl rfl⟩
    rcases hown.2 with ⟨rfl, rfl⟩ | ⟨g, cap, cur, rfl, hbg, hg, hnc, hcm, hcs, htake⟩
    · simp [Builtin.append_, run_underlying ht, sizeOf, typeInfo, hi, Builtin.lenOf, Builtin.firstCells]
    · simp [Builtin.append_, run_underlying ht, sizeOf, typeInfo, hi, Builtin.lenOf, Builtin.firstCells, storeCells, hnc]
  | some a =>
    obtain ⟨b, off, ts⟩ := a
    have hts : S = [] ∨ ts = none := by
      cases S with
      | nil => exact .inl rfl
      | cons x L => obtain ⟨b', off', h, _⟩ := hA 0 (by simp); cases h; exact .inr rfl
    obtain ⟨v', w', h1', h2', h3', -, h5'⟩ := run_append_own_at (P := Try.prog) w base 109 ty 103 i0 (.agg #[.int .i64 0, .int .i64 0]) 2 16 ht hi hz0 hz1 hz2 rfl (by decide) v n xs hown ⟨b, off, ts⟩ S.length cap (ints (fl S)) (by rw [ints_len, fl_len]; omega) (fun j u hj => by
      rcases hts with h0 | h0
      · subst h0; simp [ints, fl] at hj
      · subst h0
        have hp : (⟨b, off, none⟩ : Addr).add j = ⟨b, off + j, none⟩ := by unfold Addr.add; split <;> simp_all
        rw [hp]
        exact spans_cells hA j u hj) (ints_one _) (by unfold maxLen; omega) (by omega) hbase
    exact ⟨v', w', h1', h2', h3', h5'⟩
theorem wpS (w : World) {ops : Array Oper} {rest : List Oper} {o : Oper} {a : Act} {Q : Exit → Act → World → Prop} (hgd : o.guard = none) (s x : Operand)
    (ho : o.op = .call { callee := .builtin .append, args := #[s, x], argTypes := #[109, 109] })
    (base : Nat) (v : Value) (A : List (Int × Int)) (hs : a.eval s = v) (hown : ownS w base v A)
    (ao : Option Addr) (S : List (Int × Int)) (m cap : Nat) (hx : a.eval x = .slice ao m cap) (hm : m = S.length) (hA : SpansAt w ao S)
    (hlen : A.length + m ≤ 4000000) (hbase : base ≤ w.heap.size)
    (h : ∀ v' w', ownS w' base v' (A ++ S) → w.grownBy w' v.ownBlock → (v'.ownBlock = v.ownBlock ∨ v'.ownBlock = some w.heap.size) → wpList Try.prog ops Q rest (a.put o.dst v') w') :
    wpList Try.prog ops Q (o :: rest) a w := by
  refine wpList_plain hgd fun K hK => ?_
  obtain ⟨v', w', hr, h2, h3, h5⟩ := run_append_spans w base o.type v A.length (ints (fl A)) hown ao S m cap hm hA hlen hbase
  unfold Oper.wp execOp
  simp only [ho, resolve, invoke, builtin, Sem.run_bind, Sem.run_pure, Result.andThen_ok, List.map_toArray, List.map_cons, List.map_nil, hs, hx, hr]
  refine hK _ _ (h v' w' ?_ h3 h5)
  unfold ownS
  rw [fl_append, List.length_append, ← hm]
  simpa [ints] using h2
theorem eq_nil_at (d : Nat) (ao : Option Addr) (n c : Nat) (w : World) : (Op.equalIn (d + 1) 109 (.slice ao n c) (.slice none 0 0)).run Try.prog w = .ok ao.isNone w := by
  cases ao <;> simp [Op.equalIn, run_underlying Try.underlying109]
theorem eq_nil (ao : Option Addr) (n c : Nat) (w : World) : (binOp .eql 109 (.slice ao n c) (.slice none 0 0)).run Try.prog w = .ok (.bool ao.isNone) w := by
  have h : (Op.equal 109 (.slice ao n c) (.slice none 0 0)).run Try.prog w = .ok ao.isNone w := eq_nil_at 9999 ao n c w
  simp only [binOp, Sem.run_bind, h, Result.andThen_ok, Sem.run_pure]
set_option maxRecDepth 100000 in
set_option maxHeartbeats 1000000 in
theorem clone_any (S : List (Int × Int)) (ao : Option Addr) (cap : Nat) (w : World) (hl : S.length ≤ 1048576) (hA : SpansAt w ao S) :
    Calls Try.prog 118 #[.slice ao S.length cap] w fun e w' => ∃ v, e = .returned v ∧ ownS w' w.heap.size v S ∧ Below w.heap.size w w' := by
  have HA : Hid _ := hA
  have B1 : ∀ o, Below w.heap.size w (w.alloc o) := fun o => (Below.refl _ _).alloc (Nat.le_refl _) o
  have hnil := eq_nil ao S.length cap
  cases ao with
  | none =>
    have h0 : S = [] := by
      cases S with
      | nil => rfl
      | cons x L => obtain ⟨b, off, h, _⟩ := hA 0 (by simp); cases h
    subst h0
    clear hA
    simp only [Option.isNone, List.length_nil] at hnil
    go_enter Try.func118, Try.ntmps118
    go_wp2
    go_ret
    exact ⟨_, rfl, World.ownsRow_nil _ _ _ _, Below.refl _ _⟩
  | some a0 =>
    clear hA
    simp only [Option.isNone] at hnil
    have OW : Hid (ownS (w.alloc (.cells #[] 103)) w.heap.size (.slice (some ⟨w.heap.size, 0, none⟩) 0 0) []) := World.ownsRow_made w #[] 0 (Nat.le_refl _) (by unfold maxLen; omega) (by simp)
    go_enter Try.func118, Try.ntmps118
    go_wp2_with (at_builtin; refine wpS _ rfl _ _ rfl w.heap.size _ [] rfl OW.out (some a0) S S.length cap rfl rfl (SpansAt.below HA.out (B1 _)) ?c1 ?c2 ?_)
    case c1 => simp; omega
    case c2 => simp
    intro v' w2 hown2 hgrow _
    have hb2 : Below w.heap.size w w2 := Below.grown (B1 _) hgrow (B1 _).size (fun g hg => by simp [Value.ownBlock] at hg; omega)
    clear hgrow
    go_wp2
    go_ret
    exact ⟨_, rfl, hown2, hb2⟩
end Go.Proofs.Ytkbijnojmfplpaa
