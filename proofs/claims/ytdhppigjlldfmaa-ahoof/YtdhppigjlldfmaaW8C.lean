/-
  One state more in a trie.
-/
import Derived.Test.YtdhppigjlldfmaaW8B
import Derived.Deep.RegionHeldLaw
import Derived.Deep.RegionLaw
import Derived.ArgAppend
namespace Go.Proofs.Ytdhppigjlldfmaa
open Go.ChangeShapes Go.WideShapes Go.ChangeAt Go.RowKit Go.Maps
/-- Rows of ints that the call does not reach stay as they are. -/
def KeepI (w w' : World) : Prop := ∀ b v n xs, w.ownsRow b 3 1 v n xs → w'.ownsRow b 3 1 v n xs
theorem KeepI.trans {a b c : World} (h : KeepI a b) (k : KeepI b c) : KeepI a c := fun _ _ _ _ ho => k _ _ _ _ (h _ _ _ _ ho)
theorem KeepI.below {w w' : World} (h : Below w.heap.size w w') : KeepI w w' := fun _ _ _ _ ho => World.ownsRow.keepB ho h
theorem own_slice {w : World} {base : Nat} {e : TypeId} {size : Nat} {v : Value} {n : Nat} {xs : List Value} (h : w.ownsRow base e size v n xs) : ∃ ao cap, v = .slice ao n cap := by
  rcases h.2 with ⟨rfl, h0⟩ | ⟨g, cap, cur, rfl, -⟩
  · exact ⟨none, 0, by rw [h0]⟩
  · exact ⟨_, _, rfl⟩
theorem infoSt : ∃ i, Try.prog.info? 75 = some i ∧ i.zero = some (.agg #[.int .i64 0, .int .i64 0, .int .i64 0, .int .i64 0, .slice none 0 0]) ∧ i.size = 5 ∧ i.bytes = 56 := by
  have h : (Try.prog.info? 75).map (fun i => (i.zero, i.size, i.bytes)) = some (some (.agg #[.int .i64 0, .int .i64 0, .int .i64 0, .int .i64 0, .slice none 0 0]), 5, 56) := by kernel_rfl
  cases hi : Try.prog.info? 75 with
  | none => rw [hi] at h; cases h
  | some i =>
    rw [hi] at h
    simp only [Option.map_some, Option.some.injEq, Prod.mk.injEq] at h
    exact ⟨i, rfl, h.1, h.2.1, h.2.2⟩
theorem run_append_st (w : World) (base : Nat) (ty : TypeId) (v : Value) (n : Nat) (Q : List Sq) (hown : w.ownsRow base 75 5 v n (fl5 Q)) (B cap : Nat) (f b l q : Int) (ea : Option Addr) (en ec : Nat)
    (hb : w.heap[B]? = some (.cells #[.int .i64 f, .int .i64 b, .int .i64 l, .int .i64 q, .slice ea en ec] 75)) (hlen : n ≤ 1000000) (hbase : base ≤ w.heap.size) :
    ∃ v' w', (Builtin.append_ #[68, 68] ty #[v, .slice (some ⟨B, 0, none⟩) 1 cap]).run Try.prog w = .ok v' w' ∧ w'.ownsRow base 75 5 v' (n + 1) (fl5 (Q ++ [⟨f, b, l, q, .slice ea en ec⟩])) ∧ w.grownBy w' v.ownBlock := by
  obtain ⟨i0, hi, hz0, hz1, hz2⟩ := infoSt
  obtain ⟨v', w', h1', h2', h3', -, -⟩ := run_append_own_at (P := Try.prog) w base 68 ty 75 i0 (.agg #[.int .i64 0, .int .i64 0, .int .i64 0, .int .i64 0, .slice none 0 0]) 5 56 Try.underlying68 hi hz0 hz1 hz2 rfl (by decide) v n (fl5 Q) hown ⟨B, 0, none⟩ 1 cap [.int .i64 f, .int .i64 b, .int .i64 l, .int .i64 q, .slice ea en ec] rfl (fun j u hj => by
    rcases j with _ | _ | _ | _ | _ | j
    · simp at hj; subst hj; simpa [Addr.add] using cell_of hb 0
    · simp at hj; subst hj; simpa [Addr.add] using cell_of hb 1
    · simp at hj; subst hj; simpa [Addr.add] using cell_of hb 2
    · simp at hj; subst hj; simpa [Addr.add] using cell_of hb 3
    · simp at hj; subst hj; simpa [Addr.add] using cell_of hb 4
    · simp at hj) (fun u hu => by simp at hu; rcases hu with rfl | rfl | rfl | rfl | rfl <;> rfl) (by unfold maxLen; omega) (by omega) hbase
  refine ⟨v', w', h1', ?_, h3'⟩
  rw [fl5_append]
  exact h2'
/-- .. and the old states are still read where they stood. -/
theorem run_append_st2 (w : World) (base : Nat) (ty : TypeId) (g n cp : Nat) (Q : List Sq) (hown : w.ownsRow base 75 5 (.slice (some ⟨g, 0, none⟩) n cp) n (fl5 Q)) (B cap : Nat) (f b l q : Int) (ea : Option Addr) (en ec : Nat)
    (hb : w.heap[B]? = some (.cells #[.int .i64 f, .int .i64 b, .int .i64 l, .int .i64 q, .slice ea en ec] 75)) (hlen : n ≤ 1000000) (hbase : base ≤ w.heap.size) :
    ∃ v' w', (Builtin.append_ #[68, 68] ty #[.slice (some ⟨g, 0, none⟩) n cp, .slice (some ⟨B, 0, none⟩) 1 cap]).run Try.prog w = .ok v' w' ∧ w'.ownsRow base 75 5 v' (n + 1) (fl5 (Q ++ [⟨f, b, l, q, .slice ea en ec⟩])) ∧ w.grownBy w' (some g) ∧ ∀ j, j < n * 5 → w'.cell? ⟨g, j, none⟩ = w.cell? ⟨g, j, none⟩ := by
  obtain ⟨v', w', hr, ho, hg⟩ := run_append_st w base ty _ n Q hown B cap f b l q ea en ec hb hlen hbase
  refine ⟨v', w', hr, ho, hg, fun j hj => ?_⟩
  obtain ⟨i0, hi, hz0, hz1, hz2⟩ := infoSt
  have hnews : ∀ j u, [Value.int .i64 f, .int .i64 b, .int .i64 l, .int .i64 q, .slice ea en ec][j]? = some u → w.cell? ((⟨B, 0, none⟩ : Addr).add j) = some u := fun j u hj => by
    rcases j with _ | _ | _ | _ | _ | j
    · simp at hj; subst hj; simpa [Addr.add] using cell_of hb 0
    · simp at hj; subst hj; simpa [Addr.add] using cell_of hb 1
    · simp at hj; subst hj; simpa [Addr.add] using cell_of hb 2
    · simp at hj; subst hj; simpa [Addr.add] using cell_of hb 3
    · simp at hj; subst hj; simpa [Addr.add] using cell_of hb 4
    · simp at hj
  have hlQ : Q.length * 5 = n * 5 := by rw [← fl5_len]; exact hown.1
  by_cases hroom : n + 1 ≤ cp
  · rcases hown.2 with ⟨h, -⟩ | ⟨g', c', cur, e, k1, k2, k3, k4, k5, k6⟩
    · cases h
    · simp only [Value.slice.injEq, Option.some.injEq, Addr.mk.injEq, and_true, true_and] at e
      obtain ⟨rfl, rfl⟩ := e
      have hr2 := run_append_room_cells (P := Try.prog) w 68 ty 75 i0 Try.underlying68 hi g 0 n cp ⟨B, 0, none⟩ 1 cap [.int .i64 f, .int .i64 b, .int .i64 l, .int .i64 q, .slice ea en ec] (by rw [hz1]; rfl) hnews (fun u hu => by simp at hu; rcases hu with rfl | rfl | rfl | rfl | rfl <;> rfl) hroom (fun j hj => by
        have hj' : j < 5 := hj
        have : 0 + n * 5 + j < cur.size := by omega
        rw [cell_of k2, hz1, Array.getElem?_eq_getElem this]
        rfl) (fun j hj => frozen_of_row w _ _ _ _ k2)
      rw [hr] at hr2
      simp only [Result.ok.injEq] at hr2
      obtain ⟨rfl, -⟩ := hr2
      rw [World.ownsRow.cellAt ho j (by omega), World.ownsRow.cellAt hown j hj, fl5_append, List.getElem?_append_left (by rw [fl5_len]; omega)]
  · have holds : ∀ j u, (fl5 Q)[j]? = some u → w.cell? ((⟨g, 0, none⟩ : Addr).add j) = some u := hown.cells (g := g) rfl
    obtain ⟨v2, w2, hr2, -, hg2⟩ := run_append_arg_grows (P := Try.prog) w 68 ty 75 i0 (.agg #[.int .i64 0, .int .i64 0, .int .i64 0, .int .i64 0, .slice none 0 0]) 5 56 Try.underlying68 hi hz0 hz1 hz2 rfl (by decide) ⟨g, 0, none⟩ n cp (fl5 Q) hown.1 holds ⟨B, 0, none⟩ 1 cap [.int .i64 f, .int .i64 b, .int .i64 l, .int .i64 q, .slice ea en ec] rfl hnews (by omega) (by unfold maxLen; omega) (by omega)
    rw [hr] at hr2
    simp only [Result.ok.injEq] at hr2
    obtain ⟨rfl, rfl⟩ := hr2
    exact World.cell?_of_block (hg2.block g ((World.ownsRow.lt hown g rfl).2) (by simp))
theorem step_st2 {ops : Array Oper} {o : Oper} {a : Act} {K : Act → World → Prop} {Q' : Exit → Act → World → Prop} {E : Prop} (w : World) (hg : o.guard = none) (s x : Operand)
    (hop : o.op = .call { callee := .builtin .append, args := #[s, x], argTypes := #[68, 68] })
    (base : Nat) (g n cp : Nat) (Q : List Sq) (hs : a.eval s = .slice (some ⟨g, 0, none⟩) n cp) (hown : w.ownsRow base 75 5 (.slice (some ⟨g, 0, none⟩) n cp) n (fl5 Q)) (B cap : Nat) (f b l q : Int) (ea : Option Addr) (en ec : Nat) (hx : a.eval x = .slice (some ⟨B, 0, none⟩) 1 cap)
    (hb : w.heap[B]? = some (.cells #[.int .i64 f, .int .i64 b, .int .i64 l, .int .i64 q, .slice ea en ec] 75)) (hlen : n ≤ 1000000) (hbase : base ≤ w.heap.size)
    (h : ∀ v' w', w'.ownsRow base 75 5 v' (n + 1) (fl5 (Q ++ [⟨f, b, l, q, .slice ea en ec⟩])) → w.grownBy w' (some g) → (∀ j, j < n * 5 → w'.cell? ⟨g, j, none⟩ = w.cell? ⟨g, j, none⟩) → K (a.put o.dst v') w') :
    if Region.wanted o (yielded ops a.tmps) = true then Oper.wp Try.prog o a w K Q' else E := by
  have hw : Region.wanted o (yielded ops a.tmps) = true := by simp [Region.wanted, hg]
  rw [if_pos hw]
  obtain ⟨v', w', hr, h2, h3, h4⟩ := run_append_st2 w base o.type g n cp Q hown B cap f b l q ea en ec hb hlen hbase
  unfold Oper.wp execOp
  simp only [hop, resolve, invoke, builtin, Sem.run_bind, Sem.run_pure, Result.andThen_ok, List.map_toArray, List.map_cons, List.map_nil, hs, hx, hr]
  exact h v' w' h2 h3 h4
theorem KeepI.grown {w w' : World} {B : Nat} {e : TypeId} {size : Nat} {v : Value} {n : Nat} {xs : List Value} {b : Nat} (ho : w.ownsRow b e size v n xs) (ne : (3 : TypeId) ≠ e) (hg : w.grownBy w' (some B)) (hv : v.ownBlock = some B) : KeepI w w' := fun _ _ _ _ hr => World.ownsRow.kept hr hg (by have := types_apart ne hr ho; rwa [hv] at this)
theorem KeepI.map {w w' : World} {m : Nat} (hm : ∃ es c, w.heap[m]? = some (.map es c)) (hg : w.grownBy w' (some m)) : KeepI w w' := fun b v n xs hr => World.ownsRow.kept hr hg (by
  obtain ⟨es, c, hm⟩ := hm
  rcases hr.2 with ⟨rfl, -⟩ | ⟨g, cap, cur, rfl, -, h3, -⟩
  · exact .inl rfl
  · refine .inr fun e => ?_
    have e' : g = m := by simpa [Value.ownBlock] using e
    rw [e', hm] at h3
    cases h3)
theorem KeepI.cell {w : World} {tb o : Nat} {cs : Array Value} {t : TypeId} (ne : (3 : TypeId) ≠ t) (hb : w.heap[tb]? = some (.cells cs t)) (u : Value) : KeepI w (w.setCell ⟨tb, o, none⟩ u) := fun b v n xs hr => World.ownsRow.kept hr (grown_set w tb o u) (by
  rcases hr.2 with ⟨rfl, -⟩ | ⟨g, cap, cur, rfl, -, h3, -⟩
  · exact .inl rfl
  · refine .inr fun e => ?_
    have e' : g = tb := by simpa [Value.ownBlock] using e
    rw [e', hb] at h3
    simp only [Option.some.injEq, Obj.cells.injEq] at h3
    exact ne h3.2.1.symm)
/-- What add knows behind its map. -/
def AddMid (w w2 : World) (base tb g m n cap : Nat) (E : Ed) : Prop :=
  base ≤ tb ∧ base ≤ m ∧ base ≤ g ∧ g < w2.heap.size ∧ g ≠ m ∧ tb ≠ g ∧ w2.heap[tb]? = some (.cells #[.slice (some ⟨g, 0, none⟩) n cap, .map (some m)] 71) ∧ EdgesAt w2 m (n + 1) E ∧ Below base w w2 ∧ KeepI w w2 ∧ ∃ xs, w2.ownsRow base 75 5 (.slice (some ⟨g, 0, none⟩) n cap) n xs
theorem add_mid {w w2 w3 : World} {base tb g m n cap : Nat} {E : Ed} {o : Obj} {v3 : Value} {Q : List Sq} (h : AddMid w w2 base tb g m n cap E) (hr : w3.ownsRow base 75 5 v3 Q.length (fl5 Q)) (hn : Q.length = n + 1) (hg : ((w2.alloc o).drew).grownBy w3 (some g)) :
    TrieAt (w3.setCell ⟨tb, 0, none⟩ v3) base tb Q E ∧ Below base w (w3.setCell ⟨tb, 0, none⟩ v3) ∧ KeepI w (w3.setCell ⟨tb, 0, none⟩ v3) := by
  obtain ⟨h1, h2, h3, h4, h5, h6, h7, h8, h9, h10, xs, h11⟩ := h
  have al : Below w2.heap.size w2 (w2.alloc o).drew := (al_W w2 o).drew
  have lt := (Array.getElem?_eq_some_iff.1 h7).1
  have hb3 : w3.heap[tb]? = some (.cells #[.slice (some ⟨g, 0, none⟩) n cap, .map (some m)] 71) := (hg.block tb (Nat.lt_of_lt_of_le lt al.size) (fun e => h6 (Option.some.inj e))).trans ((al.block tb lt).trans h7)
  have hE3 : EdgesAt w3 m (n + 1) E := EdgesAt.kept (EdgesAt.keepB h8 al) hg (fun e => h5 (Option.some.inj e).symm)
  have hs2 : base ≤ w2.heap.size := by omega
  have B3 : Below base w w3 := Below.grown (h9.trans (al.mono hs2)) hg (Nat.le_trans hs2 al.size) (fun k e => by have := Option.some.inj e; omega)
  have K3 : KeepI w w3 := (h10.trans (KeepI.below al)).trans (KeepI.grown (World.ownsRow.keepB h11 al) (by decide) hg rfl)
  have hmt : m ≠ tb := fun e => by
    obtain ⟨es, c, hm⟩ := hE3.isMap
    rw [e, hb3] at hm
    cases hm
  refine ⟨⟨v3, m, h1, h2, blk_same hb3 0 v3, World.ownsRow.kept hr (grown_set w3 tb 0 v3) ?_, ?_⟩, Below.grown B3 (grown_set w3 tb 0 v3) (Nat.le_trans hs2 (Nat.le_trans al.size hg.size)) (fun k e => by have := Option.some.inj e; omega), K3.trans (KeepI.cell (by decide) hb3 v3)⟩
  · rcases hr.2 with ⟨rfl, -⟩ | ⟨g', cap', cur, rfl, -, k3, -⟩
    · exact .inl rfl
    · refine .inr fun e => ?_
      have e' : g' = tb := by simpa [Value.ownBlock] using e
      rw [e', hb3] at k3
      simp at k3
  · rw [hn]
    exact EdgesAt.setCell hE3 (a := ⟨tb, 0, none⟩) hmt v3
end Go.Proofs.Ytdhppigjlldfmaa
