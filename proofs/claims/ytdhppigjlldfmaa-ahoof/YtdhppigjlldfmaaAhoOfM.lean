/-
  For every list of words, laws.FnExactAhoOf returns true: impl.AhoOf answers as the specification's AhoOf, machine and flag, in memory of its own that a second call leaves alone, and leaves the words as they were. No conditions.
-/
import Derived.Test.YtdhppigjlldfmaaW9J
import Derived.Test.YtdhppigjlldfmaaW9L
import Derived.Deep.MidRow
import Derived.Test.YtdhppigjlldfmaaW8O
import Derived.Test.YtdhppigjlldfmaaW9R
import Derived.Lib.SmallJoins
namespace Go.Proofs.Ytdhppigjlldfmaa
open Go.ChangeShapes Go.WideShapes Go.ChangeAt Go.WideMaps Go.WideElems Go.RowKit
theorem neIA : (26 : TypeId) ≠ 28 := by decide
structure AhoV (w : World) (base lo ab : Nat) (v0 v1 v2 v3 : Value) (Q : List Value) (P B F : List Int) (f : Nat → List Int) : Prop where
  blk : w.heap[ab]? = some (.cells #[v0, v1, v2, v3] 28)
  p : w.ownsRow lo 3 1 v0 P.length (ints P)
  b : w.ownsRow lo 3 1 v1 B.length (ints B)
  f_ : w.ownsRow lo 3 1 v2 F.length (ints F)
  r : w.ownsRow lo 26 1 v3 Q.length Q
  rows : ∀ j, j < Q.length → w.ownsRow base 3 1 (vd Q j) (f j).length (ints (f j))
  rr : ∀ i j, i < Q.length → j < Q.length → i ≠ j → aprt (vd Q i) (vd Q j)
  pb : aprt v0 v1
  pf : aprt v0 v2
  bf : aprt v1 v2
  pq : ∀ j, j < Q.length → aprt v0 (vd Q j) ∧ aprt v1 (vd Q j) ∧ aprt v2 (vd Q j)
theorem AhoV.keepB {w w' : World} {base lo ab : Nat} {v0 v1 v2 v3 : Value} {Q : List Value} {P B F : List Int} {f : Nat → List Int} (h : AhoV w base lo ab v0 v1 v2 v3 Q P B F f) (hb : Below w.heap.size w w') : AhoV w' base lo ab v0 v1 v2 v3 Q P B F f :=
  ⟨(hb.block _ (Array.getElem?_eq_some_iff.1 h.blk).1).trans h.blk, World.ownsRow.keepB h.p hb, World.ownsRow.keepB h.b hb, World.ownsRow.keepB h.f_ hb, World.ownsRow.keepB h.r hb, fun j hj => World.ownsRow.keepB (h.rows j hj) hb, h.rr, h.pb, h.pf, h.bf, h.pq⟩
theorem AhoV.own {w : World} {base lo ab : Nat} {v0 v1 v2 v3 : Value} {Q : List Value} {P B F : List Int} {f : Nat → List Int} (h : AhoV w base lo ab v0 v1 v2 v3 Q P B F f) (hb : base ≤ lo) : OwnA w base v0 v1 v2 v3 P B F Q.length f :=
  ⟨⟨own_mono h.p hb, own_mono h.b hb, own_mono h.f_ hb⟩, ⟨h.pb, h.pf, h.bf⟩, Q, rfl, own_mono h.r hb, h.rows, h.rr, h.pq⟩
/-- .. and the row that comes next. -/
structure AhoU (w : World) (base lo ab : Nat) (v0 v1 v2 v3 : Value) (Q : List Value) (P B F : List Int) (f : Nat → List Int) (u : Value) (L : List Int) : Prop where
  v : AhoV w base lo ab v0 v1 v2 v3 Q P B F f
  u_ : w.ownsRow base 3 1 u L.length (ints L)
  pu : aprt v0 u ∧ aprt v1 u ∧ aprt v2 u
  qu : ∀ j, j < Q.length → aprt (vd Q j) u ∧ aprt u (vd Q j)
theorem AhoU.keepB {w w' : World} {base lo ab : Nat} {v0 v1 v2 v3 : Value} {Q : List Value} {P B F : List Int} {f : Nat → List Int} {u : Value} {L : List Int} (h : AhoU w base lo ab v0 v1 v2 v3 Q P B F f u L) (hb : Below w.heap.size w w') : AhoU w' base lo ab v0 v1 v2 v3 Q P B F f u L :=
  ⟨h.v.keepB hb, World.ownsRow.keepB h.u_ hb, h.pu, h.qu⟩
theorem set_keep {w5 : World} {ab o : Nat} {v' : Value} {cs : Array Value} {t : TypeId} (blk5 : w5.heap[ab]? = some (.cells cs t)) {b : Nat} {e : TypeId} {size : Nat} {u : Value} {n : Nat} {xs : List Value} (ne : e ≠ t) (ho : w5.ownsRow b e size u n xs) : (w5.setCell ⟨ab, o, none⟩ v').ownsRow b e size u n xs :=
  World.ownsRow.kept ho (grown_set w5 ab o v') (own_blk_ne blk5 ho ne)
theorem aprt_new {w : World} {v0 v' u : Value} {b n : Nat} {xs : List Value} (hat : v'.ownBlock = v0.ownBlock ∨ v'.ownBlock = some w.heap.size) (ho : w.ownsRow b 3 1 u n xs) (ha : aprt v0 u) : aprt v' u := by
  unfold aprt at *
  rcases hat with h | h
  · rw [h]; exact ha
  · rw [h]
    refine .inr fun e => ?_
    have := (World.ownsRow.lt ho _ e.symm).2
    omega
theorem AhoU.push0 {w w5 : World} {base lo ab : Nat} {v0 v1 v2 v3 v' : Value} {Q : List Value} {P B F : List Int} {f : Nat → List Int} {u : Value} {L : List Int} (h : AhoU w base lo ab v0 v1 v2 v3 Q P B F f u L) (x : Int) (hr : w5.ownsRow lo 3 1 v' (P.length + 1) (ints P ++ ints [x])) (hg : w.grownBy w5 v0.ownBlock) (hat : v'.ownBlock = v0.ownBlock ∨ v'.ownBlock = some w.heap.size) :
    w5.heap[ab]? = some (.cells #[v0, v1, v2, v3] 28) ∧ AhoU (w5.setCell ⟨ab, 0, none⟩ v') base lo ab v' v1 v2 v3 Q (P ++ [x]) B F f u L := by
  have blk5 := grown_blk hg h.v.blk (own_blk_ne h.v.blk h.v.p neA)
  refine ⟨blk5, ⟨⟨by rw [blk_same blk5 0 v']; rfl, ?_, ?_, ?_, ?_, fun j hj => ?_, h.v.rr, ?_, ?_, h.v.bf, fun j hj => ⟨?_, (h.v.pq j hj).2⟩⟩, ?_, ⟨?_, h.pu.2⟩, h.qu⟩⟩
  · refine set_keep blk5 neA ?_
    rw [List.length_append, List.length_singleton]
    simpa [ints] using hr
  · exact set_keep blk5 neA (World.ownsRow.kept h.v.b hg (ne_sym h.v.pb))
  · exact set_keep blk5 neA (World.ownsRow.kept h.v.f_ hg (ne_sym h.v.pf))
  · exact set_keep blk5 neIA (World.ownsRow.kept h.v.r hg (types_apart ne_ints h.v.r h.v.p))
  · exact set_keep blk5 neA (World.ownsRow.kept (h.v.rows j hj) hg (ne_sym (h.v.pq j hj).1))
  · exact aprt_new hat h.v.b h.v.pb
  · exact aprt_new hat h.v.f_ h.v.pf
  · exact aprt_new hat (h.v.rows j hj) (h.v.pq j hj).1
  · exact set_keep blk5 neA (World.ownsRow.kept h.u_ hg (ne_sym h.pu.1))
  · exact aprt_new hat h.u_ h.pu.1
theorem AhoU.push1 {w w5 : World} {base lo ab : Nat} {v0 v1 v2 v3 v' : Value} {Q : List Value} {P B F : List Int} {f : Nat → List Int} {u : Value} {L : List Int} (h : AhoU w base lo ab v0 v1 v2 v3 Q P B F f u L) (x : Int) (hr : w5.ownsRow lo 3 1 v' (B.length + 1) (ints B ++ ints [x])) (hg : w.grownBy w5 v1.ownBlock) (hat : v'.ownBlock = v1.ownBlock ∨ v'.ownBlock = some w.heap.size) :
    w5.heap[ab]? = some (.cells #[v0, v1, v2, v3] 28) ∧ AhoU (w5.setCell ⟨ab, 1, none⟩ v') base lo ab v0 v' v2 v3 Q P (B ++ [x]) F f u L := by
  have blk5 := grown_blk hg h.v.blk (own_blk_ne h.v.blk h.v.b neA)
  refine ⟨blk5, ⟨⟨by rw [blk_same blk5 1 v']; rfl, ?_, ?_, ?_, ?_, fun j hj => ?_, h.v.rr, ?_, h.v.pf, ?_, fun j hj => ⟨(h.v.pq j hj).1, ?_, (h.v.pq j hj).2.2⟩⟩, ?_, ⟨h.pu.1, ?_, h.pu.2.2⟩, h.qu⟩⟩
  · exact set_keep blk5 neA (World.ownsRow.kept h.v.p hg h.v.pb)
  · refine set_keep blk5 neA ?_
    rw [List.length_append, List.length_singleton]
    simpa [ints] using hr
  · exact set_keep blk5 neA (World.ownsRow.kept h.v.f_ hg (ne_sym h.v.bf))
  · exact set_keep blk5 neIA (World.ownsRow.kept h.v.r hg (types_apart ne_ints h.v.r h.v.b))
  · exact set_keep blk5 neA (World.ownsRow.kept (h.v.rows j hj) hg (ne_sym (h.v.pq j hj).2.1))
  · exact ne_sym (aprt_new hat h.v.p (ne_sym h.v.pb))
  · exact aprt_new hat h.v.f_ h.v.bf
  · exact aprt_new hat (h.v.rows j hj) (h.v.pq j hj).2.1
  · exact set_keep blk5 neA (World.ownsRow.kept h.u_ hg (ne_sym h.pu.2.1))
  · exact aprt_new hat h.u_ h.pu.2.1
theorem AhoU.push2 {w w5 : World} {base lo ab : Nat} {v0 v1 v2 v3 v' : Value} {Q : List Value} {P B F : List Int} {f : Nat → List Int} {u : Value} {L : List Int} (h : AhoU w base lo ab v0 v1 v2 v3 Q P B F f u L) (x : Int) (hr : w5.ownsRow lo 3 1 v' (F.length + 1) (ints F ++ ints [x])) (hg : w.grownBy w5 v2.ownBlock) (hat : v'.ownBlock = v2.ownBlock ∨ v'.ownBlock = some w.heap.size) :
    w5.heap[ab]? = some (.cells #[v0, v1, v2, v3] 28) ∧ AhoU (w5.setCell ⟨ab, 2, none⟩ v') base lo ab v0 v1 v' v3 Q P B (F ++ [x]) f u L := by
  have blk5 := grown_blk hg h.v.blk (own_blk_ne h.v.blk h.v.f_ neA)
  refine ⟨blk5, ⟨⟨by rw [blk_same blk5 2 v']; rfl, ?_, ?_, ?_, ?_, fun j hj => ?_, h.v.rr, h.v.pb, ?_, ?_, fun j hj => ⟨(h.v.pq j hj).1, (h.v.pq j hj).2.1, ?_⟩⟩, ?_, ⟨h.pu.1, h.pu.2.1, ?_⟩, h.qu⟩⟩
  · exact set_keep blk5 neA (World.ownsRow.kept h.v.p hg h.v.pf)
  · exact set_keep blk5 neA (World.ownsRow.kept h.v.b hg h.v.bf)
  · refine set_keep blk5 neA ?_
    rw [List.length_append, List.length_singleton]
    simpa [ints] using hr
  · exact set_keep blk5 neIA (World.ownsRow.kept h.v.r hg (types_apart ne_ints h.v.r h.v.f_))
  · exact set_keep blk5 neA (World.ownsRow.kept (h.v.rows j hj) hg (ne_sym (h.v.pq j hj).2.2))
  · exact ne_sym (aprt_new hat h.v.p (ne_sym h.v.pf))
  · exact ne_sym (aprt_new hat h.v.b (ne_sym h.v.bf))
  · exact aprt_new hat (h.v.rows j hj) (h.v.pq j hj).2.2
  · exact set_keep blk5 neA (World.ownsRow.kept h.u_ hg (ne_sym h.pu.2.2))
  · exact aprt_new hat h.u_ h.pu.2.2
theorem vd_old (Q : List Value) (u : Value) {j : Nat} (h : j < Q.length) : vd (Q ++ [u]) j = vd Q j := by simp [vd, List.getD, List.getElem?_append_left h]
theorem vd_new (Q : List Value) (u : Value) : vd (Q ++ [u]) Q.length = u := by simp [vd, List.getD]
theorem AhoU.push3 {w w5 : World} {base lo ab : Nat} {v0 v1 v2 v3 v' : Value} {Q : List Value} {P B F : List Int} {f : Nat → List Int} {u : Value} {L : List Int} (h : AhoU w base lo ab v0 v1 v2 v3 Q P B F f u L) (hr : w5.ownsRow lo 26 1 v' (Q.length + 1) (Q ++ [u])) (hg : w.grownBy w5 v3.ownBlock) :
    w5.heap[ab]? = some (.cells #[v0, v1, v2, v3] 28) ∧ AhoV (w5.setCell ⟨ab, 3, none⟩ v') base lo ab v0 v1 v2 v' (Q ++ [u]) P B F (fun j => if j = Q.length then L else f j) := by
  have blk5 := grown_blk hg h.v.blk (own_blk_ne h.v.blk h.v.r neIA)
  have eL : (Q ++ [u]).length = Q.length + 1 := by simp
  have hq : ∀ j, j < (Q ++ [u]).length → (j < Q.length ∧ vd (Q ++ [u]) j = vd Q j) ∨ (j = Q.length ∧ vd (Q ++ [u]) j = u) := fun j hj => by
    by_cases e : j < Q.length
    · exact .inl ⟨e, vd_old Q u e⟩
    · obtain rfl : j = Q.length := by omega
      exact .inr ⟨rfl, vd_new Q u⟩
  refine ⟨blk5, ⟨by rw [blk_same blk5 3 v']; rfl, ?_, ?_, ?_, ?_, fun j hj => ?_, fun i j hi hj ne => ?_, h.v.pb, h.v.pf, h.v.bf, fun j hj => ?_⟩⟩
  · exact set_keep blk5 neA (World.ownsRow.kept h.v.p hg (types_apart ne_ints' h.v.p h.v.r))
  · exact set_keep blk5 neA (World.ownsRow.kept h.v.b hg (types_apart ne_ints' h.v.b h.v.r))
  · exact set_keep blk5 neA (World.ownsRow.kept h.v.f_ hg (types_apart ne_ints' h.v.f_ h.v.r))
  · rw [eL]
    exact set_keep blk5 neIA hr
  · rcases hq j hj with ⟨h1, h2⟩ | ⟨h1, h2⟩
    · rw [h2, if_neg (by omega)]
      exact set_keep blk5 neA (World.ownsRow.kept (h.v.rows j h1) hg (types_apart ne_ints' (h.v.rows j h1) h.v.r))
    · rw [h2, if_pos h1]
      exact set_keep blk5 neA (World.ownsRow.kept h.u_ hg (types_apart ne_ints' h.u_ h.v.r))
  · rcases hq i hi with ⟨i1, i2⟩ | ⟨i1, i2⟩ <;> rcases hq j hj with ⟨j1, j2⟩ | ⟨j1, j2⟩
    · rw [i2, j2]; exact h.v.rr i j i1 j1 ne
    · rw [i2, j2]; exact (h.qu i i1).1
    · rw [i2, j2]; exact (h.qu j j1).2
    · omega
  · rcases hq j hj with ⟨h1, h2⟩ | ⟨h1, h2⟩
    · rw [h2]; exact h.v.pq j h1
    · rw [h2]; exact h.pu
theorem grown_lo {w0 w w5 : World} {o : Obj} {lo n : Nat} {e : TypeId} {v : Value} {xs : List Value} (hO : w.ownsRow lo e 1 v n xs) (hB : Below lo w0 w) (hz : lo ≤ w.heap.size) (hg : (w.alloc o).grownBy w5 v.ownBlock) : Below lo w0 w5 ∧ lo ≤ w5.heap.size := by
  have h1 : lo ≤ (w.alloc o).heap.size := Nat.le_trans hz (al_W w o).size
  exact ⟨Below.grown (hB.trans ((al_W w o).mono hz)) hg h1 (fun g e => (World.ownsRow.lt hO g e).1), Nat.le_trans h1 hg.size⟩
theorem set_lo {w0 w5 : World} {lo ab i : Nat} (h : Below lo w0 w5 ∧ lo ≤ w5.heap.size) (hab : lo ≤ ab) (v : Value) : Below lo w0 (w5.setCell ⟨ab, i, none⟩ v) ∧ lo ≤ (w5.setCell ⟨ab, i, none⟩ v).heap.size :=
  ⟨Below.grown h.1 (grown_set w5 ab i v) h.2 (fun g e => by have := Option.some.inj e; omega), Nat.le_trans h.2 (grown_set w5 ab i v).size⟩
/-- The struct's own loads and stores. -/
theorem infoAho4 : (Try.prog.info? 28).map (·.size) = some 4 := by kernel_rfl
theorem box_ra {w : World} {b : Nat} {v0 v1 v2 v3 : Value} (h : w.heap[b]? = some (.cells #[v0, v1, v2, v3] 28)) : w.rangeAt b 0 [v0, v1, v2, v3] := fun j v hv => by
  rw [Nat.zero_add, cell_of h j]
  simpa using hv
theorem box_store {w : World} {b : Nat} {u0 u1 u2 u3 : Value} (h : w.heap[b]? = some (.cells #[u0, u1, u2, u3] 28)) (a0 a1 a2 a3 : Option Addr) (n0 n1 n2 n3 c0 c1 c2 c3 : Nat) :
    ∃ w', (Instr.storeAt 28 (.pointer (some ⟨b, 0, none⟩)) (.agg #[.slice a0 n0 c0, .slice a1 n1 c1, .slice a2 n2 c2, .slice a3 n3 c3])).run Try.prog w = .ok () w' ∧ (loadVar 28 ⟨b, 0, none⟩).run Try.prog w' = .ok (.agg #[.slice a0 n0 c0, .slice a1 n1 c1, .slice a2 n2 c2, .slice a3 n3 c3]) w' ∧ w.grownBy w' (some b) := by
  have hth : w.there b 0 4 := fun j hj => by
    rw [Nat.zero_add]
    refine ⟨?_, frozen_of_row w _ _ _ _ h⟩
    rw [cell_of h j]
    rcases (by omega : j = 0 ∨ j = 1 ∨ j = 2 ∨ j = 3) with rfl | rfl | rfl | rfl <;> rfl
  refine ⟨w.setCells b 0 [.slice a0 n0 c0, .slice a1 n1 c1, .slice a2 n2 c2, .slice a3 n3 c3], ?_, ?_, grown_sets _ _ _ _⟩
  · exact run_storeAt_mid (P := Try.prog) w b 0 28 #[.slice a0 n0 c0, .slice a1 n1 c1, .slice a2 n2 c2, .slice a3 n3 c3] (by simpa using hth) (by rw [infoAho4]; rfl) (by simp [Value.oneCell'])
  · exact run_loadVar_mid _ b 0 28 [.slice a0 n0 c0, .slice a1 n1 c1, .slice a2 n2 c2, .slice a3 n3 c3] _ (World.rangeAt_setCells_same w b 0 _ (by simpa using hth)) Try.underlying28 rfl (by rw [infoAho4]; rfl)
theorem wpList_store_aho {ops : Array Oper} {rest : List Oper} {op : Oper} {a : Act} {w w' : World} {Q : Exit → Act → World → Prop} {v : Value} (hgd : op.guard = none) (x y : Operand) (ho : op.op = .store 28 x y)
    (b : Nat) (hx : a.eval x = .pointer (some ⟨b, 0, none⟩)) (hy : a.eval y = v) (hr : (Instr.storeAt 28 (.pointer (some ⟨b, 0, none⟩)) v).run Try.prog w = .ok () w')
    (h : wpList Try.prog ops Q rest (a.put op.dst undef) w') : wpList Try.prog ops Q (op :: rest) a w :=
  wpList_plain hgd fun _ hK => by
    unfold Oper.wp execOp
    simp only [ho, hx, hy, Sem.run_bind, Sem.run_pure, Result.andThen_ok, hr]
    exact hK _ _ h
theorem wpRow (w : World) {ops : Array Oper} {rest : List Oper} {o : Oper} {a : Act} {Q' : Exit → Act → World → Prop} (hgd : o.guard = none) (s x : Operand)
    (ho : o.op = .call { callee := .builtin .append, args := #[s, x], argTypes := #[24, 24] })
    (base : Nat) (v : Value) (n : Nat) (Q : List Value) (hs : a.eval s = v) (hown : w.ownsRow base 26 1 v n Q) (B cap : Nat) (sa : Option Addr) (sn sc : Nat) (hx : a.eval x = .slice (some ⟨B, 0, none⟩) 1 cap) (hc : w.cell? ⟨B, 0, none⟩ = some (.slice sa sn sc)) (hlen : n ≤ 100000) (hbase : base ≤ w.heap.size)
    (h : ∀ v' w', w'.ownsRow base 26 1 v' (n + 1) (Q ++ [.slice sa sn sc]) → w.grownBy w' v.ownBlock → wpList Try.prog ops Q' rest (a.put o.dst v') w') :
    wpList Try.prog ops Q' (o :: rest) a w := by
  refine wpList_plain hgd fun K hK => ?_
  obtain ⟨i0, hi, hz0, hz1, hz2⟩ := infoInts
  obtain ⟨v', w', h1', h2', h3', -, -⟩ := run_append_own_at (P := Try.prog) w base 24 o.type 26 i0 (.slice none 0 0) 1 24 Try.underlying24 hi hz0 hz1 hz2 rfl (by decide) v n Q hown ⟨B, 0, none⟩ 1 cap [.slice sa sn sc] rfl (fun j u hj => by
    rcases j with _ | j
    · simp at hj; subst hj; simpa [Addr.add] using hc
    · simp at hj) (fun u hu => by simp at hu; subst hu; rfl) (by unfold maxLen; omega) (by omega) hbase
  unfold Oper.wp execOp
  simp only [ho, resolve, invoke, builtin, Sem.run_bind, Sem.run_pure, Result.andThen_ok, List.map_toArray, List.map_cons, List.map_nil, hs, hx, h1']
  exact hK _ _ (h v' w' h2' h3')
end Go.Proofs.Ytdhppigjlldfmaa
namespace Go.Proofs.Ytdhppigjlldfmaa
open Go.ChangeShapes Go.WideShapes Go.ChangeAt Go.WideMaps Go.WideElems Go.RowKit
/-- Words as said, with a hundred states at most. -/
def wordsB (W : Rw) : Bool := decide (W.length ≤ 8) && (W.all wordB && decide ((outL W 40).length ≤ 100))
def mapN (g : Nat → Int) (n : Nat) : List Int := (List.range n).map g
theorem mapN_step (g : Nat → Int) (n : Nat) : mapN g (n + 1) = mapN g n ++ [g n] := by simp [mapN, List.range_succ]
theorem mapN_len (g : Nat → Int) (n : Nat) : (mapN g n).length = n := by simp [mapN]
def mapV (g : Nat → Value) (n : Nat) : List Value := (List.range n).map g
theorem mapV_step (g : Nat → Value) (n : Nat) : mapV g (n + 1) = mapV g n ++ [g n] := by simp [mapV, List.range_succ]
theorem mapV_len (g : Nat → Value) (n : Nat) : (mapV g n).length = n := by simp [mapV]
theorem vd_mapV (g : Nat → Value) {n j : Nat} (h : j < n) : vd (mapV g n) j = g j := by simp [vd, mapV, List.getD, h]
def stQ (W : Rw) : List Sq := (outT W (-1) 120).1
/-- How many states are answered. -/
def gN (W : Rw) : Nat := if wordsB W = true then (stQ W).length else 0
def gP (W : Rw) : List Int := mapN (fun k => (sq (stQ W) k).f) (gN W)
def gBy (W : Rw) : List Int := mapN (fun k => (sq (stQ W) k).b) (gN W)
def gF (W : Rw) : List Int := mapN (fun k => (sq (stQ W) k).q) (gN W)
def gE (W : Rw) : Nat → List Int := endsK W (-1) W.length
theorem gN_no {W : Rw} (h : wordsB W = false) : wordsB W = false ∧ gP W = [] ∧ gBy W = [] ∧ gF W = [] ∧ gN W = 0 := by
  have e : gN W = 0 := by unfold gN; rw [h]; rfl
  exact ⟨h, by unfold gP; rw [e]; rfl, by unfold gBy; rw [e]; rfl, by unfold gF; rw [e]; rfl, e⟩
theorem gN_yes {W : Rw} (h : wordsB W = true) : wordsB W = true ∧ gN W = (stQ W).length := ⟨h, by unfold gN; rw [h]; rfl⟩
theorem rw_nil {W : Rw} {k : Nat} (h : W.length ≤ k) : rw_ W k = [] := by simp [rw_, List.getD, List.getElem?_eq_none h]
theorem words_all {W : Rw} (h : ∀ j, j < W.length → wordB (rw_ W j) = true) : W.all wordB = true := List.all_eq_true.2 fun x hx => by
  obtain ⟨j, hj, rfl⟩ := List.mem_iff_getElem.1 hx
  have := h j hj
  simpa [rw_, List.getD, hj] using this
theorem words_bad {W : Rw} {j : Nat} (hj : j < W.length) (h : wordB (rw_ W j) = false) : wordsB W = false := by
  have : W.all wordB = false := by
    rw [Bool.eq_false_iff]
    intro ha
    have := List.all_eq_true.1 ha (rw_ W j) (rw_mem W j hj)
    rw [h] at this
    cases this
  unfold wordsB
  rw [this]
  simp
theorem words_40 {W : Rw} (h : ∀ j, j < W.length → wordB (rw_ W j) = true) (k : Nat) : (rw_ W k).length ≤ 40 := by
  by_cases e : k < W.length
  · exact (wordB_true (h k e)).2.2
  · rw [rw_nil (by omega)]; exact Nat.zero_le _
theorem words_wf {W : Rw} (h : ∀ j, j < W.length → wordB (rw_ W j) = true) (k j : Nat) : wf64 ((rw_ W k).getD j 0) := by
  have z : wf64 0 := WalkArith.wf_i64 (by omega)
  by_cases e : k < W.length
  · by_cases hj : j < (rw_ W k).length
    · exact goodB_wf (allG_at (wordB_true (h k e)).1 hj)
    · simpa [List.getD, hj] using z
  · rw [rw_nil (by omega)]; exact z
theorem stQ_len {W : Rw} (h : ∀ k, (rw_ W k).length ≤ 40) : (stQ W).length = (outL W 40).length := by
  have hr := (outT_run W (-1) 120).len
  rw [show outL W 120 = outL W 40 from outL_same h 80] at hr
  exact hr.symm
/-- An answer of no states. -/
theorem own_empty (w : World) (base : Nat) (f : Nat → List Int) : OwnA w base (.slice none 0 0) (.slice none 0 0) (.slice none 0 0) (.slice none 0 0) [] [] [] 0 f :=
  ⟨⟨World.ownsRow_nil _ _ _ _, World.ownsRow_nil _ _ _ _, World.ownsRow_nil _ _ _ _⟩, ⟨.inl rfl, .inl rfl, .inl rfl⟩, [], rfl, World.ownsRow_nil _ _ _ _, fun j hj => absurd hj (by omega), fun i j hi => absurd hi (by omega), fun j hj => absurd hj (by omega)⟩
theorem OwnA.boxed {w w' : World} {base rb : Nat} {cs : Array Value} {v0 v1 v2 v3 : Value} {P B F : List Int} {n : Nat} {f : Nat → List Int} (h : OwnA w base v0 v1 v2 v3 P B F n f) (hb : w.heap[rb]? = some (.cells cs 28)) (hg : w.grownBy w' (some rb)) : OwnA w' base v0 v1 v2 v3 P B F n f := by
  obtain ⟨⟨h0, h1, h2⟩, ha, Q, q1, q2, q3, q4⟩ := h
  exact ⟨⟨World.ownsRow.kept h0 hg (own_blk_ne hb h0 neA), World.ownsRow.kept h1 hg (own_blk_ne hb h1 neA), World.ownsRow.kept h2 hg (own_blk_ne hb h2 neA)⟩, ha, Q, q1, World.ownsRow.kept q2 hg (own_blk_ne hb q2 neIA), fun j hj => World.ownsRow.kept (q3 j hj) hg (own_blk_ne hb (q3 j hj) neA), q4⟩
def zbox : Obj := .cells #[.slice none 0 0, .slice none 0 0, .slice none 0 0, .slice none 0 0] 28
end Go.Proofs.Ytdhppigjlldfmaa
namespace Go.Proofs.Ytdhppigjlldfmaa
open Go.ChangeShapes Go.WideShapes Go.ChangeAt Go.WideMaps Go.WideElems Go.RowKit
theorem grow_0 (Q : List Sq) (E : Ed) (f : Nat) (b : Int) (h : 0 < Q.length) : sq (growQ Q E f b) 0 = sq Q 0 := by
  unfold growQ
  cases E f b with
  | some j => rfl
  | none => exact sq_old _ _ _ h
theorem inT_0 {n B : Nat} {s : TS} (W : Rw) (len : Nat) (h : TsOk n B s) : ∀ k, sq (inT W len k s).1 0 = sq s.1 0
  | 0 => rfl
  | k + 1 => by
    have ih := inT_0 W len h k
    rw [inT]
    split
    · dsimp only
      rw [grow_0 _ _ _ _ (inT_ok W len h k).1.1, ih]
    · exact ih
theorem outT_0 (W : Rw) (r : Int) : ∀ len, sq (outT W r len).1 0 = ⟨-1, r, 0, 0, .slice none 0 0⟩
  | 0 => rfl
  | len + 1 => by rw [outT, inT_0 W len (outT_ok W r len) W.length, outT_0 W r len]
/-- The last of the first m lists that ends a list; 0 where none does. -/
def lastS (Ls : List Lst) (l : Lst) : Nat → Nat
  | 0 => 0
  | m + 1 => if lsAt Ls m <:+ l then m else lastS Ls l m
theorem lastS_yes {Ls : List Lst} {l : Lst} {m : Nat} (h : lsAt Ls m <:+ l) : lastS Ls l (m + 1) = m := by rw [lastS, if_pos h]
theorem lastS_no {Ls : List Lst} {l : Lst} {m : Nat} (h : ¬ lsAt Ls m <:+ l) : lastS Ls l (m + 1) = lastS Ls l m := by rw [lastS, if_neg h]
theorem lastS_le (Ls : List Lst) (l : Lst) : ∀ m, lastS Ls l m ≤ m
  | 0 => Nat.le_refl _
  | m + 1 => by
    have := lastS_le Ls l m
    rw [lastS]
    split <;> omega
theorem lastS_is {Ls : List Lst} {l : Lst} {f : Nat} (hs : lsAt Ls f <:+ l) : ∀ k, f < k → (∀ i, f < i → i < k → ¬ lsAt Ls i <:+ l) → lastS Ls l k = f
  | k + 1, hk, hno => by
    by_cases e : f = k
    · subst e; exact lastS_yes hs
    · rw [lastS_no (hno k (by omega) (by omega))]
      exact lastS_is hs k (by omega) fun i h1 h2 => hno i h1 (by omega)
theorem endW_yes {W : Rw} {x : Lst} {k : Nat} (h : rw_ W k <:+ x) : endW W x (k + 1) = endW W x k ++ [(k : Int)] := by rw [endW, if_pos h]
theorem endW_no {W : Rw} {x : Lst} {k : Nat} (h : ¬ rw_ W k <:+ x) : endW W x (k + 1) = endW W x k := by rw [endW, if_neg h]
theorem endW_len (W : Rw) (x : Lst) : ∀ k, (endW W x k).length ≤ k
  | 0 => Nat.le_refl _
  | k + 1 => by
    have := endW_len W x k
    rw [endW]
    split
    · rw [List.length_append, List.length_singleton]; omega
    · omega
theorem addL_len (Ls : List Lst) (x : Lst) : (addL Ls x).length ≤ Ls.length + 1 := by
  unfold addL
  split
  · omega
  · simp
theorem inL_len (W : Rw) (len : Nat) (Ls : List Lst) : ∀ k, (inL W len k Ls).length ≤ Ls.length + k
  | 0 => Nat.le_refl _
  | k + 1 => by
    have := inL_len W len Ls k
    rw [inL]
    split
    · have := addL_len (inL W len k Ls) ((rw_ W k).take (len + 1)); omega
    · omega
theorem outL_len (W : Rw) : ∀ len, (outL W len).length ≤ 1 + len * W.length
  | 0 => by simp [outL]
  | len + 1 => by
    have h1 := outL_len W len
    have h2 := inL_len W len (outL W len) W.length
    rw [outL, Nat.succ_mul]
    omega
/-- All that is told of the state at a place. -/
structure StOk (W : Rw) (k : Nat) : Prop where
  par : 0 < k → ∀ z, FirstAt (outL W 40) ((lsAt (outL W 40) k).take ((lsAt (outL W 40) k).length - 1)) z → z = (sq (stQ W) k).f
  pos : 0 < k → 0 < (lsAt (outL W 40) k).length
  by_ : 0 < k → (lsAt (outL W 40) k).getD ((lsAt (outL W 40) k).length - 1) 0 = (sq (stQ W) k).b
  zero : k = 0 → (sq (stQ W) k).f = -1 ∧ (sq (stQ W) k).b = -1
  fail : ((lastS (outL W 40) (lsAt (outL W 40) k) k : Nat) : Int) = (sq (stQ W) k).q
  ends : endW W (lsAt (outL W 40) k) W.length = gE W k
  len : (lsAt (outL W 40) k).length ≤ 40
theorem st_ok {W : Rw} (h : ∀ j, j < W.length → wordB (rw_ W j) = true) {k : Nat} (hk : k < (stQ W).length) : StOk W k := by
  have h40 := words_40 h
  have hr := outT_run W (-1) 120
  rw [show outL W 120 = outL W 40 from outL_same h40 80] at hr
  have h0 := outT_0 W (-1) 120
  have hro := outT_run W (-1) 40
  have hlen40 : (lsAt (outL W 40) k).length ≤ 40 := hro.bd k (by rw [← hro.len, hr.len]; exact hk)
  have hkL : k < (outL W 40).length := by rw [hr.len]; exact hk
  have hk2 : k < (outT W (-1) 120).1.length := hk
  refine ⟨fun k0 z hz => ?_, fun k0 => ?_, fun k0 => ?_, fun e => ?_, ?_, (endsK_is h40 hk W.length (Nat.le_refl _)).symm, hlen40⟩
  · obtain ⟨p, p1, p2, p3⟩ := hr.par k k0 hk
    have hd : (lsAt (outL W 40) k).take ((lsAt (outL W 40) k).length - 1) = lsAt (outL W 40) p := by rw [p3]; simp
    rw [hd] at hz
    rw [show (sq (stQ W) k).f = p from p1]
    rcases hz with ⟨j, j1, rfl, j3, -⟩ | ⟨-, hno⟩
    · rw [hr.ok.one j p (by rw [← hr.len]; exact j1) (by omega) j3]
    · exact absurd rfl (hno p (by omega))
  · obtain ⟨p, p1, p2, p3⟩ := hr.par k k0 hk
    rw [p3]; simp
  · obtain ⟨p, p1, p2, p3⟩ := hr.par k k0 hk
    show _ = (sq (outT W (-1) 120).1 k).b
    generalize (sq (outT W (-1) 120).1 k).b = b at p3 ⊢
    rw [p3]; simp [List.getD]
  · subst e
    unfold stQ
    rw [h0]
    exact ⟨rfl, rfl⟩
  · rcases Nat.eq_zero_or_pos k with rfl | k0
    · unfold stQ; rw [h0]; rfl
    · obtain ⟨f1, f2, f3⟩ := fail_last hr.ok hr.srt k0 hk
      rw [lastS_is f2 k f1 f3]
      have := (hr.ok.inv.2.1 k k0 hk).1
      show ((failN (outT W (-1) 120).1 k : Nat) : Int) = (sq (outT W (-1) 120).1 k).q
      unfold failN
      omega
end Go.Proofs.Ytdhppigjlldfmaa
namespace Go.Proofs.Ytdhppigjlldfmaa
open Go.ChangeShapes Go.WideShapes Go.ChangeAt Go.WideMaps Go.WideElems Go.RowKit
theorem new_cell8 (w : World) (u : Value) (t : TypeId) (B : Nat) (hB : B = w.heap.size) : (w.alloc (.cells #[u] t)).cell? ⟨B, 0, none⟩ = some u := by
  subst hB
  exact new_cell w u t
theorem neT : (3 : TypeId) ≠ 75 := by decide
theorem blk_push {w w5 : World} {o : Obj} {sb lo n : Nat} {cs : Array Value} {v : Value} {xs : List Value} (hsb : w.heap[sb]? = some (.cells cs 75)) (ho : w.ownsRow lo 3 1 v n xs) (hg : (w.alloc o).grownBy w5 v.ownBlock) : w5.heap[sb]? = some (.cells cs 75) := by
  have h1 := ((al_W w o).block sb (Array.getElem?_eq_some_iff.1 hsb).1).trans hsb
  exact grown_blk hg h1 (own_blk_ne h1 (World.ownsRow.keepB ho (al_W w o)) neT)
set_option maxRecDepth 100000 in
set_option maxHeartbeats 8000000 in
theorem iahoOf_any (W : Rw) (ao : Option Addr) (cap : Nat) (w : World) (hl : szR W ≤ 1048576) (hW : RowsAt w ao W) :
    Calls Try.prog 8 #[.slice ao W.length cap] w fun e w' => ∃ v0 v1 v2 v3, e = .returned (.tuple #[.agg #[v0, v1, v2, v3], .bool (wordsB W)]) ∧ OwnA w' w.heap.size v0 v1 v2 v3 (gP W) (gBy W) (gF W) (gN W) (gE W) ∧ Below w.heap.size w w' := by
  have HLR : Hid (szR W ≤ 1048576) := hl
  have HW : Hid (RowsAt w ao W) := hW
  have hrb0 : (w.alloc (.cells #[.slice none 0 0, .slice none 0 0, .slice none 0 0, .slice none 0 0] 28)).heap[w.heap.size]? = some (.cells #[.slice none 0 0, .slice none 0 0, .slice none 0 0, .slice none 0 0] 28) := heap_last2 _ _ _ rfl
  by_cases h8 : W.length ≤ 8
  case neg =>
    have h8I : (8 : Int) < (W.length : Int) := by omega
    have HK : Hid (wordsB W = false ∧ gP W = [] ∧ gBy W = [] ∧ gF W = [] ∧ gN W = 0) := gN_no (by unfold wordsB; rw [decide_eq_false h8]; rfl)
    clear hW hl
    go_enter Try.func8, Try.ntmps8
    obtain ⟨w8, hst, hlv, hg8⟩ := box_store hrb0 none none none none 0 0 0 0 0 0 0 0
    have HST : Hid _ := hst
    have HRV : Hid _ := hlv
    have HG : Hid _ := hg8
    have BF : Hid (Below w.heap.size w (w.alloc (.cells #[.slice none 0 0, .slice none 0 0, .slice none 0 0, .slice none 0 0] 28))) := al_W w _
    clear hst hlv hg8
    go_wp2_with (refine wpList_store_aho rfl (.tmp 2) (.tmp 13) rfl w.heap.size rfl rfl HST.out ?_)
    exact bodyPost_ret (v := .tuple #[.agg #[.slice none 0 0, .slice none 0 0, .slice none 0 0, .slice none 0 0], .bool false]) (by simp [results, Try.results8, asAddr, HRV.out]) rfl ⟨.slice none 0 0, .slice none 0 0, .slice none 0 0, .slice none 0 0, by rw [HK.out.1], by rw [HK.out.2.1, HK.out.2.2.1, HK.out.2.2.2.1, HK.out.2.2.2.2]; exact own_empty _ _ _, Below.grown BF.out HG.out BF.out.size (fun g e => by have := Option.some.inj e; omega)⟩
  have h8I : ¬ (8 : Int) < (W.length : Int) := by omega
  have HRB : Hid _ := hrb0
  clear hW hl hrb0
  go_enter Try.func8, Try.ntmps8
  go_wp2
  go_loopw [16] (fun i wr => ∃ k : Nat, k ≤ W.length ∧ i = .int .i64 k ∧ (∀ j, j < k → wordB (rw_ W j) = true) ∧ wr = w.alloc (.cells #[.slice none 0 0, .slice none 0 0, .slice none 0 0, .slice none 0 0] 28)) (fun i _ => W.length - (intOf i).toNat)
  case atStart => exact ⟨0, Nat.zero_le _, rfl, fun j hj => absurd hj (by omega), rfl⟩
  case round =>
    obtain ⟨k, hk, rfl, hall, rfl⟩ := hrel
    have HALL : Hid _ := hall
    clear hall
    by_cases hlt : k < W.length
    · have hltI : (k : Int) < (W.length : Int) := by omega
      obtain ⟨b1, o1, sa, sc, rfl, l1, c1, i1⟩ := HW.out k hlt
      have g1 : (w.alloc (.cells #[.slice none 0 0, .slice none 0 0, .slice none 0 0, .slice none 0 0] 28)).cell? ⟨b1, o1 + k, none⟩ = some (.slice sa (rw_ W k).length sc) := ((al_W w _).cell (p := ⟨b1, o1 + k, none⟩) l1).trans c1
      have HWD : Hid (Calls Try.prog 37 #[.slice sa (rw_ W k).length sc] (w.alloc (.cells #[.slice none 0 0, .slice none 0 0, .slice none 0 0, .slice none 0 0] 28)) fun e w' => e = .returned (.bool (wordB (rw_ W k))) ∧ w' = w.alloc (.cells #[.slice none 0 0, .slice none 0 0, .slice none 0 0, .slice none 0 0] 28)) := iword_any (rw_ W k) sa sc _ (Nat.le_trans (rw_len W k hlt) HLR.out) (IntsAt.keepB i1 (al_W w _))
      clear c1 i1
      cases hw : wordB (rw_ W k) with
      | false =>
        rw [hw] at HWD
        have HK : Hid (wordsB W = false ∧ gP W = [] ∧ gBy W = [] ∧ gF W = [] ∧ gN W = 0) := gN_no (words_bad hlt hw)
        clear hw
        go_wp2_with fail
        refine Calls.mono HWD.out ?_
        rintro r w' ⟨rfl, rfl⟩
        obtain ⟨w8, hst, hlv, hg8⟩ := box_store HRB.out none none none none 0 0 0 0 0 0 0 0
        have HST : Hid _ := hst
        have HRV : Hid _ := hlv
        have HG : Hid _ := hg8
        have BF : Hid (Below w.heap.size w (w.alloc (.cells #[.slice none 0 0, .slice none 0 0, .slice none 0 0, .slice none 0 0] 28))) := al_W w _
        clear hst hlv hg8
        go_wp2_with (refine wpList_store_aho rfl (.tmp 2) (.tmp 23) rfl w.heap.size rfl rfl HST.out ?_)
        exact bodyPost_ret (v := .tuple #[.agg #[.slice none 0 0, .slice none 0 0, .slice none 0 0, .slice none 0 0], .bool false]) (by simp [results, Try.results8, asAddr, HRV.out]) rfl ⟨.slice none 0 0, .slice none 0 0, .slice none 0 0, .slice none 0 0, by rw [HK.out.1], by rw [HK.out.2.1, HK.out.2.2.1, HK.out.2.2.2.1, HK.out.2.2.2.2]; exact own_empty _ _ _, Below.grown BF.out HG.out BF.out.size (fun g e => by have := Option.some.inj e; omega)⟩
      | true =>
        rw [hw] at HWD
        have HN : Hid (∀ j, j < k + 1 → wordB (rw_ W j) = true) := fun j hj => by
          by_cases e : j = k
          · exact e ▸ hw
          · exact HALL.out j (by omega)
        clear hw
        go_wp2_with fail
        refine Calls.mono HWD.out ?_
        rintro r w' ⟨rfl, rfl⟩
        go_wp2
        go_roundw
        case rel => exact ⟨k + 1, by omega, by go_num, HN.out, by first | rfl | trivial⟩
        case measure => simp [intOf]; omega
    · obtain rfl : k = W.length := by omega
      have hltI : ¬ (W.length : Int) < (W.length : Int) := by omega
      have h40 := words_40 HALL.out
      have HT2 : Hid (Calls Try.prog 38 #[.int .i64 (-1), .slice ao W.length cap] (w.alloc (.cells #[.slice none 0 0, .slice none 0 0, .slice none 0 0, .slice none 0 0] 28)) fun e w' => ∃ tb Q', e = .returned (.pointer (some ⟨tb, 0, none⟩)) ∧ SameQ (stQ W) Q' ∧ TrieAt w' (w.alloc (.cells #[.slice none 0 0, .slice none 0 0, .slice none 0 0, .slice none 0 0] 28)).heap.size tb Q' (outT W (-1) 120).2.1 ∧ EndsW w' (w.alloc (.cells #[.slice none 0 0, .slice none 0 0, .slice none 0 0, .slice none 0 0] 28)).heap.size Q' (gE W) ∧ Below (w.alloc (.cells #[.slice none 0 0, .slice none 0 0, .slice none 0 0, .slice none 0 0] 28)).heap.size (w.alloc (.cells #[.slice none 0 0, .slice none 0 0, .slice none 0 0, .slice none 0 0] 28)) w') := trieOf_any (-1) W ao cap _ (RowsAt.keepB HW.out (al_W w _)) h8 (words_wf HALL.out) (fun k => Nat.le_trans (h40 k) (by decide))
      have hsl := stQ_len h40
      have hpos : 0 < (stQ W).length := (outT_run W (-1) 120).ok.inv.1
      go_wp2_with fail
      refine Calls.mono HT2.out ?_
      rintro r w2 ⟨tb, Q', rfl, hq, hT, hE, b2⟩
      have SQ : Hid (SameQ (stQ W) Q') := hq
      have TT : Hid (TrieAt w2 (w.alloc (.cells #[.slice none 0 0, .slice none 0 0, .slice none 0 0, .slice none 0 0] 28)).heap.size tb Q' (outT W (-1) 120).2.1) := hT
      have EE : Hid (EndsW w2 w.heap.size Q' (gE W)) := ⟨fun j hj => own_mono (hE.1 j hj) (by simp), hE.2⟩
      have B2 : Hid (Below w.heap.size w w2) := (al_W w _).trans (b2.mono (al_W w _).size)
      have hrb2 : w2.heap[w.heap.size]? = some (.cells #[.slice none 0 0, .slice none 0 0, .slice none 0 0, .slice none 0 0] 28) := (b2.block w.heap.size (by simp)).trans HRB.out
      have HRB2 : Hid _ := hrb2
      have hls2 : w.heap.size < w2.heap.size := (Array.getElem?_eq_some_iff.1 hrb2).1
      have hqn : Q'.length = (stQ W).length := hq.1
      obtain ⟨g, cpq, mb, -, -, hblt, -, hcl⟩ := hT.form (by omega)
      rw [hqn] at hblt hcl
      have HCL : Hid _ := hcl
      have HBT : Hid _ := hblt
      have t0 := cell_of hblt 0
      simp only [List.getElem?_toArray, List.getElem?_cons_zero] at t0
      have hlg : g < w2.heap.size := World.block_lt_of_cell? w2 ⟨g, 0 * 5, none⟩ (hcl 0 hpos).1
      have HQN : Hid _ := hqn
      clear hq hT hE b2 hrb2 hblt hcl hqn h40
      by_cases h100 : (stQ W).length ≤ 100
      case neg =>
        have h100I : (100 : Int) < ((stQ W).length : Int) := by omega
        have HK : Hid (wordsB W = false ∧ gP W = [] ∧ gBy W = [] ∧ gF W = [] ∧ gN W = 0) := gN_no (by unfold wordsB; rw [← hsl, decide_eq_false h100]; simp)
        obtain ⟨w8, hst, hlv, hg8⟩ := box_store HRB2.out none none none none 0 0 0 0 0 0 0 0
        have HST : Hid _ := hst
        have HRV : Hid _ := hlv
        have HG : Hid _ := hg8
        have BF : Hid (Below w.heap.size w w2) := B2.out
        clear hst hlv hg8
        go_wp2_with (refine wpList_store_aho rfl (.tmp 2) (.tmp 33) rfl w.heap.size rfl rfl HST.out ?_)
        exact bodyPost_ret (v := .tuple #[.agg #[.slice none 0 0, .slice none 0 0, .slice none 0 0, .slice none 0 0], .bool false]) (by simp [results, Try.results8, asAddr, HRV.out]) rfl ⟨.slice none 0 0, .slice none 0 0, .slice none 0 0, .slice none 0 0, by rw [HK.out.1], by rw [HK.out.2.1, HK.out.2.2.1, HK.out.2.2.2.1, HK.out.2.2.2.2]; exact own_empty _ _ _, Below.grown BF.out HG.out BF.out.size (fun g e => by have := Option.some.inj e; omega)⟩
      have h100I : ¬ (100 : Int) < ((stQ W).length : Int) := by omega
      have HK : Hid (wordsB W = true ∧ gN W = (stQ W).length) := gN_yes (by unfold wordsB; rw [decide_eq_true h8, words_all HALL.out, ← hsl, decide_eq_true h100]; rfl)
      have hinv := (outT_run W (-1) 120)
      clear hsl
      have AL2 : Hid (∀ o, Below w2.heap.size w2 (w2.alloc o)) := al_W w2
      have V0 : Hid (AhoV (w2.alloc (.cells #[.slice none 0 0, .slice none 0 0, .slice none 0 0, .slice none 0 0] 28)) w.heap.size w2.heap.size w2.heap.size (.slice none 0 0) (.slice none 0 0) (.slice none 0 0) (.slice none 0 0) (mapV (fun j => (sq Q' j).e) 0) (mapN (fun j => (sq (stQ W) j).f) 0) (mapN (fun j => (sq (stQ W) j).b) 0) (mapN (fun j => (sq (stQ W) j).q) 0) (gE W)) := ⟨heap_last2 _ _ _ rfl, World.ownsRow_nil _ _ _ _, World.ownsRow_nil _ _ _ _, World.ownsRow_nil _ _ _ _, World.ownsRow_nil _ _ _ _, fun j hj => absurd hj (by simp [mapV]), fun i j hi => absurd hi (by simp [mapV]), .inl rfl, .inl rfl, .inl rfl, fun j hj => absurd hj (by simp [mapV])⟩
      have t0a : ∀ o, (w2.alloc o).cell? ⟨tb, 0, none⟩ = some (.slice (some ⟨g, 0, none⟩) (stQ W).length cpq) := fun o => by
        have h := cell_of (((AL2.out o).block tb (Array.getElem?_eq_some_iff.1 HBT.out).1).trans HBT.out) 0
        simpa using h
      clear hinv
      go_wp2
      go_loopw [39] (fun i wr => ∃ (k : Nat) (v0 v1 v2 v3 : Value), k ≤ (stQ W).length ∧ i = .int .i64 k ∧ AhoV wr w.heap.size w2.heap.size w2.heap.size v0 v1 v2 v3 (mapV (fun j => (sq Q' j).e) k) (mapN (fun j => (sq (stQ W) j).f) k) (mapN (fun j => (sq (stQ W) j).b) k) (mapN (fun j => (sq (stQ W) j).q) k) (gE W) ∧ Below w2.heap.size w2 wr ∧ w2.heap.size ≤ wr.heap.size) (fun i _ => (stQ W).length - (intOf i).toNat)
      case atStart => exact ⟨0, _, _, _, _, Nat.zero_le _, rfl, V0.out, AL2.out _, (AL2.out _).size⟩
      case round =>
        obtain ⟨k, v0, v1, v2, v3, hk, rfl, hV, hbw, hzz⟩ := hrel
        obtain ⟨w3, hw3⟩ : ∃ w3, w3 = wr := ⟨_, rfl⟩
        subst hw3
        have VV : Hid (AhoV w3 w.heap.size w2.heap.size w2.heap.size v0 v1 v2 v3 (mapV (fun j => (sq Q' j).e) k) (mapN (fun j => (sq (stQ W) j).f) k) (mapN (fun j => (sq (stQ W) j).b) k) (mapN (fun j => (sq (stQ W) j).q) k) (gE W)) := hV
        have BW : Hid (Below w2.heap.size w2 w3 ∧ w2.heap.size ≤ w3.heap.size) := ⟨hbw, hzz⟩
        have bb := hV.blk
        have d70 := cell_of bb 0
        have d71 := cell_of bb 1
        have d72 := cell_of bb 2
        have d73 := cell_of bb 3
        simp only [List.getElem?_toArray, List.getElem?_cons_zero, List.getElem?_cons_succ] at d70 d71 d72 d73
        clear hV hbw hzz bb V0
        by_cases hlt : k < (stQ W).length
        · have hltI : (k : Int) < ((stQ W).length : Int) := by omega
          obtain ⟨s0, s1, s2, s3, s4⟩ := HCL.out k hlt
          obtain ⟨ea, ec, hea⟩ : ∃ ea ec, (sq Q' k).e = .slice ea (gE W k).length ec := by
            have ho := EE.out.1 k (by rw [HQN.out]; exact hlt)
            obtain ⟨-, x, c, e, -⟩ := ints_of_own ho
            exact ⟨x, c, e⟩
          obtain ⟨en, hen⟩ : ∃ en, en = (gE W k).length := ⟨_, rfl⟩
          rw [← hen] at hea
          rw [hea] at s4
          have q0 := (SQ.out.2 k).1
          have q1 := (SQ.out.2 k).2.1
          have q2 := (SQ.out.2 k).2.2.2
          rw [q0] at s0
          rw [q1] at s1
          rw [q2] at s3
          have e0 := (BW.out.1.cell (p := ⟨g, k * 5, none⟩) hlg).trans s0
          have e1 := (BW.out.1.cell (p := ⟨g, k * 5 + 1, none⟩) hlg).trans s1
          have e2 := (BW.out.1.cell (p := ⟨g, k * 5 + 2, none⟩) hlg).trans s2
          have e3 := (BW.out.1.cell (p := ⟨g, k * 5 + 3, none⟩) hlg).trans s3
          have e4 := (BW.out.1.cell (p := ⟨g, k * 5 + 4, none⟩) hlg).trans s4
          have UU : Hid (AhoU w3 w.heap.size w2.heap.size w2.heap.size v0 v1 v2 v3 (mapV (fun j => (sq Q' j).e) k) (mapN (fun j => (sq (stQ W) j).f) k) (mapN (fun j => (sq (stQ W) j).b) k) (mapN (fun j => (sq (stQ W) j).q) k) (gE W) (.slice ea en ec) (gE W k)) := by
            have hkQ : k < Q'.length := by rw [HQN.out]; exact hlt
            have hu := EE.out.1 k hkQ
            have hul : ∀ g, (sq Q' k).e.ownBlock = some g → g < w2.heap.size := fun g e => (World.ownsRow.lt hu g e).2
            rw [hea] at hu hul
            refine ⟨VV.out, World.ownsRow.keepB hu BW.out.1, ⟨?_, ?_, ?_⟩, fun j hj => ?_⟩
            · exact ne_sym (aprt_lt hul (fun g e => (World.ownsRow.lt VV.out.p g e).1))
            · exact ne_sym (aprt_lt hul (fun g e => (World.ownsRow.lt VV.out.b g e).1))
            · exact ne_sym (aprt_lt hul (fun g e => (World.ownsRow.lt VV.out.f_ g e).1))
            · rw [mapV_len] at hj
              rw [vd_mapV _ hj, ← hea]
              exact ⟨EE.out.2 j k (by rw [HQN.out]; omega) hkQ (by omega), EE.out.2 k j hkQ (by rw [HQN.out]; omega) (by omega)⟩
          have HX : Hid (∀ (w' : World) (u0 u1 u2 u3 : Value), AhoV w' w.heap.size w2.heap.size w2.heap.size u0 u1 u2 u3 (mapV (fun j => (sq Q' j).e) k ++ [.slice ea en ec]) (mapN (fun j => (sq (stQ W) j).f) k ++ [(sq (stQ W) k).f]) (mapN (fun j => (sq (stQ W) j).b) k ++ [(sq (stQ W) k).b]) (mapN (fun j => (sq (stQ W) j).q) k ++ [(sq (stQ W) k).q]) (fun j => if j = (mapV (fun j => (sq Q' j).e) k).length then gE W k else gE W j) → AhoV w' w.heap.size w2.heap.size w2.heap.size u0 u1 u2 u3 (mapV (fun j => (sq Q' j).e) (k + 1)) (mapN (fun j => (sq (stQ W) j).f) (k + 1)) (mapN (fun j => (sq (stQ W) j).b) (k + 1)) (mapN (fun j => (sq (stQ W) j).q) (k + 1)) (gE W)) := fun w' u0 u1 u2 u3 h => by
            rw [mapV_step, mapN_step, mapN_step, mapN_step, hea]
            have hf : (fun j => if j = (mapV (fun j => (sq Q' j).e) k).length then gE W k else gE W j) = gE W := by
              funext j
              rw [mapV_len]
              by_cases e : j = k
              · subst e; rw [if_pos rfl]
              · rw [if_neg e]
            rw [hf] at h
            exact h
          have hk100 : k ≤ 100 := by omega
          generalize (sq (stQ W) k).f = x0 at e0 HX
          generalize (sq (stQ W) k).b = x1 at e1 HX
          generalize (sq Q' k).l = x2 at e2
          generalize (sq (stQ W) k).q = x3 at e3 HX
          clear s0 s1 s2 s3 s4 q0 q1 q2 hen hea
          have hsz3 : w2.heap.size < w3.heap.size := (Array.getElem?_eq_some_iff.1 VV.out.blk).1
          obtain ⟨sb, hsb⟩ : ∃ sb, sb = w3.heap.size := ⟨_, rfl⟩
          have KX : Hid (AhoU (w3.alloc (.cells #[.int .i64 x0, .int .i64 x1, .int .i64 x2, .int .i64 x3, .slice ea en ec] 75)) w.heap.size w2.heap.size w2.heap.size v0 v1 v2 v3 (mapV (fun j => (sq Q' j).e) k) (mapN (fun j => (sq (stQ W) j).f) k) (mapN (fun j => (sq (stQ W) j).b) k) (mapN (fun j => (sq (stQ W) j).q) k) (gE W) (.slice ea en ec) (gE W k)) := UU.out.keepB (al_W w3 _)
          have HSX : Hid ((w3.alloc (.cells #[.int .i64 x0, .int .i64 x1, .int .i64 x2, .int .i64 x3, .slice ea en ec] 75)).heap[sb]? = some (.cells #[.int .i64 x0, .int .i64 x1, .int .i64 x2, .int .i64 x3, .slice ea en ec] 75)) := heap_last2 _ _ _ (by rw [hsb])
          have BLX : Hid (Below w2.heap.size w2 (w3.alloc (.cells #[.int .i64 x0, .int .i64 x1, .int .i64 x2, .int .i64 x3, .slice ea en ec] 75)) ∧ w2.heap.size ≤ (w3.alloc (.cells #[.int .i64 x0, .int .i64 x1, .int .i64 x2, .int .i64 x3, .slice ea en ec] 75)).heap.size) := ⟨BW.out.1.trans ((al_W w3 _).mono BW.out.2), Nat.le_trans BW.out.2 (al_W w3 _).size⟩
          have hsbne : w2.heap.size ≠ sb := by omega
          have cx0 := cell_of KX.out.v.blk 0
          simp only [List.getElem?_toArray, List.getElem?_cons_zero] at cx0
          subst hsb
          clear UU
          have EO0 : Hid (∀ o, ((w3.alloc (.cells #[.int .i64 x0, .int .i64 x1, .int .i64 x2, .int .i64 x3, .slice ea en ec] 75)).alloc o).ownsRow w2.heap.size 3 1 v0 k (ints (mapN (fun j => (sq (stQ W) j).f) k))) := fun o => by
            have := World.ownsRow.keepB KX.out.v.p (al_W (w3.alloc (.cells #[.int .i64 x0, .int .i64 x1, .int .i64 x2, .int .i64 x3, .slice ea en ec] 75)) o)
            rwa [mapN_len] at this
          have HZ0 : Hid (∀ o, w2.heap.size ≤ ((w3.alloc (.cells #[.int .i64 x0, .int .i64 x1, .int .i64 x2, .int .i64 x3, .slice ea en ec] 75)).alloc o).heap.size) := fun o => Nat.le_trans BLX.out.2 (al_W _ o).size
          go_wp2_with (at_builtin; (refine wpA _ rfl (.tmp 44) (.tmp 48) rfl w2.heap.size v0 k (ints (mapN (fun j => (sq (stQ W) j).f) k)) rfl (EO0.out _) (some ⟨(w3.heap.size + 1), 0, none⟩) [x0] 1 1 rfl rfl (ints_new _ _ 3 _ (by simp)) (by omega) (HZ0.out _) ?_))
          intro nv y0 hr hg hat
          obtain ⟨b0, m0, rfl⟩ := own_form' hr
          have hK := AhoU.push0 (KX.out.keepB (al_W _ _)) x0 (by rw [mapN_len]; exact hr) hg (hat.imp id fun h => h.trans (by simp))
          have blk0 := hK.1
          have BL0 : Hid _ := set_lo (i := 0) (grown_lo KX.out.v.p BLX.out.1 BLX.out.2 hg) (Nat.le_refl _) (.slice b0 (k + 1) m0)
          have hs0 := blk_push HSX.out KX.out.v.p hg
          have HS0 : Hid ((y0.setCell ⟨w2.heap.size, 0, none⟩ (.slice b0 (k + 1) m0)).heap[w3.heap.size]? = some (.cells #[.int .i64 x0, .int .i64 x1, .int .i64 x2, .int .i64 x3, .slice ea en ec] 75)) := (blk_oth y0 w2.heap.size 0 w3.heap.size (.slice b0 (k + 1) m0) (by omega)).trans hs0
          have K0 : Hid _ := hK.2
          have c0a := cell_of blk0 0
          have f0a := frozen_of_row y0 w2.heap.size 0 _ _ blk0
          simp only [List.getElem?_toArray, List.getElem?_cons_zero] at c0a
          have c0b := cell_of K0.out.v.blk 1
          have c0s := cell_of HS0.out 1
          simp only [List.getElem?_toArray, List.getElem?_cons_zero, List.getElem?_cons_succ] at c0b c0s
          clear hr hg hat hK blk0 hs0 EO0 HZ0
          have EO1 : Hid (∀ o, ((y0.setCell ⟨w2.heap.size, 0, none⟩ (.slice b0 (k + 1) m0)).alloc o).ownsRow w2.heap.size 3 1 v1 k (ints (mapN (fun j => (sq (stQ W) j).b) k))) := fun o => by
            have := World.ownsRow.keepB K0.out.v.b (al_W (y0.setCell ⟨w2.heap.size, 0, none⟩ (.slice b0 (k + 1) m0)) o)
            rwa [mapN_len] at this
          have HZ1 : Hid (∀ o, w2.heap.size ≤ ((y0.setCell ⟨w2.heap.size, 0, none⟩ (.slice b0 (k + 1) m0)).alloc o).heap.size) := fun o => Nat.le_trans BL0.out.2 (al_W _ o).size
          go_wp2_with (at_builtin; (refine wpA _ rfl (.tmp 52) (.tmp 56) rfl w2.heap.size v1 k (ints (mapN (fun j => (sq (stQ W) j).b) k)) rfl (EO1.out _) (some ⟨y0.heap.size, 0, none⟩) [x1] 1 1 rfl rfl (ints_new _ _ 3 _ (by simp [World.setCell])) (by omega) (HZ1.out _) ?_))
          intro nv y1 hr hg hat
          obtain ⟨b1, m1, rfl⟩ := own_form' hr
          have hK := AhoU.push1 (K0.out.keepB (al_W _ _)) x1 (by rw [mapN_len]; exact hr) hg (hat.imp id fun h => h.trans (by simp [World.setCell]))
          have blk1 := hK.1
          have BL1 : Hid _ := set_lo (i := 1) (grown_lo K0.out.v.b BL0.out.1 BL0.out.2 hg) (Nat.le_refl _) (.slice b1 (k + 1) m1)
          have hs1 := blk_push HS0.out K0.out.v.b hg
          have HS1 : Hid ((y1.setCell ⟨w2.heap.size, 1, none⟩ (.slice b1 (k + 1) m1)).heap[w3.heap.size]? = some (.cells #[.int .i64 x0, .int .i64 x1, .int .i64 x2, .int .i64 x3, .slice ea en ec] 75)) := (blk_oth y1 w2.heap.size 1 w3.heap.size (.slice b1 (k + 1) m1) (by omega)).trans hs1
          have K1 : Hid _ := hK.2
          have c1a := cell_of blk1 1
          have f1a := frozen_of_row y1 w2.heap.size 1 _ _ blk1
          simp only [List.getElem?_toArray, List.getElem?_cons_zero, List.getElem?_cons_succ] at c1a
          have c1b := cell_of K1.out.v.blk 2
          have c1s := cell_of HS1.out 3
          simp only [List.getElem?_toArray, List.getElem?_cons_zero, List.getElem?_cons_succ] at c1b c1s
          clear hr hg hat hK blk1 hs1 EO1 HZ1
          have EO2 : Hid (∀ o, ((y1.setCell ⟨w2.heap.size, 1, none⟩ (.slice b1 (k + 1) m1)).alloc o).ownsRow w2.heap.size 3 1 v2 k (ints (mapN (fun j => (sq (stQ W) j).q) k))) := fun o => by
            have := World.ownsRow.keepB K1.out.v.f_ (al_W (y1.setCell ⟨w2.heap.size, 1, none⟩ (.slice b1 (k + 1) m1)) o)
            rwa [mapN_len] at this
          have HZ2 : Hid (∀ o, w2.heap.size ≤ ((y1.setCell ⟨w2.heap.size, 1, none⟩ (.slice b1 (k + 1) m1)).alloc o).heap.size) := fun o => Nat.le_trans BL1.out.2 (al_W _ o).size
          go_wp2_with (at_builtin; (refine wpA _ rfl (.tmp 60) (.tmp 63) rfl w2.heap.size v2 k (ints (mapN (fun j => (sq (stQ W) j).q) k)) rfl (EO2.out _) (some ⟨y1.heap.size, 0, none⟩) [x3] 1 1 rfl rfl (ints_new _ _ 3 _ (by simp [World.setCell])) (by omega) (HZ2.out _) ?_))
          intro nv y2 hr hg hat
          obtain ⟨b2, m2, rfl⟩ := own_form' hr
          have hK := AhoU.push2 (K1.out.keepB (al_W _ _)) x3 (by rw [mapN_len]; exact hr) hg (hat.imp id fun h => h.trans (by simp [World.setCell]))
          have blk2 := hK.1
          have BL2 : Hid _ := set_lo (i := 2) (grown_lo K1.out.v.f_ BL1.out.1 BL1.out.2 hg) (Nat.le_refl _) (.slice b2 (k + 1) m2)
          have hs2 := blk_push HS1.out K1.out.v.f_ hg
          have HS2 : Hid ((y2.setCell ⟨w2.heap.size, 2, none⟩ (.slice b2 (k + 1) m2)).heap[w3.heap.size]? = some (.cells #[.int .i64 x0, .int .i64 x1, .int .i64 x2, .int .i64 x3, .slice ea en ec] 75)) := (blk_oth y2 w2.heap.size 2 w3.heap.size (.slice b2 (k + 1) m2) (by omega)).trans hs2
          have K2 : Hid _ := hK.2
          have c2a := cell_of blk2 2
          have f2a := frozen_of_row y2 w2.heap.size 2 _ _ blk2
          simp only [List.getElem?_toArray, List.getElem?_cons_zero, List.getElem?_cons_succ] at c2a
          have c2b := cell_of K2.out.v.blk 3
          have c2s := cell_of HS2.out 4
          simp only [List.getElem?_toArray, List.getElem?_cons_zero, List.getElem?_cons_succ] at c2b c2s
          clear hr hg hat hK blk2 hs2 EO2 HZ2
          have EO3 : Hid (∀ o, ((y2.setCell ⟨w2.heap.size, 2, none⟩ (.slice b2 (k + 1) m2)).alloc o).ownsRow w2.heap.size 26 1 v3 k (mapV (fun j => (sq Q' j).e) k)) := fun o => by
            have := World.ownsRow.keepB K2.out.v.r (al_W (y2.setCell ⟨w2.heap.size, 2, none⟩ (.slice b2 (k + 1) m2)) o)
            rwa [mapV_len] at this
          have HZ3 : Hid (∀ o, w2.heap.size ≤ ((y2.setCell ⟨w2.heap.size, 2, none⟩ (.slice b2 (k + 1) m2)).alloc o).heap.size) := fun o => Nat.le_trans BL2.out.2 (al_W _ o).size
          go_wp2_with (at_builtin; refine wpRow _ rfl (.tmp 67) (.tmp 70) rfl w2.heap.size v3 k (mapV (fun j => (sq Q' j).e) k) rfl (EO3.out _) y2.heap.size 1 ea en ec rfl (new_cell8 _ _ _ _ (by simp [World.setCell])) (by omega) (HZ3.out _) ?_)
          intro nv y3 hr hg
          obtain ⟨b3, m3, rfl⟩ := own_form' hr
          have hK := AhoU.push3 (K2.out.keepB (al_W _ _)) (by rw [mapV_len]; exact hr) hg
          have BL3 : Hid _ := set_lo (i := 3) (grown_lo K2.out.v.r BL2.out.1 BL2.out.2 hg) (Nat.le_refl _) (.slice b3 (k + 1) m3)
          have blk3 := hK.1
          have c3a := cell_of blk3 3
          have f3a := frozen_of_row y3 w2.heap.size 3 _ _ blk3
          simp only [List.getElem?_toArray, List.getElem?_cons_zero, List.getElem?_cons_succ] at c3a
          have K3 : Hid _ := hK.2
          clear hr hg hK blk3 EO3 HZ3
          go_wp2
          go_roundw
          case rel => exact ⟨k + 1, _, _, _, _, by omega, by go_num, HX.out _ _ _ _ _ K3.out, BL3.out.1, BL3.out.2⟩
          case measure => simp [intOf]; omega
        · obtain rfl : k = (stQ W).length := by omega
          have hltI : ¬ ((stQ W).length : Int) < ((stQ W).length : Int) := by omega
          obtain ⟨a0, p0, rfl⟩ := own_form' VV.out.p
          obtain ⟨a1, p1, rfl⟩ := own_form' VV.out.b
          obtain ⟨a2, p2, rfl⟩ := own_form' VV.out.f_
          obtain ⟨a3, p3, rfl⟩ := own_form' VV.out.r
          have hrb3 := (BW.out.1.block w.heap.size hls2).trans HRB2.out
          obtain ⟨w8, hst, hlv, hg8⟩ := box_store hrb3 a0 a1 a2 a3 (mapN (fun j => (sq (stQ W) j).f) (stQ W).length).length (mapN (fun j => (sq (stQ W) j).b) (stQ W).length).length (mapN (fun j => (sq (stQ W) j).q) (stQ W).length).length (mapV (fun j => (sq Q' j).e) (stQ W).length).length p0 p1 p2 p3
          have hown := (VV.out.own (Nat.le_of_lt hls2)).boxed hrb3 hg8
          have OW : Hid (OwnA w8 w.heap.size (.slice a0 (mapN (fun j => (sq (stQ W) j).f) (stQ W).length).length p0) (.slice a1 (mapN (fun j => (sq (stQ W) j).b) (stQ W).length).length p1) (.slice a2 (mapN (fun j => (sq (stQ W) j).q) (stQ W).length).length p2) (.slice a3 (mapV (fun j => (sq Q' j).e) (stQ W).length).length p3) (gP W) (gBy W) (gF W) (gN W) (gE W)) := by
            unfold gP gBy gF
            rw [HK.out.2]
            have hc : OwnA w8 w.heap.size (.slice a0 (mapN (fun j => (sq (stQ W) j).f) (stQ W).length).length p0) (.slice a1 (mapN (fun j => (sq (stQ W) j).b) (stQ W).length).length p1) (.slice a2 (mapN (fun j => (sq (stQ W) j).q) (stQ W).length).length p2) (.slice a3 (mapV (fun j => (sq Q' j).e) (stQ W).length).length p3) (mapN (fun j => (sq (stQ W) j).f) (stQ W).length) (mapN (fun j => (sq (stQ W) j).b) (stQ W).length) (mapN (fun j => (sq (stQ W) j).q) (stQ W).length) (mapV (fun j => (sq Q' j).e) (stQ W).length).length (gE W) := hown
            have hn : (mapV (fun j => (sq Q' j).e) (stQ W).length).length = (stQ W).length := mapV_len _ _
            rw [hn] at hc ⊢
            exact hc
          have HST : Hid _ := hst
          have HRV : Hid _ := hlv
          have HG : Hid _ := hg8
          have BF : Hid (Below w.heap.size w w3) := B2.out.trans (BW.out.1.mono B2.out.size)
          clear hst hlv hg8 hrb3 hown
          go_wp2_with (first | (refine wpList_load_mid rfl 28 (.tmp 7) rfl w2.heap.size 0 rfl _ _ (box_ra VV.out.blk) Try.underlying28 rfl (by rw [infoAho4]; rfl) ?_) | (refine wpList_store_aho rfl (.tmp 2) (.tmp 74) rfl w.heap.size rfl rfl HST.out ?_))
          exact bodyPost_ret (v := .tuple #[.agg #[.slice a0 (mapN (fun j => (sq (stQ W) j).f) (stQ W).length).length p0, .slice a1 (mapN (fun j => (sq (stQ W) j).b) (stQ W).length).length p1, .slice a2 (mapN (fun j => (sq (stQ W) j).q) (stQ W).length).length p2, .slice a3 (mapV (fun j => (sq Q' j).e) (stQ W).length).length p3], .bool true]) (by simp [results, Try.results8, asAddr, HRV.out]) rfl ⟨_, _, _, _, by rw [HK.out.1], OW.out, Below.grown BF.out HG.out BF.out.size (fun g e => by have := Option.some.inj e; omega)⟩
end Go.Proofs.Ytdhppigjlldfmaa
namespace Go.Proofs.Ytdhppigjlldfmaa
open Go.ChangeShapes Go.WideShapes Go.ChangeAt Go.WideMaps Go.WideElems Go.RowKit
/-- A machine as it is marked. -/
def MarkedA (w : World) (a b c e : Option Addr) (P B F : List Int) (R : Rw) : Prop := IntsAt w a (mkP P) ∧ IntsAt w b (mkBy P B) ∧ IntsAt w c (mkFl P B F) ∧ RowF w e R.length (mkEn P B F R)
theorem MarkedA.keepB {w w' : World} {a b c e : Option Addr} {P B F : List Int} {R : Rw} (h : MarkedA w a b c e P B F R) (hb : Below w.heap.size w w') : MarkedA w' a b c e P B F R := ⟨h.1.keepB hb, h.2.1.keepB hb, h.2.2.1.keepB hb, h.2.2.2.keepB hb⟩
theorem OwnAQ.marked {w : World} {base top : Nat} {a b c e : Option Addr} {n0 n1 n2 n3 c0 c1 c2 c3 : Nat} {Q : List Value} {P B F : List Int} {R : Rw} (h : OwnAQ w base top (.slice a n0 c0) (.slice b n1 c1) (.slice c n2 c2) (.slice e n3 c3) Q (mkP P) (mkBy P B) (mkFl P B F) R.length (mkEn P B F R)) : MarkedA w a b c e P B F R := by
  refine ⟨?_, ?_, ?_, ?_⟩
  · obtain ⟨-, a', c', e', i⟩ := ints_of_own h.p
    simp only [Value.slice.injEq] at e'
    obtain ⟨rfl, -, -⟩ := e'
    exact i
  · obtain ⟨-, a', c', e', i⟩ := ints_of_own h.b
    simp only [Value.slice.injEq] at e'
    obtain ⟨rfl, -, -⟩ := e'
    exact i
  · obtain ⟨-, a', c', e', i⟩ := ints_of_own h.f_
    simp only [Value.slice.injEq] at e'
    obtain ⟨rfl, -, -⟩ := e'
    exact i
  · obtain ⟨a', c', e', i⟩ := OwnR.form h.a.rows
    simp only [Value.slice.injEq] at e'
    obtain ⟨rfl, -, -⟩ := e'
    exact i
set_option maxRecDepth 100000 in
set_option maxHeartbeats 2000000 in
theorem heldA_any (P B F : List Int) (R : Rw) (a b c e : Option Addr) (ca cb cc ce : Nat) (w : World) (hl : szA P B F R ≤ 1048576) (h : MarkedA w a b c e P B F R) :
    Calls Try.prog 27 #[.agg #[.slice a P.length ca, .slice b B.length cb, .slice c F.length cc, .slice e R.length ce], .int .i64 1] w fun r w' => r = .returned (.int .i64 (1 + cntA P B F R)) ∧ Below w.heap.size w w' := by
  have hlP : P.length ≤ 1048576 := by unfold szA at hl; omega
  have hlB : B.length ≤ 1048576 := by unfold szA at hl; omega
  have hlF : F.length ≤ 1048576 := by unfold szA at hl; omega
  have hlsum : P.length + B.length + F.length ≤ 1048576 := by unfold szA at hl; omega
  have HLR : Hid (szR R ≤ 1048576) := by unfold szA at hl; exact (by omega : szR R ≤ 1048576)
  have hlK : szRK R R.length ≤ 1048576 := Nat.le_trans (szRK_bd R _) HLR.out
  have A1 : ∀ o, Below w.heap.size w (w.alloc o) := fun o => (Below.refl _ _).alloc (Nat.le_refl _) o
  have HM : Hid (∀ o, MarkedA (w.alloc o) a b c e P B F R) := fun o => h.keepB (A1 o)
  have HM0 : Hid (MarkedA w a b c e P B F R) := h
  have HCNT : Hid ((1 : Int) + P.length + B.length + F.length + szRK R R.length = 1 + cntA P B F R) := (by unfold cntA; push_cast; omega : (1 : Int) + P.length + B.length + F.length + szRK R R.length = 1 + cntA P B F R)
  clear h hl
  have hz1 : ¬ ((1 : Int) + P.length) < 0 := by omega
  have hz2 : ¬ ((1 : Int) + P.length + B.length) < 0 := by omega
  have hz3 : ¬ ((1 : Int) + P.length + B.length + F.length) < 0 := by omega
  have hz4 : ¬ ((1 : Int) + P.length + B.length + F.length + szRK R R.length) < 0 := by omega
  go_enter Try.func27, Try.ntmps27
  go_wp2_with fail
  refine (held_c 1 (by omega) (by omega) P a _ ca rfl _ hlP (HM.out _).1).mono ?_
  rintro r w1 ⟨rfl, b1⟩
  have hbl : w1.heap[w.heap.size]? = some (.cells #[.slice a P.length ca, .slice b B.length cb, .slice c F.length cc, .slice e R.length ce] 28) := (b1.block w.heap.size (by simp)).trans (heap_last2 _ _ _ rfl)
  have hs1 : w.heap.size < w1.heap.size := Nat.lt_of_lt_of_le (by simp) b1.size
  have B1 : Hid (Below w.heap.size w w1) := (A1 _).trans (b1.mono (by simp))
  have c1 : w1.cell? ⟨w.heap.size, 1, none⟩ = some (.slice b B.length cb) := cell_of hbl 1
  have HBL : Hid _ := hbl
  clear b1 hbl
  go_wp2_with fail
  refine (held_c (1 + P.length) (by omega) (by omega) B b _ cb rfl _ hlB (IntsAt.keepB HM0.out.2.1 B1.out)).mono ?_
  rintro r w2 ⟨rfl, b2⟩
  have hbl2 := (b2.block w.heap.size hs1).trans HBL.out
  have c2 : w2.cell? ⟨w.heap.size, 2, none⟩ = some (.slice c F.length cc) := cell_of hbl2 2
  have hs2 : w.heap.size < w2.heap.size := Nat.lt_of_lt_of_le hs1 b2.size
  have B2 : Hid (Below w.heap.size w w2) := B1.out.trans (b2.mono B1.out.size)
  have HBL2 : Hid _ := hbl2
  clear b2 c1 hbl2
  go_wp2_with fail
  refine (held_c (1 + P.length + B.length) (by omega) (by omega) F c _ cc rfl _ hlF (IntsAt.keepB HM0.out.2.2.1 B2.out)).mono ?_
  rintro r w3 ⟨rfl, b3⟩
  have c3 : w3.cell? ⟨w.heap.size, 3, none⟩ = some (.slice e R.length ce) := cell_of ((b3.block w.heap.size hs2).trans HBL2.out) 3
  have B3 : Hid (Below w.heap.size w w3) := B2.out.trans (b3.mono B2.out.size)
  clear b3 c2
  go_wp2_with fail
  refine (heldSS_any (1 + P.length + B.length + F.length) (by omega) (by omega) R e ce _ HLR.out (RowF.keepB HM0.out.2.2.2 B3.out)).mono ?_
  rintro r w4 ⟨rfl, b4⟩
  have B4 : Hid (Below w.heap.size w w4) := B3.out.trans (b4.mono B3.out.size)
  clear b4 c3
  go_wp2
  go_ret
  exact ⟨by rw [← HCNT.out]; rfl, B4.out⟩
/-- The answered rows of ends, as a list. -/
def gR (W : Rw) : Rw := (List.range (gN W)).map (gE W)
theorem gR_len (W : Rw) : (gR W).length = gN W := by simp [gR]
theorem gR_at (W : Rw) {j : Nat} (h : j < gN W) : rw_ (gR W) j = gE W j := by simp [gR, rw_, List.getD, h]
theorem OwnA.gR {w : World} {base : Nat} {v0 v1 v2 v3 : Value} {P B F : List Int} {W : Rw} (h : OwnA w base v0 v1 v2 v3 P B F (gN W) (gE W)) : OwnA w base v0 v1 v2 v3 P B F (gR W).length (rw_ (gR W)) := by
  rw [gR_len]
  obtain ⟨h0, h1, Q, q1, q2, q3, q4⟩ := h
  exact ⟨h0, h1, Q, q1, q2, fun j hj => by rw [gR_at W hj]; exact q3 j hj, q4⟩
theorem gN_le (W : Rw) : gN W ≤ 100 := by
  unfold gN
  split
  · rename_i h
    unfold wordsB at h
    simp only [Bool.and_eq_true, decide_eq_true_eq] at h
    obtain ⟨h8, hall, h100⟩ := h
    have h40 : ∀ k, (rw_ W k).length ≤ 40 := words_40 fun j hj => List.all_eq_true.1 hall _ (rw_mem W j hj)
    rw [stQ_len h40]
    exact h100
  · omega
theorem gE_len (W : Rw) (j : Nat) : (gE W j).length ≤ W.length := endsK_len W (-1) W.length j
theorem g_sz {W : Rw} (h : W.length ≤ 1048576) : szA (gP W) (gBy W) (gF W) (gR W) ≤ 1048576 := by
  by_cases hw : wordsB W = true
  · have hn := gN_le W
    have h8 : W.length ≤ 8 := by
      unfold wordsB at hw
      simp only [Bool.and_eq_true, decide_eq_true_eq] at hw
      exact hw.1
    have hs : ∀ m, m ≤ gN W → szRK (gR W) m ≤ 8 * m := by
      intro m
      induction m with
      | zero => intro _; simp [szRK]
      | succ m ih =>
        intro hm
        rw [szRK_step _ _ (by rw [gR_len]; omega), gR_at W (by omega)]
        have := ih (by omega)
        have := gE_len W m
        omega
    have h1 := hs (gN W) (Nat.le_refl _)
    have h2 : szR (gR W) = gN W + szRK (gR W) (gN W) := by
      have := szRK_all (gR W)
      rw [gR_len] at this
      rw [this]
      unfold szR
      rw [gR_len]
    unfold szA
    unfold gP gBy gF
    rw [mapN_len, mapN_len, mapN_len, h2]
    omega
  · have e : wordsB W = false := by simpa using hw
    obtain ⟨-, e1, e2, e3, e4⟩ := gN_no e
    unfold szA gR
    rw [e1, e2, e3, e4]
    simp [szR]
/-- What lies where while the law of AhoOf runs: two boxes, the one answer, the copy, the other answer. -/
structure AoSt (q w : World) (b4 : Nat) (o4 : Obj) (b7 : Nat) (o7 : Obj) (lw : Nat) (a0 a1 a2 a3 : Value) (QA : List Value) (tx : Nat) (x : Value) (QX : List Value) (W : Rw) (g0 g1 g2 g3 : Value) (QG : List Value) (P B F : List Int) (R : Rw) : Prop where
  k4 : q.heap[b4]? = some o4
  k7 : q.heap[b7]? = some o7
  a : OwnAQ q lw b4 a0 a1 a2 a3 QA P B F R.length (rw_ R)
  x_ : OwnQ q (b4 + 1) tx (.slice none 0 0) x (.slice none 0 0) QX [] W.length (rw_ W) []
  g : OwnAQ q tx b7 g0 g1 g2 g3 QG P B F R.length (rw_ R)
  bel : Below w.heap.size w q
theorem AoSt.keepB {q q' w : World} {b4 : Nat} {o4 : Obj} {b7 : Nat} {o7 : Obj} {lw : Nat} {a0 a1 a2 a3 : Value} {QA : List Value} {tx : Nat} {x : Value} {QX : List Value} {W : Rw} {g0 g1 g2 g3 : Value} {QG : List Value} {P B F : List Int} {R : Rw} (h : AoSt q w b4 o4 b7 o7 lw a0 a1 a2 a3 QA tx x QX W g0 g1 g2 g3 QG P B F R) (hb : Below q.heap.size q q') : AoSt q' w b4 o4 b7 o7 lw a0 a1 a2 a3 QA tx x QX W g0 g1 g2 g3 QG P B F R :=
  ⟨(hb.block _ (Array.getElem?_eq_some_iff.1 h.k4).1).trans h.k4, (hb.block _ (Array.getElem?_eq_some_iff.1 h.k7).1).trans h.k7, h.a.keepB hb, h.x_.keepB hb, h.g.keepB hb, h.bel.trans (hb.mono h.bel.size)⟩
structure AoSt2 (q w : World) (b4 : Nat) (o4 : Obj) (b7 : Nat) (o7 : Obj) (lw : Nat) (a0 a1 a2 a3 : Value) (QA : List Value) (tx : Nat) (g0 g1 g2 g3 : Value) (QG : List Value) (P B F : List Int) (R : Rw) : Prop where
  k4 : q.heap[b4]? = some o4
  k7 : q.heap[b7]? = some o7
  a : OwnAQ q lw b4 a0 a1 a2 a3 QA P B F R.length (rw_ R)
  g : OwnAQ q tx b7 g0 g1 g2 g3 QG P B F R.length (rw_ R)
  bel : Below w.heap.size w q
theorem AoSt2.keepB {q q' w : World} {b4 : Nat} {o4 : Obj} {b7 : Nat} {o7 : Obj} {lw : Nat} {a0 a1 a2 a3 : Value} {QA : List Value} {tx : Nat} {g0 g1 g2 g3 : Value} {QG : List Value} {P B F : List Int} {R : Rw} (h : AoSt2 q w b4 o4 b7 o7 lw a0 a1 a2 a3 QA tx g0 g1 g2 g3 QG P B F R) (hb : Below q.heap.size q q') : AoSt2 q' w b4 o4 b7 o7 lw a0 a1 a2 a3 QA tx g0 g1 g2 g3 QG P B F R :=
  ⟨(hb.block _ (Array.getElem?_eq_some_iff.1 h.k4).1).trans h.k4, (hb.block _ (Array.getElem?_eq_some_iff.1 h.k7).1).trans h.k7, h.a.keepB hb, h.g.keepB hb, h.bel.trans (hb.mono h.bel.size)⟩
theorem AoSt.mid {q q' w : World} {b4 : Nat} {o4 : Obj} {b7 : Nat} {o7 : Obj} {lw : Nat} {a0 a1 a2 a3 : Value} {QA : List Value} {tx : Nat} {x : Value} {QX : List Value} {W : Rw} {g0 g1 g2 g3 : Value} {QG : List Value} {P B F : List Int} {R : Rw} (h : AoSt q w b4 o4 b7 o7 lw a0 a1 a2 a3 QA tx x QX W g0 g1 g2 g3 QG P B F R) (hm : Mid (b4 + 1) tx q q') (h7 : tx ≤ b7) (h0 : w.heap.size ≤ b4 + 1) : AoSt2 q' w b4 o4 b7 o7 lw a0 a1 a2 a3 QA tx g0 g1 g2 g3 QG P B F R :=
  ⟨mid_blk hm h.k4 (.inl (Nat.lt_succ_self _)), mid_blk hm h.k7 (.inr h7), h.a.low hm.1 (Nat.le_succ _), h.g.mid hm (Nat.le_refl _), h.bel.trans (hm.1.mono h0)⟩
structure AoSt3 (q w : World) (b4 : Nat) (o4 : Obj) (b7 : Nat) (o7 : Obj) (lw : Nat) (a0 a1 a2 a3 : Value) (QA : List Value) (g0 g1 g2 g3 : Option Addr) (P B F : List Int) (R : Rw) : Prop where
  k4 : q.heap[b4]? = some o4
  k7 : q.heap[b7]? = some o7
  a : OwnAQ q lw b4 a0 a1 a2 a3 QA P B F R.length (rw_ R)
  g : MarkedA q g0 g1 g2 g3 P B F R
  bel : Below w.heap.size w q
theorem AoSt3.keepB {q q' w : World} {b4 : Nat} {o4 : Obj} {b7 : Nat} {o7 : Obj} {lw : Nat} {a0 a1 a2 a3 : Value} {QA : List Value} {g0 g1 g2 g3 : Option Addr} {P B F : List Int} {R : Rw} (h : AoSt3 q w b4 o4 b7 o7 lw a0 a1 a2 a3 QA g0 g1 g2 g3 P B F R) (hb : Below q.heap.size q q') : AoSt3 q' w b4 o4 b7 o7 lw a0 a1 a2 a3 QA g0 g1 g2 g3 P B F R :=
  ⟨(hb.block _ (Array.getElem?_eq_some_iff.1 h.k4).1).trans h.k4, (hb.block _ (Array.getElem?_eq_some_iff.1 h.k7).1).trans h.k7, h.a.keepB hb, h.g.keepB hb, h.bel.trans (hb.mono h.bel.size)⟩
theorem AoSt2.mid {q q' w : World} {b4 : Nat} {o4 : Obj} {b7 : Nat} {o7 : Obj} {lw : Nat} {a0 a1 a2 a3 : Value} {QA : List Value} {tx : Nat} {g0 g1 g2 g3 : Option Addr} {n0 n1 n2 n3 c0 c1 c2 c3 : Nat} {QG : List Value} {P B F : List Int} {R : Rw} (h : AoSt2 q w b4 o4 b7 o7 lw a0 a1 a2 a3 QA tx (.slice g0 n0 c0) (.slice g1 n1 c1) (.slice g2 n2 c2) (.slice g3 n3 c3) QG P B F R) (hm : Mid tx b7 q q') (hg : OwnAQ q' tx b7 (.slice g0 n0 c0) (.slice g1 n1 c1) (.slice g2 n2 c2) (.slice g3 n3 c3) QG (mkP P) (mkBy P B) (mkFl P B F) R.length (mkEn P B F R)) (h4 : b4 < tx) (h0 : w.heap.size ≤ tx) : AoSt3 q' w b4 o4 b7 o7 lw a0 a1 a2 a3 QA g0 g1 g2 g3 P B F R :=
  ⟨mid_blk hm h.k4 (.inl h4), mid_blk hm h.k7 (.inr (Nat.le_refl _)), h.a.low hm.1 (Nat.le_of_lt h4), hg.marked, h.bel.trans (hm.1.mono h0)⟩
theorem OwnR.qq {w : World} {base : Nat} {v : Value} {n : Nat} {f : Nat → List Int} (h : OwnR w base v n n f) : ∃ Q, OwnQ w base w.heap.size (.slice none 0 0) v (.slice none 0 0) Q [] n f [] := by
  obtain ⟨Q, q1, q2, q3, q4⟩ := h
  exact ⟨Q, World.ownsRow_nil _ _ _ _, World.ownsRow_nil _ _ _ _, q1, q2, q3, q4, fun _ _ => .inl rfl, fun _ e => by (cases e), fun _ e => by (cases e), fun j hj g e => (World.ownsRow.lt (q3 j hj) g e).2, fun g e => (World.ownsRow.lt q2 g e).2⟩
theorem OwnQ.rowsC {w : World} {base top : Nat} {x : Option Addr} {c : Nat} {Q : List Value} {W : Rw} (h : OwnQ w base top (.slice none 0 0) (.slice x W.length c) (.slice none 0 0) Q [] W.length (rw_ W) []) : RowsC w x W := by
  obtain ⟨a', c', e', i⟩ := OwnR.rowsC h.d.rows
  simp only [Value.slice.injEq] at e'
  obtain ⟨rfl, -, -⟩ := e'
  exact i
end Go.Proofs.Ytdhppigjlldfmaa
namespace Go.Proofs.Ytdhppigjlldfmaa
open Go.ChangeShapes Go.WideShapes Go.ChangeAt Go.WideMaps Go.WideElems Go.RowKit
theorem ints_take {w : World} {a : Option Addr} {L : List Int} (h : IntsAt w a L) (k : Nat) : IntsAt w a (L.take k) := fun j hj => by
  rw [List.length_take] at hj
  obtain ⟨b, o, e, l, c⟩ := h j (by omega)
  refine ⟨b, o, e, l, ?_⟩
  rw [c]
  congr 2
  simp only [List.getD, List.getElem?_take]
  rw [if_pos (by omega)]
/-- Lists that lie in memory below, their places in a row of one's own. -/
def LstsAt (w wr : World) (base : Nat) (v : Value) (Ls : List Lst) : Prop :=
  ∃ Q : List Value, wr.ownsRow base 26 1 v Ls.length Q ∧ ∀ j, j < Ls.length → ∃ x xc, vd Q j = .slice x (lsAt Ls j).length xc ∧ (lsAt Ls j).length ≤ xc ∧ IntsAt w x (lsAt Ls j)
theorem LstsAt.keepB {w wr wq : World} {base : Nat} {v : Value} {Ls : List Lst} (h : LstsAt w wr base v Ls) (hb : Below wr.heap.size wr wq) : LstsAt w wq base v Ls := by
  obtain ⟨Q, h1, h2⟩ := h
  exact ⟨Q, World.ownsRow.keepB h1 hb, h2⟩
theorem own_capR {w : World} {base : Nat} {ao : Option Addr} {n cap : Nat} {xs : List Value} (h : w.ownsRow base 26 1 (.slice ao n cap) n xs) : n ≤ cap := by
  rcases h.2 with ⟨e, h0⟩ | ⟨g, c, cur, e, -, -, h3, -⟩
  · omega
  · simp only [Value.slice.injEq] at e
    omega
theorem LstsAt.form {w wr : World} {base : Nat} {v : Value} {Ls : List Lst} (h : LstsAt w wr base v Ls) (hb : Below w.heap.size w wr) : ∃ ao cap, v = .slice ao Ls.length cap ∧ Ls.length ≤ cap ∧ RowsC wr ao Ls := by
  obtain ⟨Q, hr, h2⟩ := h
  rcases hr.2 with ⟨rfl, h0⟩ | ⟨g, cap, cur, rfl, k2, k3, -⟩
  · exact ⟨none, 0, by rw [h0], by omega, fun j hj => by omega⟩
  · refine ⟨_, _, rfl, own_capR hr, fun j hj => ?_⟩
    obtain ⟨x, xc, e, hc, hi⟩ := h2 j hj
    refine ⟨g, 0, x, xc, rfl, (Array.getElem?_eq_some_iff.1 k3).1, ?_, hc, IntsAt.keepB hi hb⟩
    have hl : Q.length = Ls.length * 1 := hr.1
    rw [Nat.zero_add, World.ownsRow.cellAt hr j (by omega), vd_at Q j (by omega), e]
    rfl
theorem LstsAt.push {w wq : World} {base : Nat} {v' x : Value} {xa : Option Addr} {xc : Nat} {Ls : List Lst} {l : Lst} {Q : List Value} (h2 : ∀ j, j < Ls.length → ∃ x xc, vd Q j = .slice x (lsAt Ls j).length xc ∧ (lsAt Ls j).length ≤ xc ∧ IntsAt w x (lsAt Ls j)) (hq : Q.length = Ls.length) (hr : wq.ownsRow base 26 1 v' (Ls.length + 1) (Q ++ [x])) (hx : x = .slice xa l.length xc) (hc : l.length ≤ xc) (hi : IntsAt w xa l) : LstsAt w wq base v' (Ls ++ [l]) := by
  refine ⟨Q ++ [x], by rw [List.length_append, List.length_singleton]; exact hr, fun j hj => ?_⟩
  rw [List.length_append, List.length_singleton] at hj
  by_cases e : j < Ls.length
  · rw [lsAt_old _ _ e, vd_old Q x (by omega)]
    exact h2 j e
  · obtain rfl : j = Ls.length := by omega
    rw [lsAt_new, ← hq, vd_new, hx]
    exact ⟨xa, xc, rfl, hc, hi⟩
end Go.Proofs.Ytdhppigjlldfmaa
namespace Go.Proofs.Ytdhppigjlldfmaa
open Go.ChangeShapes Go.WideShapes Go.ChangeAt Go.WideMaps Go.WideElems Go.RowKit
set_option maxRecDepth 100000 in
set_option maxHeartbeats 16000000 in
theorem sahoOf_any (W : Rw) (ao : Option Addr) (cap : Nat) (w : World) (hl : szR W ≤ 1048576) (hW : RowsC w ao W) :
    Calls Try.prog 9 #[.slice ao W.length cap] w fun e w' => ∃ v0 v1 v2 v3, e = .returned (.tuple #[.agg #[v0, v1, v2, v3], .bool (wordsB W)]) ∧ OwnA w' w.heap.size v0 v1 v2 v3 (gP W) (gBy W) (gF W) (gN W) (gE W) ∧ Below w.heap.size w w' := by
  have HLR : Hid (szR W ≤ 1048576) := hl
  have hrb0 : (w.alloc (.cells #[.slice none 0 0, .slice none 0 0, .slice none 0 0, .slice none 0 0] 28)).heap[w.heap.size]? = some (.cells #[.slice none 0 0, .slice none 0 0, .slice none 0 0, .slice none 0 0] 28) := heap_last2 _ _ _ rfl
  by_cases h8 : W.length ≤ 8
  case neg =>
    have h8I : (8 : Int) < (W.length : Int) := by omega
    have HK : Hid (wordsB W = false ∧ gP W = [] ∧ gBy W = [] ∧ gF W = [] ∧ gN W = 0) := gN_no (by unfold wordsB; rw [decide_eq_false h8]; rfl)
    clear hW hl
    go_enter Try.func9, Try.ntmps9
    obtain ⟨w8, hst, hlv, hg8⟩ := box_store hrb0 none none none none 0 0 0 0 0 0 0 0
    have HST : Hid _ := hst
    have HRV : Hid _ := hlv
    have HG : Hid _ := hg8
    have BF : Hid (Below w.heap.size w (w.alloc (.cells #[.slice none 0 0, .slice none 0 0, .slice none 0 0, .slice none 0 0] 28))) := al_W w _
    clear hst hlv hg8
    go_wp2_with (refine wpList_store_aho rfl (.tmp 2) (.tmp 24) rfl w.heap.size rfl rfl HST.out ?_)
    exact bodyPost_ret (v := .tuple #[.agg #[.slice none 0 0, .slice none 0 0, .slice none 0 0, .slice none 0 0], .bool false]) (by simp [results, Try.results9, asAddr, HRV.out]) rfl ⟨.slice none 0 0, .slice none 0 0, .slice none 0 0, .slice none 0 0, by rw [HK.out.1], by rw [HK.out.2.1, HK.out.2.2.1, HK.out.2.2.2.1, HK.out.2.2.2.2]; exact own_empty _ _ _, Below.grown BF.out HG.out BF.out.size (fun g e => by have := Option.some.inj e; omega)⟩
  have h8I : ¬ (8 : Int) < (W.length : Int) := by omega
  obtain ⟨w1, hw1⟩ : ∃ w1, w1 = (((w.alloc (.cells #[.slice none 0 0, .slice none 0 0, .slice none 0 0, .slice none 0 0] 28)).alloc (.cells #[] 3)).alloc (.cells #[.slice (some ⟨w.heap.size + 1, 0, none⟩) 0 0] 26)) := ⟨_, rfl⟩
  have B1 : Hid (Below w.heap.size w w1) := by
    rw [hw1]
    exact ((al_W w _).alloc (al_W w _).size _).alloc ((al_W w _).alloc (al_W w _).size _).size _
  have hrb1 : w1.heap[w.heap.size]? = some (.cells #[.slice none 0 0, .slice none 0 0, .slice none 0 0, .slice none 0 0] 28) := by
    rw [hw1]
    exact (heap_prev _ _ _ (by simp; omega)).trans ((heap_prev _ _ _ (by simp)).trans hrb0)
  have HRB1 : Hid _ := hrb1
  have L1 : Hid (LstsAt w w1 (w.heap.size + 1) (.slice (some ⟨w.heap.size + 1 + 1, 0, none⟩) 1 1) [[]]) := by
    rw [hw1]
    refine ⟨[.slice (some ⟨w.heap.size + 1, 0, none⟩) 0 0], ⟨rfl, .inr ⟨w.heap.size + 1 + 1, 1, _, rfl, Nat.le_succ _, heap_last2 _ _ _ (by simp), Nat.le_refl _, by decide, rfl, rfl⟩⟩, fun j hj => ?_⟩
    obtain rfl : j = 0 := by simp at hj; exact hj
    exact ⟨_, _, rfl, Nat.le_refl _, fun j hj => absurd hj (by simp [lsAt])⟩
  have HW1 : Hid (w1 = (((w.alloc (.cells #[.slice none 0 0, .slice none 0 0, .slice none 0 0, .slice none 0 0] 28)).alloc (.cells #[] 3)).alloc (.cells #[.slice (some ⟨w.heap.size + 1, 0, none⟩) 0 0] 26))) := hw1
  have HWC : Hid (RowsC w ao W) := hW
  clear hw1 hrb1 hrb0 hW hl
  go_enter Try.func9, Try.ntmps9
  go_wp2
  go_loopw [29] (fun i wr => ∃ k : Nat, k ≤ W.length ∧ i = .int .i64 k ∧ (∀ j, j < k → wordB (rw_ W j) = true) ∧ Below w1.heap.size w1 wr) (fun i _ => W.length - (intOf i).toNat)
  case atStart => exact ⟨0, Nat.zero_le _, rfl, fun j hj => absurd hj (by omega), by rw [← HW1.out]; exact Below.refl _ _⟩
  case round =>
    obtain ⟨k, hk, rfl, hall, hbw⟩ := hrel
    obtain ⟨w2, hw2⟩ : ∃ w2, w2 = wr := ⟨_, rfl⟩
    subst hw2
    have HALL : Hid _ := hall
    have BW : Hid (Below w1.heap.size w1 w2) := hbw
    have BW0 : Hid (Below w.heap.size w w2) := B1.out.trans (hbw.mono B1.out.size)
    have hrb2 : w2.heap[w.heap.size]? = some (.cells #[.slice none 0 0, .slice none 0 0, .slice none 0 0, .slice none 0 0] 28) := (hbw.block _ (Array.getElem?_eq_some_iff.1 HRB1.out).1).trans HRB1.out
    have HRB2 : Hid _ := hrb2
    clear hall hbw hrb2
    by_cases hlt : k < W.length
    · have hltI : (k : Int) < (W.length : Int) := by omega
      obtain ⟨b1, o1, sa, sc, rfl, l1, c1, -, i1⟩ := HWC.out k hlt
      have g1 : w2.cell? ⟨b1, o1 + k, none⟩ = some (.slice sa (rw_ W k).length sc) := (BW0.out.cell (p := ⟨b1, o1 + k, none⟩) l1).trans c1
      have HWD : Hid (Calls Try.prog 39 #[.slice sa (rw_ W k).length sc] w2 fun e w' => e = .returned (.bool (wordB (rw_ W k))) ∧ Below w2.heap.size w2 w') := sword_any (rw_ W k) sa sc _ (Nat.le_trans (rw_len W k hlt) HLR.out) (IntsAt.keepB i1 BW0.out)
      clear c1 i1
      cases hw : wordB (rw_ W k) with
      | false =>
        rw [hw] at HWD
        have HK : Hid (wordsB W = false ∧ gP W = [] ∧ gBy W = [] ∧ gF W = [] ∧ gN W = 0) := gN_no (words_bad hlt hw)
        clear hw
        go_wp2_with fail
        refine Calls.mono HWD.out ?_
        rintro r w4 ⟨rfl, b4⟩
        have BF4 : Hid (Below w.heap.size w w4) := BW0.out.trans (b4.mono BW0.out.size)
        have hrb4 := (b4.block _ (Array.getElem?_eq_some_iff.1 HRB2.out).1).trans HRB2.out
        clear b4
        obtain ⟨w8, hst, hlv, hg8⟩ := box_store hrb4 none none none none 0 0 0 0 0 0 0 0
        have HST : Hid _ := hst
        have HRV : Hid _ := hlv
        have HG : Hid _ := hg8
        have BF : Hid (Below w.heap.size w w4) := BF4.out
        clear hst hlv hg8
        go_wp2_with (refine wpList_store_aho rfl (.tmp 2) (.tmp 36) rfl w.heap.size rfl rfl HST.out ?_)
        exact bodyPost_ret (v := .tuple #[.agg #[.slice none 0 0, .slice none 0 0, .slice none 0 0, .slice none 0 0], .bool false]) (by simp [results, Try.results9, asAddr, HRV.out]) rfl ⟨.slice none 0 0, .slice none 0 0, .slice none 0 0, .slice none 0 0, by rw [HK.out.1], by rw [HK.out.2.1, HK.out.2.2.1, HK.out.2.2.2.1, HK.out.2.2.2.2]; exact own_empty _ _ _, Below.grown BF.out HG.out BF.out.size (fun g e => by have := Option.some.inj e; omega)⟩
      | true =>
        rw [hw] at HWD
        have HN : Hid (∀ j, j < k + 1 → wordB (rw_ W j) = true) := fun j hj => by
          by_cases e : j = k
          · exact e ▸ hw
          · exact HALL.out j (by omega)
        clear hw
        go_wp2_with fail
        refine Calls.mono HWD.out ?_
        rintro r w4 ⟨rfl, b4⟩
        have B4 : Hid (Below w1.heap.size w1 w4) := BW.out.trans (b4.mono BW.out.size)
        clear b4
        go_wp2
        go_roundw
        case rel => exact ⟨k + 1, by omega, by go_num, HN.out, B4.out⟩
        case measure => simp [intOf]; omega
    · obtain rfl : k = W.length := by omega
      have hltI : ¬ (W.length : Int) < (W.length : Int) := by omega
      have L2 : Hid (LstsAt w w2 (w.heap.size + 1) (.slice (some ⟨w.heap.size + 1 + 1, 0, none⟩) 1 1) (outL W 0)) := L1.out.keepB BW.out
      clear BW L1 HRB1 HW1
      go_wp2
      go_loopw [7, 4] (fun i v wr => ∃ len : Nat, len ≤ 40 ∧ i = .int .i64 ((len : Int) + 1) ∧ LstsAt w wr (w.heap.size + 1) v (outL W len) ∧ wr.heap[w.heap.size]? = some (.cells #[.slice none 0 0, .slice none 0 0, .slice none 0 0, .slice none 0 0] 28) ∧ Below w.heap.size w wr) (fun i _ _ => 41 - (intOf i).toNat)
      case atStart => exact ⟨0, by omega, rfl, L2.out, HRB2.out, BW0.out⟩
      case round =>
        obtain ⟨len, hlen, rfl, hls, hbx, hbw⟩ := hrel
        by_cases h40 : len < 40
        · have h40I : (len : Int) + 1 ≤ 40 := by omega
          have LS : Hid (LstsAt w wr (w.heap.size + 1) u4 (inL W len 0 (outL W len))) := hls
          have HBX : Hid _ := hbx
          have BWL : Hid (Below w.heap.size w wr) := hbw
          clear hls hbx hbw
          go_wp2
          go_loopw [44, 4] (fun i v wq => ∃ k : Nat, k ≤ W.length ∧ i = .int .i64 k ∧ LstsAt w wq (w.heap.size + 1) v (inL W len k (outL W len)) ∧ wq.heap[w.heap.size]? = some (.cells #[.slice none 0 0, .slice none 0 0, .slice none 0 0, .slice none 0 0] 28) ∧ Below w.heap.size w wq) (fun i _ _ => W.length - (intOf i).toNat)
          case atStart => exact ⟨0, Nat.zero_le _, rfl, LS.out, HBX.out, BWL.out⟩
          case round =>
            obtain ⟨k, hk, rfl, hls, hbx, hbw⟩ := hrel
            obtain ⟨w4, hw4⟩ : ∃ w4, w4 = wr := ⟨_, rfl⟩
            subst hw4
            have HBX4 : Hid (w4.heap[w.heap.size]? = some (.cells #[.slice none 0 0, .slice none 0 0, .slice none 0 0, .slice none 0 0] 28)) := hbx
            have BW4 : Hid (Below w.heap.size w w4) := hbw
            have hnL : (inL W len k (outL W len)).length ≤ 100000 := by
              have h1 := inL_len W len (outL W len) k
              have h2 := outL_len W len
              have h3 : len * W.length ≤ 40 * 8 := Nat.mul_le_mul (by omega) h8
              omega
            have hstep : inL W len (k + 1) (outL W len) = if len < (rw_ W k).length then addL (inL W len k (outL W len)) ((rw_ W k).take (len + 1)) else inL W len k (outL W len) := rfl
            have HSTEP : Hid _ := hstep
            have LS4 : Hid (LstsAt w w4 (w.heap.size + 1) u4 (inL W len k (outL W len))) := hls
            clear hls hbx hbw hstep LS HBX BWL
            by_cases hlt : k < W.length
            · have hltI : (k : Int) < (W.length : Int) := by omega
              obtain ⟨b1, o1, sa, sc, rfl, l1, c1, hsc, i1⟩ := HWC.out k hlt
              have g1 : w4.cell? ⟨b1, o1 + k, none⟩ = some (.slice sa (rw_ W k).length sc) := (BW4.out.cell (p := ⟨b1, o1 + k, none⟩) l1).trans c1
              have I1 : Hid (IntsAt w sa (rw_ W k)) := i1
              clear c1 i1
              by_cases hle : len < (rw_ W k).length
              · have hleI : (len : Int) + 1 ≤ ((rw_ W k).length : Int) := by omega
                have hleB : decide ((len : Int) + 1 ≤ ((rw_ W k).length : Int)) = true := decide_eq_true hleI
                have HST2 : Hid (inL W len (k + 1) (outL W len) = addL (inL W len k (outL W len)) ((rw_ W k).take (len + 1))) := HSTEP.out.trans (if_pos hle)
                obtain ⟨xb, xo, rfl, -, -⟩ := I1.out 0 (by omega)
                have hfr := front_ints xb xo (rw_ W k).length sc (len + 1) hle hsc
                rw [show ((len + 1 : Nat) : Int) = (len : Int) + 1 by omega] at hfr
                have htl : ((rw_ W k).take (len + 1)).length = len + 1 := by rw [List.length_take]; omega
                obtain ⟨av, cv, hve, hcv, hrc⟩ := LS4.out.form BW4.out
                subst hve
                have HIX : Hid (Calls Try.prog 40 #[.slice av (inL W len k (outL W len)).length cv, .slice (some ⟨xb, xo, none⟩) (len + 1) sc] w4 fun e w' => ∃ z, e = .returned (.int .i64 z) ∧ FirstAt (inL W len k (outL W len)) ((rw_ W k).take (len + 1)) z ∧ Below w4.heap.size w4 w') := by
                  have := sidx_any (inL W len k (outL W len)) ((rw_ W k).take (len + 1)) av (some ⟨xb, xo, none⟩) cv sc w4 hnL (by omega) hrc.at (ints_take (IntsAt.keepB I1.out BW4.out) _)
                  rwa [htl] at this
                have HIT : Hid (IntsAt w (some ⟨xb, xo, none⟩) ((rw_ W k).take (len + 1))) := ints_take I1.out _
                have HTL : Hid _ := htl
                clear hrc htl hcv
                generalize hX : (rw_ W k).take (len + 1) = X at HST2 HIX HIT HTL
                generalize hLs : inL W len k (outL W len) = Ls at HST2 HIX LS4 hnL
                have HLs : Hid _ := hLs
                clear hX hLs
                go_wp2_with fail
                refine Calls.mono HIX.out ?_
                rintro r w6 ⟨z, rfl, hz, b6⟩
                have HBX6 : Hid (w6.heap[w.heap.size]? = some (.cells #[.slice none 0 0, .slice none 0 0, .slice none 0 0, .slice none 0 0] 28)) := (b6.block _ (Array.getElem?_eq_some_iff.1 HBX4.out).1).trans HBX4.out
                have BW6 : Hid (Below w.heap.size w w6) := BW4.out.trans (b6.mono BW4.out.size)
                have LS6 : Hid (LstsAt w w6 (w.heap.size + 1) (.slice av Ls.length cv) Ls) := LS4.out.keepB b6
                clear b6
                rcases hz with ⟨j, hj1, rfl, hj2, -⟩ | ⟨rfl, hno⟩
                · have hjI : ¬ (j : Int) < 0 := by omega
                  have hjB : decide ((j : Int) < 0) = false := decide_eq_false hjI
                  have HST3 : Hid (inL W len (k + 1) (outL W len) = Ls) := HST2.out.trans (if_pos (lsAt_mem.2 ⟨j, hj1, hj2⟩))
                  clear hj1 hj2
                  go_wp2
                  go_roundw
                  case rel => exact ⟨k + 1, by omega, by go_num, by rw [HST3.out]; exact LS6.out, HBX6.out, BW6.out⟩
                  case measure => simp [intOf]; omega
                · have HST3 : Hid (inL W len (k + 1) (outL W len) = Ls ++ [X]) := HST2.out.trans (if_neg fun hm => by
                    obtain ⟨i, i1, i2⟩ := lsAt_mem.1 hm
                    exact hno i i1 i2)
                  clear hno
                  obtain ⟨Q, hr0, hq0⟩ := LS6.out
                  have HR0 : Hid (w6.ownsRow (w.heap.size + 1) 26 1 (.slice av Ls.length cv) Ls.length Q) := hr0
                  have HQ0 : Hid _ := hq0
                  have EO : Hid (∀ o, (w6.alloc o).ownsRow (w.heap.size + 1) 26 1 (.slice av Ls.length cv) Ls.length Q) := fun o => World.ownsRow.keepB HR0.out (al_W w6 o)
                  have hs6 : w.heap.size < w6.heap.size := (Array.getElem?_eq_some_iff.1 HBX6.out).1
                  have HZ : Hid (∀ o, w.heap.size + 1 ≤ (w6.alloc o).heap.size) := fun o => by show w.heap.size + 1 ≤ _; simp; omega
                  clear hr0 hq0
                  go_wp2_with (at_builtin; (refine wpRow _ rfl (.tmp 60) (.tmp 64) rfl (w.heap.size + 1) (.slice av Ls.length cv) Ls.length Q rfl (EO.out _) w6.heap.size 1 (some ⟨xb, xo, none⟩) (len + 1) sc rfl (new_cell _ _ _) hnL (HZ.out _) ?_))
                  intro nv yy hr hg
                  have LY : Hid (LstsAt w yy (w.heap.size + 1) nv (Ls ++ [X])) := LstsAt.push HQ0.out (by have := HR0.out.1; omega) hr (by rw [HTL.out]) (by rw [HTL.out]; omega) HIT.out
                  have BY : Hid (Below w.heap.size w yy) := Below.grown ((BW6.out).trans ((al_W w6 _).mono BW6.out.size)) hg (by simp; omega) (fun g e => by have := (World.ownsRow.lt HR0.out g e).1; omega)
                  have HBY : Hid (yy.heap[w.heap.size]? = some (.cells #[.slice none 0 0, .slice none 0 0, .slice none 0 0, .slice none 0 0] 28)) := (hg.block w.heap.size (by simp; omega) (fun e => by have := (World.ownsRow.lt HR0.out _ e.symm).1; omega)).trans (((al_W w6 _).block w.heap.size hs6).trans HBX6.out)
                  clear hr hg
                  go_wp2
                  go_roundw
                  case rel => exact ⟨k + 1, by omega, by go_num, by rw [HST3.out]; exact LY.out, HBY.out, BY.out⟩
                  case measure => simp [intOf]; omega
              · have hleI : ¬ (len : Int) + 1 ≤ ((rw_ W k).length : Int) := by omega
                have hleB : decide ((len : Int) + 1 ≤ ((rw_ W k).length : Int)) = false := decide_eq_false hleI
                have HST2 : Hid (inL W len (k + 1) (outL W len) = inL W len k (outL W len)) := HSTEP.out.trans (if_neg hle)
                obtain ⟨av, cv, hve, -, -⟩ := LS4.out.form BW4.out
                subst hve
                go_wp2
                go_roundw
                case rel => exact ⟨k + 1, by omega, by go_num, by rw [HST2.out]; exact LS4.out, HBX4.out, BW4.out⟩
                case measure => simp [intOf]; omega
            · obtain rfl : k = W.length := by omega
              have hltI : ¬ (W.length : Int) < (W.length : Int) := by omega
              have LN : Hid (LstsAt w w4 (w.heap.size + 1) u4 (outL W (len + 1))) := LS4.out
              go_wp2
              go_roundw
              case rel => exact ⟨len + 1, by omega, by go_num, LN.out, HBX4.out, BW4.out⟩
              case measure => simp [intOf]; omega
        · obtain rfl : len = 40 := by omega
          obtain ⟨w3, hw3⟩ : ∃ w3, w3 = wr := ⟨_, rfl⟩
          subst hw3
          have LS3 : Hid (LstsAt w w3 (w.heap.size + 1) u4 (outL W 40)) := hls
          have hbx3 : w3.heap[w.heap.size]? = some (.cells #[.slice none 0 0, .slice none 0 0, .slice none 0 0, .slice none 0 0] 28) := hbx
          have HBX3 : Hid _ := hbx3
          have BW3 : Hid (Below w.heap.size w w3) := hbw
          have hls3 : w.heap.size < w3.heap.size := (Array.getElem?_eq_some_iff.1 hbx3).1
          obtain ⟨av, cv, hve, hcv, hrc⟩ := LS3.out.form BW3.out
          subst hve
          have hsl := stQ_len (words_40 HALL.out)
          have hpos : 0 < (stQ W).length := (outT_run W (-1) 120).ok.inv.1
          obtain ⟨Ls, hLs⟩ : ∃ Ls, Ls = outL W 40 := ⟨_, rfl⟩
          rw [← hLs] at hrc hcv
          have RC : Hid (RowsC w3 av Ls) := hrc
          have HLs : Hid (Ls = outL W 40) := hLs
          rw [← hLs]
          rw [← hLs] at hsl
          obtain ⟨n, hn⟩ : ∃ n, n = Ls.length := ⟨_, rfl⟩
          have HNL : Hid (n = Ls.length) := hn
          rw [← hn] at hcv hsl ⊢
          obtain ⟨lb, lof, -, -, rfl, -⟩ := RC.out 0 (by have := HNL.out; omega)
          clear hls hbx hbw hrc hLs hn LS3
          by_cases h100 : n ≤ 100
          case neg =>
            have h100I : (100 : Int) < (n : Int) := by omega
            have HK : Hid (wordsB W = false ∧ gP W = [] ∧ gBy W = [] ∧ gF W = [] ∧ gN W = 0) := gN_no (by unfold wordsB; rw [← HLs.out, ← HNL.out, decide_eq_false h100]; simp)
            obtain ⟨w8, hst, hlv, hg8⟩ := box_store HBX3.out none none none none 0 0 0 0 0 0 0 0
            have HST : Hid _ := hst
            have HRV : Hid _ := hlv
            have HG : Hid _ := hg8
            have BF : Hid (Below w.heap.size w w3) := BW3.out
            clear hst hlv hg8
            go_wp2_with (refine wpList_store_aho rfl (.tmp 2) (.tmp 70) rfl w.heap.size rfl rfl HST.out ?_)
            exact bodyPost_ret (v := .tuple #[.agg #[.slice none 0 0, .slice none 0 0, .slice none 0 0, .slice none 0 0], .bool false]) (by simp [results, Try.results9, asAddr, HRV.out]) rfl ⟨.slice none 0 0, .slice none 0 0, .slice none 0 0, .slice none 0 0, by rw [HK.out.1], by rw [HK.out.2.1, HK.out.2.2.1, HK.out.2.2.2.1, HK.out.2.2.2.2]; exact own_empty _ _ _, Below.grown BF.out HG.out BF.out.size (fun g e => by have := Option.some.inj e; omega)⟩
          have h100I : ¬ (100 : Int) < (n : Int) := by omega
          have HK : Hid (wordsB W = true ∧ gN W = (stQ W).length) := gN_yes (by unfold wordsB; rw [decide_eq_true h8, words_all HALL.out, ← HLs.out, ← HNL.out, decide_eq_true h100]; rfl)
          have AL3 : Hid (∀ o, Below w3.heap.size w3 (w3.alloc o)) := al_W w3
          have V0 : Hid (AhoV (w3.alloc (.cells #[.slice none 0 0, .slice none 0 0, .slice none 0 0, .slice none 0 0] 28)) w3.heap.size w3.heap.size w3.heap.size (.slice none 0 0) (.slice none 0 0) (.slice none 0 0) (.slice none 0 0) [] (mapN (fun j => (sq (stQ W) j).f) 0) (mapN (fun j => (sq (stQ W) j).b) 0) (mapN (fun j => (sq (stQ W) j).q) 0) (gE W)) := ⟨heap_last2 _ _ _ rfl, World.ownsRow_nil _ _ _ _, World.ownsRow_nil _ _ _ _, World.ownsRow_nil _ _ _ _, World.ownsRow_nil _ _ _ _, fun j hj => absurd hj (by simp), fun i j hi => absurd hi (by simp), .inl rfl, .inl rfl, .inl rfl, fun j hj => absurd hj (by simp)⟩
          go_wp2
          go_loopw [73] (fun i wr => ∃ (k : Nat) (v0 v1 v2 v3 : Value) (Qr : List Value), k ≤ n ∧ i = .int .i64 k ∧ Qr.length = k ∧ AhoV wr w3.heap.size w3.heap.size w3.heap.size v0 v1 v2 v3 Qr (mapN (fun j => (sq (stQ W) j).f) k) (mapN (fun j => (sq (stQ W) j).b) k) (mapN (fun j => (sq (stQ W) j).q) k) (gE W) ∧ Below w3.heap.size w3 wr ∧ w3.heap.size ≤ wr.heap.size) (fun i _ => n - (intOf i).toNat)
          case atStart => exact ⟨0, _, _, _, _, [], Nat.zero_le _, rfl, rfl, V0.out, AL3.out _, (AL3.out _).size⟩
          case round =>
            obtain ⟨k, v0, v1, v2, v3, Qr, hk, rfl, hql, hV, hbw, hzz⟩ := hrel
            obtain ⟨w5, hw5⟩ : ∃ w5, w5 = wr := ⟨_, rfl⟩
            subst hw5
            have HQL : Hid (Qr.length = k) := hql
            have VV : Hid (AhoV w5 w3.heap.size w3.heap.size w3.heap.size v0 v1 v2 v3 Qr (mapN (fun j => (sq (stQ W) j).f) k) (mapN (fun j => (sq (stQ W) j).b) k) (mapN (fun j => (sq (stQ W) j).q) k) (gE W)) := hV
            have BW : Hid (Below w3.heap.size w3 w5 ∧ w3.heap.size ≤ w5.heap.size) := ⟨hbw, hzz⟩
            clear hV hbw hzz V0 hql
            by_cases hlt : k < n
            · have hltI : (k : Int) < (n : Int) := by omega
              obtain ⟨xb, xo, sa, sc, xe, xl, xc, hsc, xi⟩ := RC.out k (by have := HNL.out; omega)
              simp only [Option.some.injEq, Addr.mk.injEq, and_true] at xe
              obtain ⟨rfl, rfl⟩ := xe
              have hso := st_ok HALL.out (k := k) (by rw [hsl]; exact hlt)
              obtain ⟨l, hl⟩ : ∃ l, l = rw_ Ls k := ⟨_, rfl⟩
              have hll : l = lsAt (outL W 40) k := by rw [hl, HLs.out]; rfl
              rw [← hl] at xc hsc xi
              obtain ⟨ll, hlen⟩ : ∃ ll, ll = l.length := ⟨_, rfl⟩
              rw [← hlen] at xc hsc
              have HLL : Hid (ll = l.length ∧ ll ≤ sc ∧ ll ≤ 40) := ⟨hlen, hsc, by rw [hlen, hll]; exact hso.len⟩
              have HIL : Hid (IntsAt w3 sa l) := xi
              have HEE : Hid (endW W l W.length = gE W k) := by rw [hll]; exact hso.ends
              have gl : w5.cell? ⟨lb, lof + k, none⟩ = some (.slice sa ll sc) := (BW.out.1.cell (p := ⟨lb, lof + k, none⟩) xl).trans xc
              have hfail : ((lastS Ls l k : Nat) : Int) = (sq (stQ W) k).q := by rw [hll, HLs.out]; exact hso.fail
              have HX : Hid (∀ (w' : World) (u0 u1 u2 u3 u : Value), AhoV w' w3.heap.size w3.heap.size w3.heap.size u0 u1 u2 u3 (Qr ++ [u]) (mapN (fun j => (sq (stQ W) j).f) k ++ [(sq (stQ W) k).f]) (mapN (fun j => (sq (stQ W) j).b) k ++ [(sq (stQ W) k).b]) (mapN (fun j => (sq (stQ W) j).q) k ++ [(sq (stQ W) k).q]) (fun j => if j = Qr.length then gE W k else gE W j) → AhoV w' w3.heap.size w3.heap.size w3.heap.size u0 u1 u2 u3 (Qr ++ [u]) (mapN (fun j => (sq (stQ W) j).f) (k + 1)) (mapN (fun j => (sq (stQ W) j).b) (k + 1)) (mapN (fun j => (sq (stQ W) j).q) (k + 1)) (gE W)) := fun w' u0 u1 u2 u3 u h => by
                rw [mapN_step, mapN_step, mapN_step]
                have hf : (fun j => if j = Qr.length then gE W k else gE W j) = gE W := by
                  funext j
                  by_cases e : j = Qr.length
                  · rw [if_pos e, e, HQL.out]
                  · rw [if_neg e]
                rw [hf] at h
                exact h
              by_cases hk0 : k = 0
              · obtain ⟨z0, z1⟩ := hso.zero hk0
                rw [z0, z1] at HX
                generalize (sq (stQ W) k).q = x3 at HX hfail
                have HX3 : Hid (((lastS Ls l k : Nat) : Int) = x3) := hfail
                have hk0B : decide ((0 : Int) < (k : Int)) = false := decide_eq_false (by omega)
                have hk0N : decide (0 < k) = false := decide_eq_false (by omega)
                have B6 : Hid (Below w5.heap.size w5 w5) := Below.refl _ _
                clear hk0 hso z0 z1 hfail hll hl hlen xi xl xc hsc
                have HFR : Hid _ := front_rows lb lof n cv k hk hcv
                have hfr := HFR.out
                go_wp2
                go_loopw [97, 15] (fun i s wr => ∃ m : Nat, m ≤ k ∧ i = .int .i64 m ∧ s = .int .i64 (lastS Ls l m : Nat) ∧ Below w5.heap.size w5 wr) (fun i _ _ => k - (intOf i).toNat)
                case atStart => exact ⟨0, Nat.zero_le _, rfl, rfl, Below.refl _ _⟩
                case round =>
                  obtain ⟨m, hm, rfl, rfl, hbw⟩ := hrel
                  have BM : Hid (Below w5.heap.size w5 wr) := hbw
                  have BM5 : Hid (Below w5.heap.size w5 wr) := B6.out.trans (hbw.mono B6.out.size)
                  have BM3 : Hid (Below w3.heap.size w3 wr) := BW.out.1.trans (BM5.out.mono BW.out.2)
                  clear hbw
                  by_cases hlm : m < k
                  · have hlmI : (m : Int) < (k : Int) := by omega
                    obtain ⟨xb, xo, sx, sxc, xe, xl, xc, xcap, xi⟩ := RC.out m (by have := HNL.out; omega)
                    simp only [Option.some.injEq, Addr.mk.injEq, and_true] at xe
                    obtain ⟨rfl, rfl⟩ := xe
                    have gx : wr.cell? ⟨lb, lof + m, none⟩ = some (.slice sx (rw_ Ls m).length sxc) := (BM3.out.cell (p := ⟨lb, lof + m, none⟩) xl).trans xc
                    have HEN : Hid (Calls Try.prog 41 #[.slice sa ll sc, .slice sx (rw_ Ls m).length sxc] wr fun e w' => e = .returned (.bool (endsB l (rw_ Ls m))) ∧ Below wr.heap.size wr w') := by
                      have := sends_any l (rw_ Ls m) sa sx sc sxc wr (by have := HLL.out; omega) (by have := HLL.out; omega) (IntsAt.keepB HIL.out BM3.out) (IntsAt.keepB xi BM3.out)
                      rwa [← HLL.out.1] at this
                    clear xc xi xcap
                    by_cases he : rw_ Ls m <:+ l
                    · have hd := endsB_yes he
                      rw [hd] at HEN
                      have HNX : Hid (lastS Ls l (m + 1) = m) := lastS_yes he
                      clear he hd
                      go_wp2_with fail
                      refine Calls.mono HEN.out ?_
                      rintro e w7 ⟨rfl, b7⟩
                      have B7 : Hid (Below w5.heap.size w5 w7) := BM.out.trans (b7.mono BM.out.size)
                      clear b7
                      go_wp2
                      go_roundw
                      case rel => exact ⟨m + 1, by omega, by go_num, by rw [HNX.out], B7.out⟩
                      case measure => simp [intOf]; omega
                    · have hd := endsB_no he
                      rw [hd] at HEN
                      have HNX : Hid (lastS Ls l (m + 1) = lastS Ls l m) := lastS_no he
                      clear he hd
                      go_wp2_with fail
                      refine Calls.mono HEN.out ?_
                      rintro e w7 ⟨rfl, b7⟩
                      have B7 : Hid (Below w5.heap.size w5 w7) := BM.out.trans (b7.mono BM.out.size)
                      clear b7
                      go_wp2
                      go_roundw
                      case rel => exact ⟨m + 1, by omega, by go_num, by rw [HNX.out], B7.out⟩
                      case measure => simp [intOf]; omega
                  · obtain rfl : m = k := by omega
                    have hlmI : ¬ (m : Int) < (m : Int) := by omega
                    obtain ⟨w8, hw8⟩ : ∃ w8, w8 = wr := ⟨_, rfl⟩
                    subst hw8
                    have hx3 := HX3.out
                    clear BM HFR hfr
                    rw [hx3]
                    go_wp2
                    go_loopw [109, 18] (fun i v wr => ∃ q : Nat, q ≤ W.length ∧ i = .int .i64 q ∧ wr.ownsRow w8.heap.size 3 1 v (endW W l q).length (ints (endW W l q)) ∧ Below w8.heap.size w8 wr) (fun i _ _ => W.length - (intOf i).toNat)
                    case atStart => exact ⟨0, Nat.zero_le _, rfl, World.ownsRow_nil _ _ _ _, Below.refl _ _⟩
                    case round =>
                      obtain ⟨q, hq, rfl, ho, hbw⟩ := hrel
                      have HO : Hid (wr.ownsRow w8.heap.size 3 1 u18 (endW W l q).length (ints (endW W l q))) := ho
                      have BQ : Hid (Below w8.heap.size w8 wr) := hbw
                      have BQ3 : Hid (Below w3.heap.size w3 wr) := BM3.out.trans (hbw.mono BM3.out.size)
                      have BQ0 : Hid (Below w.heap.size w wr) := BW3.out.trans (BQ3.out.mono BW3.out.size)
                      clear ho hbw
                      by_cases hlq : q < W.length
                      · have hlqI : (q : Int) < (W.length : Int) := by omega
                        obtain ⟨xb, xo, sx, sxc, rfl, xl, xc, -, xi⟩ := HWC.out q hlq
                        have gx : wr.cell? ⟨xb, xo + q, none⟩ = some (.slice sx (rw_ W q).length sxc) := (BQ0.out.cell (p := ⟨xb, xo + q, none⟩) xl).trans xc
                        have HEN : Hid (Calls Try.prog 41 #[.slice sa ll sc, .slice sx (rw_ W q).length sxc] wr fun e w' => e = .returned (.bool (endsB l (rw_ W q))) ∧ Below wr.heap.size wr w') := by
                          have := sends_any l (rw_ W q) sa sx sc sxc wr (by have := HLL.out; omega) (by have := HLL.out; omega) (IntsAt.keepB HIL.out BQ3.out) (IntsAt.keepB xi BQ0.out)
                          rwa [← HLL.out.1] at this
                        have hel := endW_len W l q
                        clear xc xi
                        by_cases he : rw_ W q <:+ l
                        · have hd := endsB_yes he
                          rw [hd] at HEN
                          have HNX : Hid (∀ (w : World) b v, w.ownsRow b 3 1 v ((endW W l q).length + 1) (ints (endW W l q) ++ ints [(q : Int)]) → w.ownsRow b 3 1 v (endW W l (q + 1)).length (ints (endW W l (q + 1)))) := fun w b v h => by
                            rw [endW_yes he, List.length_append, List.length_singleton]
                            simpa [ints] using h
                          clear he hd
                          go_wp2_with fail
                          refine Calls.mono HEN.out ?_
                          rintro e wx ⟨rfl, bx⟩
                          have BX : Hid (Below w8.heap.size w8 wx) := BQ.out.trans (bx.mono BQ.out.size)
                          have OX : Hid (wx.ownsRow w8.heap.size 3 1 u18 (endW W l q).length (ints (endW W l q))) := World.ownsRow.keepB HO.out bx
                          have EO : Hid (∀ o, (wx.alloc o).ownsRow w8.heap.size 3 1 u18 (endW W l q).length (ints (endW W l q))) := fun o => World.ownsRow.keepB OX.out (al_W wx o)
                          have HZ : Hid (∀ o, w8.heap.size ≤ (wx.alloc o).heap.size) := fun o => Nat.le_trans BX.out.size (al_W wx o).size
                          clear bx
                          go_wp2_with (at_builtin; (refine wpA _ rfl (.tmp 117) (.tmp 119) rfl w8.heap.size u18 (endW W l q).length (ints (endW W l q)) rfl (EO.out _) (some ⟨wx.heap.size, 0, none⟩) [(q : Int)] 1 1 rfl rfl (ints_new _ _ 3 _ rfl) (by omega) (HZ.out _) ?_))
                          intro nv yy hr hg hat
                          have BY : Hid _ := grown_lo OX.out BX.out BX.out.size hg
                          have OY : Hid _ := HNX.out _ _ _ hr
                          clear hr hg hat
                          go_wp2
                          go_roundw
                          case rel => exact ⟨q + 1, by omega, by go_num, OY.out, BY.out.1⟩
                          case measure => simp [intOf]; omega
                        · have hd := endsB_no he
                          rw [hd] at HEN
                          have HNX : Hid (endW W l (q + 1) = endW W l q) := endW_no he
                          clear he hd
                          go_wp2_with fail
                          refine Calls.mono HEN.out ?_
                          rintro e wx ⟨rfl, bx⟩
                          have BX : Hid (Below w8.heap.size w8 wx) := BQ.out.trans (bx.mono BQ.out.size)
                          have OX : Hid (wx.ownsRow w8.heap.size 3 1 u18 (endW W l q).length (ints (endW W l q))) := World.ownsRow.keepB HO.out bx
                          clear bx
                          go_wp2
                          go_roundw
                          case rel => exact ⟨q + 1, by omega, by go_num, by rw [HNX.out]; exact OX.out, BX.out⟩
                          case measure => simp [intOf]; omega
                      · obtain rfl : q = W.length := by omega
                        have hlqI : ¬ (W.length : Int) < (W.length : Int) := by omega
                        obtain ⟨w9, hw9⟩ : ∃ w9, w9 = wr := ⟨_, rfl⟩
                        subst hw9
                        have B59 : Hid (Below w5.heap.size w5 w9) := BM5.out.trans (BQ.out.mono BM5.out.size)
                        have hou := HO.out
                        rw [HEE.out] at hou
                        obtain ⟨ea, ec, rfl⟩ := own_form' hou
                        obtain ⟨en, hen⟩ : ∃ en, en = (gE W m).length := ⟨_, rfl⟩
                        have hul : ∀ g, (Value.slice ea (gE W m).length ec).ownBlock = some g → w8.heap.size ≤ g := fun g e => (World.ownsRow.lt hou g e).1
                        have h58 := BM5.out.size
                        have KX0 : AhoU w9 w3.heap.size w3.heap.size w3.heap.size v0 v1 v2 v3 Qr (mapN (fun j => (sq (stQ W) j).f) m) (mapN (fun j => (sq (stQ W) j).b) m) (mapN (fun j => (sq (stQ W) j).q) m) (gE W) (.slice ea (gE W m).length ec) (gE W m) := by
                          refine ⟨VV.out.keepB B59.out, own_mono hou (by have := BM3.out.size; omega), ⟨?_, ?_, ?_⟩, fun j hj => ?_⟩
                          · exact aprt_lt (fun g e => (World.ownsRow.lt VV.out.p g e).2) (fun g e => by have := hul g e; omega)
                          · exact aprt_lt (fun g e => (World.ownsRow.lt VV.out.b g e).2) (fun g e => by have := hul g e; omega)
                          · exact aprt_lt (fun g e => (World.ownsRow.lt VV.out.f_ g e).2) (fun g e => by have := hul g e; omega)
                          · have h1 : aprt (vd Qr j) (.slice ea (gE W m).length ec) := aprt_lt (fun g e => (World.ownsRow.lt (VV.out.rows j hj) g e).2) (fun g e => by have := hul g e; omega)
                            exact ⟨h1, ne_sym h1⟩
                        rw [← hen] at KX0
                        have KX : Hid (AhoU w9 w3.heap.size w3.heap.size w3.heap.size v0 v1 v2 v3 Qr (mapN (fun j => (sq (stQ W) j).f) m) (mapN (fun j => (sq (stQ W) j).b) m) (mapN (fun j => (sq (stQ W) j).q) m) (gE W) (.slice ea en ec) (gE W m)) := KX0
                        have BLX : Hid (Below w3.heap.size w3 w9 ∧ w3.heap.size ≤ w9.heap.size) := ⟨BQ3.out, BQ3.out.size⟩
                        rw [← hen]
                        have cx0 := cell_of KX.out.v.blk 0
                        simp only [List.getElem?_toArray, List.getElem?_cons_zero] at cx0
                        have HXX := HX.out
                        clear hou hul h58 KX0 hen hx3 BM5 BM3 BQ BQ0 BQ3 HO B59 HEE HX3 HX
                        have hm100 : m ≤ 100 := by omega
                        have EO0 : Hid (∀ o, (w9.alloc o).ownsRow w3.heap.size 3 1 v0 m (ints (mapN (fun j => (sq (stQ W) j).f) m))) := fun o => by
                          have := World.ownsRow.keepB KX.out.v.p (al_W w9 o)
                          rwa [mapN_len] at this
                        have HZ0 : Hid (∀ o, w3.heap.size ≤ (w9.alloc o).heap.size) := fun o => Nat.le_trans BLX.out.2 (al_W _ o).size
                        go_wp2_with (at_builtin; (refine wpA _ rfl (.tmp 123) (.tmp 125) rfl w3.heap.size v0 m (ints (mapN (fun j => (sq (stQ W) j).f) m)) rfl (EO0.out _) (some ⟨w9.heap.size, 0, none⟩) [(-1)] 1 1 rfl rfl (ints_new _ _ 3 _ (by simp)) (by omega) (HZ0.out _) ?_))
                        intro nv y0 hr hg hat
                        obtain ⟨b0, m0, rfl⟩ := own_form' hr
                        have hK := AhoU.push0 (KX.out.keepB (al_W _ _)) (-1) (by rw [mapN_len]; exact hr) hg (hat.imp id fun h => h.trans (by simp))
                        have blk0 := hK.1
                        have BL0 : Hid _ := set_lo (i := 0) (grown_lo KX.out.v.p BLX.out.1 BLX.out.2 hg) (Nat.le_refl _) (.slice b0 (m + 1) m0)
                        have K0 : Hid _ := hK.2
                        have c0a := cell_of blk0 0
                        have f0a := frozen_of_row y0 w3.heap.size 0 _ _ blk0
                        simp only [List.getElem?_toArray, List.getElem?_cons_zero] at c0a
                        have c0b := cell_of K0.out.v.blk 1
                        simp only [List.getElem?_toArray, List.getElem?_cons_zero, List.getElem?_cons_succ] at c0b
                        clear hr hg hat hK blk0 EO0 HZ0
                        have EO1 : Hid (∀ o, ((y0.setCell ⟨w3.heap.size, 0, none⟩ (.slice b0 (m + 1) m0)).alloc o).ownsRow w3.heap.size 3 1 v1 m (ints (mapN (fun j => (sq (stQ W) j).b) m))) := fun o => by
                          have := World.ownsRow.keepB K0.out.v.b (al_W (y0.setCell ⟨w3.heap.size, 0, none⟩ (.slice b0 (m + 1) m0)) o)
                          rwa [mapN_len] at this
                        have HZ1 : Hid (∀ o, w3.heap.size ≤ ((y0.setCell ⟨w3.heap.size, 0, none⟩ (.slice b0 (m + 1) m0)).alloc o).heap.size) := fun o => Nat.le_trans BL0.out.2 (al_W _ o).size
                        go_wp2_with (at_builtin; (refine wpA _ rfl (.tmp 129) (.tmp 131) rfl w3.heap.size v1 m (ints (mapN (fun j => (sq (stQ W) j).b) m)) rfl (EO1.out _) (some ⟨y0.heap.size, 0, none⟩) [(-1)] 1 1 rfl rfl (ints_new _ _ 3 _ (by simp [World.setCell])) (by omega) (HZ1.out _) ?_))
                        intro nv y1 hr hg hat
                        obtain ⟨b1, m1, rfl⟩ := own_form' hr
                        have hK := AhoU.push1 (K0.out.keepB (al_W _ _)) (-1) (by rw [mapN_len]; exact hr) hg (hat.imp id fun h => h.trans (by simp [World.setCell]))
                        have blk1 := hK.1
                        have BL1 : Hid _ := set_lo (i := 1) (grown_lo K0.out.v.b BL0.out.1 BL0.out.2 hg) (Nat.le_refl _) (.slice b1 (m + 1) m1)
                        have K1 : Hid _ := hK.2
                        have c1a := cell_of blk1 1
                        have f1a := frozen_of_row y1 w3.heap.size 1 _ _ blk1
                        simp only [List.getElem?_toArray, List.getElem?_cons_zero, List.getElem?_cons_succ] at c1a
                        have c1b := cell_of K1.out.v.blk 2
                        simp only [List.getElem?_toArray, List.getElem?_cons_zero, List.getElem?_cons_succ] at c1b
                        clear hr hg hat hK blk1 EO1 HZ1
                        have EO2 : Hid (∀ o, ((y1.setCell ⟨w3.heap.size, 1, none⟩ (.slice b1 (m + 1) m1)).alloc o).ownsRow w3.heap.size 3 1 v2 m (ints (mapN (fun j => (sq (stQ W) j).q) m))) := fun o => by
                          have := World.ownsRow.keepB K1.out.v.f_ (al_W (y1.setCell ⟨w3.heap.size, 1, none⟩ (.slice b1 (m + 1) m1)) o)
                          rwa [mapN_len] at this
                        have HZ2 : Hid (∀ o, w3.heap.size ≤ ((y1.setCell ⟨w3.heap.size, 1, none⟩ (.slice b1 (m + 1) m1)).alloc o).heap.size) := fun o => Nat.le_trans BL1.out.2 (al_W _ o).size
                        go_wp2_with (at_builtin; (refine wpA _ rfl (.tmp 135) (.tmp 137) rfl w3.heap.size v2 m (ints (mapN (fun j => (sq (stQ W) j).q) m)) rfl (EO2.out _) (some ⟨y1.heap.size, 0, none⟩) [x3] 1 1 rfl rfl (ints_new _ _ 3 _ (by simp [World.setCell])) (by omega) (HZ2.out _) ?_))
                        intro nv y2 hr hg hat
                        obtain ⟨b2, m2, rfl⟩ := own_form' hr
                        have hK := AhoU.push2 (K1.out.keepB (al_W _ _)) x3 (by rw [mapN_len]; exact hr) hg (hat.imp id fun h => h.trans (by simp [World.setCell]))
                        have blk2 := hK.1
                        have BL2 : Hid _ := set_lo (i := 2) (grown_lo K1.out.v.f_ BL1.out.1 BL1.out.2 hg) (Nat.le_refl _) (.slice b2 (m + 1) m2)
                        have K2 : Hid _ := hK.2
                        have c2a := cell_of blk2 2
                        have f2a := frozen_of_row y2 w3.heap.size 2 _ _ blk2
                        simp only [List.getElem?_toArray, List.getElem?_cons_zero, List.getElem?_cons_succ] at c2a
                        have c2b := cell_of K2.out.v.blk 3
                        simp only [List.getElem?_toArray, List.getElem?_cons_zero, List.getElem?_cons_succ] at c2b
                        clear hr hg hat hK blk2 EO2 HZ2
                        have EO3 : Hid (∀ o, ((y2.setCell ⟨w3.heap.size, 2, none⟩ (.slice b2 (m + 1) m2)).alloc o).ownsRow w3.heap.size 26 1 v3 m Qr) := fun o => by
                          have := World.ownsRow.keepB K2.out.v.r (al_W (y2.setCell ⟨w3.heap.size, 2, none⟩ (.slice b2 (m + 1) m2)) o)
                          rwa [HQL.out] at this
                        have HZ3 : Hid (∀ o, w3.heap.size ≤ ((y2.setCell ⟨w3.heap.size, 2, none⟩ (.slice b2 (m + 1) m2)).alloc o).heap.size) := fun o => Nat.le_trans BL2.out.2 (al_W _ o).size
                        go_wp2_with (at_builtin; refine wpRow _ rfl (.tmp 141) (.tmp 143) rfl w3.heap.size v3 m Qr rfl (EO3.out _) y2.heap.size 1 ea en ec rfl (new_cell8 _ _ _ _ (by simp [World.setCell])) (by omega) (HZ3.out _) ?_)
                        intro nv y3 hr hg
                        obtain ⟨b3, m3, rfl⟩ := own_form' hr
                        have hK := AhoU.push3 (K2.out.keepB (al_W _ _)) (by rw [HQL.out]; exact hr) hg
                        have BL3 : Hid _ := set_lo (i := 3) (grown_lo K2.out.v.r BL2.out.1 BL2.out.2 hg) (Nat.le_refl _) (.slice b3 (m + 1) m3)
                        have blk3 := hK.1
                        have c3a := cell_of blk3 3
                        have f3a := frozen_of_row y3 w3.heap.size 3 _ _ blk3
                        simp only [List.getElem?_toArray, List.getElem?_cons_zero, List.getElem?_cons_succ] at c3a
                        have K3 : Hid _ := hK.2
                        clear hr hg hK blk3 EO3 HZ3
                        go_wp2
                        go_roundw
                        case rel => exact ⟨m + 1, _, _, _, _, _, by omega, by go_num, by rw [List.length_append, List.length_singleton, HQL.out], HXX _ _ _ _ _ _ K3.out, BL3.out.1, BL3.out.2⟩
                        case measure => simp [intOf]; omega
              · have k0 : 0 < k := by omega
                have hpar := hso.par k0
                have hps := hso.pos k0
                have hby := hso.by_ k0
                rw [← hll, ← HLs.out, ← hlen] at hpar
                rw [← hll, ← hlen] at hps hby
                obtain ⟨mm, rfl⟩ : ∃ mm, ll = mm + 1 := ⟨ll - 1, by omega⟩
                rw [Nat.add_sub_cancel] at hpar hby
                obtain ⟨sb, so, rfl, -, -⟩ := HIL.out 0 (by omega)
                obtain ⟨_, _, se, sl, scell⟩ := HIL.out mm (by omega)
                cases se
                rw [hby] at scell
                generalize (sq (stQ W) k).f = x0 at HX hpar
                generalize (sq (stQ W) k).b = x1 at HX scell
                generalize (sq (stQ W) k).q = x3 at HX hfail
                have HX3 : Hid (((lastS Ls l k : Nat) : Int) = x3) := hfail
                have HPAR : Hid (∀ z, FirstAt Ls (l.take mm) z → z = x0) := hpar
                have hfr2 := front_ints sb so (mm + 1) sc mm (Nat.le_succ _) hsc
                have hwm1 : IntKind.i64.wrap ((mm : Int) + 1 - 1) = (mm : Int) := by
                  rw [show (mm : Int) + 1 - 1 = (mm : Int) by omega]
                  exact IntWalk.i64_in _ (by have := HLL.out; omega)
                have hwm2 : IntKind.i64.wrap (mm : Int) = (mm : Int) := IntWalk.i64_in _ (by have := HLL.out; omega)
                have hk0I : (0 : Int) < (k : Int) := by omega
                have hk0B : decide ((0 : Int) < (k : Int)) = true := decide_eq_true hk0I
                have hk0N : decide (0 < k) = true := decide_eq_true k0
                have hmI : (mm : Int) < (mm : Int) + 1 := by omega
                have HSC : Hid (w3.cell? ⟨sb, so + mm, none⟩ = some (.int .i64 x1)) := scell
                have HSL : Hid (sb < w3.heap.size) := sl
                have HIX : Hid (Calls Try.prog 40 #[.slice (some ⟨lb, lof, none⟩) n cv, .slice (some ⟨sb, so, none⟩) mm sc] w5 fun e w' => ∃ z, e = .returned (.int .i64 z) ∧ FirstAt Ls (l.take mm) z ∧ Below w5.heap.size w5 w') := by
                  have htl : (l.take mm).length = mm := by rw [List.length_take]; omega
                  have := sidx_any Ls (l.take mm) (some ⟨lb, lof, none⟩) (some ⟨sb, so, none⟩) cv sc w5 (by have := HNL.out; omega) (by have := HLL.out; omega) (RowsAt.keepB RC.out.at BW.out.1) (ints_take (IntsAt.keepB HIL.out BW.out.1) _)
                  rwa [htl, ← HNL.out] at this
                clear hso hfail hll hl hlen xi xl xc hsc hpar hby scell sl
                go_wp2_with fail
                refine Calls.mono HIX.out ?_
                rintro r w6 ⟨z, rfl, hz, b6⟩
                obtain rfl : x0 = z := (HPAR.out z hz).symm
                have B6 : Hid (Below w5.heap.size w5 w6) := b6
                have gs : w6.cell? ⟨sb, so + mm, none⟩ = some (.int .i64 x1) := ((BW.out.1.trans (b6.mono BW.out.2)).cell (p := ⟨sb, so + mm, none⟩) HSL.out).trans HSC.out
                clear b6 hz HIX HPAR hk0I hk0B hk0N hfr2
                have HFR : Hid _ := front_rows lb lof n cv k hk hcv
                have hfr := HFR.out
                go_wp2
                go_loopw [97, 15] (fun i s wr => ∃ m : Nat, m ≤ k ∧ i = .int .i64 m ∧ s = .int .i64 (lastS Ls l m : Nat) ∧ Below w6.heap.size w6 wr) (fun i _ _ => k - (intOf i).toNat)
                case atStart => exact ⟨0, Nat.zero_le _, rfl, rfl, Below.refl _ _⟩
                case round =>
                  obtain ⟨m, hm, rfl, rfl, hbw⟩ := hrel
                  have BM : Hid (Below w6.heap.size w6 wr) := hbw
                  have BM5 : Hid (Below w5.heap.size w5 wr) := B6.out.trans (hbw.mono B6.out.size)
                  have BM3 : Hid (Below w3.heap.size w3 wr) := BW.out.1.trans (BM5.out.mono BW.out.2)
                  clear hbw
                  by_cases hlm : m < k
                  · have hlmI : (m : Int) < (k : Int) := by omega
                    obtain ⟨xb, xo, sx, sxc, xe, xl, xc, xcap, xi⟩ := RC.out m (by have := HNL.out; omega)
                    simp only [Option.some.injEq, Addr.mk.injEq, and_true] at xe
                    obtain ⟨rfl, rfl⟩ := xe
                    have gx : wr.cell? ⟨lb, lof + m, none⟩ = some (.slice sx (rw_ Ls m).length sxc) := (BM3.out.cell (p := ⟨lb, lof + m, none⟩) xl).trans xc
                    have HEN : Hid (Calls Try.prog 41 #[.slice (some ⟨sb, so, none⟩) (mm + 1) sc, .slice sx (rw_ Ls m).length sxc] wr fun e w' => e = .returned (.bool (endsB l (rw_ Ls m))) ∧ Below wr.heap.size wr w') := by
                      have := sends_any l (rw_ Ls m) (some ⟨sb, so, none⟩) sx sc sxc wr (by have := HLL.out; omega) (by have := HLL.out; omega) (IntsAt.keepB HIL.out BM3.out) (IntsAt.keepB xi BM3.out)
                      rwa [← HLL.out.1] at this
                    clear xc xi xcap
                    by_cases he : rw_ Ls m <:+ l
                    · have hd := endsB_yes he
                      rw [hd] at HEN
                      have HNX : Hid (lastS Ls l (m + 1) = m) := lastS_yes he
                      clear he hd
                      go_wp2_with fail
                      refine Calls.mono HEN.out ?_
                      rintro e w7 ⟨rfl, b7⟩
                      have B7 : Hid (Below w6.heap.size w6 w7) := BM.out.trans (b7.mono BM.out.size)
                      clear b7
                      go_wp2
                      go_roundw
                      case rel => exact ⟨m + 1, by omega, by go_num, by rw [HNX.out], B7.out⟩
                      case measure => simp [intOf]; omega
                    · have hd := endsB_no he
                      rw [hd] at HEN
                      have HNX : Hid (lastS Ls l (m + 1) = lastS Ls l m) := lastS_no he
                      clear he hd
                      go_wp2_with fail
                      refine Calls.mono HEN.out ?_
                      rintro e w7 ⟨rfl, b7⟩
                      have B7 : Hid (Below w6.heap.size w6 w7) := BM.out.trans (b7.mono BM.out.size)
                      clear b7
                      go_wp2
                      go_roundw
                      case rel => exact ⟨m + 1, by omega, by go_num, by rw [HNX.out], B7.out⟩
                      case measure => simp [intOf]; omega
                  · obtain rfl : m = k := by omega
                    have hlmI : ¬ (m : Int) < (m : Int) := by omega
                    obtain ⟨w8, hw8⟩ : ∃ w8, w8 = wr := ⟨_, rfl⟩
                    subst hw8
                    have hx3 := HX3.out
                    clear BM HFR hfr
                    rw [hx3]
                    go_wp2
                    go_loopw [109, 18] (fun i v wr => ∃ q : Nat, q ≤ W.length ∧ i = .int .i64 q ∧ wr.ownsRow w8.heap.size 3 1 v (endW W l q).length (ints (endW W l q)) ∧ Below w8.heap.size w8 wr) (fun i _ _ => W.length - (intOf i).toNat)
                    case atStart => exact ⟨0, Nat.zero_le _, rfl, World.ownsRow_nil _ _ _ _, Below.refl _ _⟩
                    case round =>
                      obtain ⟨q, hq, rfl, ho, hbw⟩ := hrel
                      have HO : Hid (wr.ownsRow w8.heap.size 3 1 u18 (endW W l q).length (ints (endW W l q))) := ho
                      have BQ : Hid (Below w8.heap.size w8 wr) := hbw
                      have BQ3 : Hid (Below w3.heap.size w3 wr) := BM3.out.trans (hbw.mono BM3.out.size)
                      have BQ0 : Hid (Below w.heap.size w wr) := BW3.out.trans (BQ3.out.mono BW3.out.size)
                      clear ho hbw
                      by_cases hlq : q < W.length
                      · have hlqI : (q : Int) < (W.length : Int) := by omega
                        obtain ⟨xb, xo, sx, sxc, rfl, xl, xc, -, xi⟩ := HWC.out q hlq
                        have gx : wr.cell? ⟨xb, xo + q, none⟩ = some (.slice sx (rw_ W q).length sxc) := (BQ0.out.cell (p := ⟨xb, xo + q, none⟩) xl).trans xc
                        have HEN : Hid (Calls Try.prog 41 #[.slice (some ⟨sb, so, none⟩) (mm + 1) sc, .slice sx (rw_ W q).length sxc] wr fun e w' => e = .returned (.bool (endsB l (rw_ W q))) ∧ Below wr.heap.size wr w') := by
                          have := sends_any l (rw_ W q) (some ⟨sb, so, none⟩) sx sc sxc wr (by have := HLL.out; omega) (by have := HLL.out; omega) (IntsAt.keepB HIL.out BQ3.out) (IntsAt.keepB xi BQ0.out)
                          rwa [← HLL.out.1] at this
                        have hel := endW_len W l q
                        clear xc xi
                        by_cases he : rw_ W q <:+ l
                        · have hd := endsB_yes he
                          rw [hd] at HEN
                          have HNX : Hid (∀ (w : World) b v, w.ownsRow b 3 1 v ((endW W l q).length + 1) (ints (endW W l q) ++ ints [(q : Int)]) → w.ownsRow b 3 1 v (endW W l (q + 1)).length (ints (endW W l (q + 1)))) := fun w b v h => by
                            rw [endW_yes he, List.length_append, List.length_singleton]
                            simpa [ints] using h
                          clear he hd
                          go_wp2_with fail
                          refine Calls.mono HEN.out ?_
                          rintro e wx ⟨rfl, bx⟩
                          have BX : Hid (Below w8.heap.size w8 wx) := BQ.out.trans (bx.mono BQ.out.size)
                          have OX : Hid (wx.ownsRow w8.heap.size 3 1 u18 (endW W l q).length (ints (endW W l q))) := World.ownsRow.keepB HO.out bx
                          have EO : Hid (∀ o, (wx.alloc o).ownsRow w8.heap.size 3 1 u18 (endW W l q).length (ints (endW W l q))) := fun o => World.ownsRow.keepB OX.out (al_W wx o)
                          have HZ : Hid (∀ o, w8.heap.size ≤ (wx.alloc o).heap.size) := fun o => Nat.le_trans BX.out.size (al_W wx o).size
                          clear bx
                          go_wp2_with (at_builtin; (refine wpA _ rfl (.tmp 117) (.tmp 119) rfl w8.heap.size u18 (endW W l q).length (ints (endW W l q)) rfl (EO.out _) (some ⟨wx.heap.size, 0, none⟩) [(q : Int)] 1 1 rfl rfl (ints_new _ _ 3 _ rfl) (by omega) (HZ.out _) ?_))
                          intro nv yy hr hg hat
                          have BY : Hid _ := grown_lo OX.out BX.out BX.out.size hg
                          have OY : Hid _ := HNX.out _ _ _ hr
                          clear hr hg hat
                          go_wp2
                          go_roundw
                          case rel => exact ⟨q + 1, by omega, by go_num, OY.out, BY.out.1⟩
                          case measure => simp [intOf]; omega
                        · have hd := endsB_no he
                          rw [hd] at HEN
                          have HNX : Hid (endW W l (q + 1) = endW W l q) := endW_no he
                          clear he hd
                          go_wp2_with fail
                          refine Calls.mono HEN.out ?_
                          rintro e wx ⟨rfl, bx⟩
                          have BX : Hid (Below w8.heap.size w8 wx) := BQ.out.trans (bx.mono BQ.out.size)
                          have OX : Hid (wx.ownsRow w8.heap.size 3 1 u18 (endW W l q).length (ints (endW W l q))) := World.ownsRow.keepB HO.out bx
                          clear bx
                          go_wp2
                          go_roundw
                          case rel => exact ⟨q + 1, by omega, by go_num, by rw [HNX.out]; exact OX.out, BX.out⟩
                          case measure => simp [intOf]; omega
                      · obtain rfl : q = W.length := by omega
                        have hlqI : ¬ (W.length : Int) < (W.length : Int) := by omega
                        obtain ⟨w9, hw9⟩ : ∃ w9, w9 = wr := ⟨_, rfl⟩
                        subst hw9
                        have B59 : Hid (Below w5.heap.size w5 w9) := BM5.out.trans (BQ.out.mono BM5.out.size)
                        have hou := HO.out
                        rw [HEE.out] at hou
                        obtain ⟨ea, ec, rfl⟩ := own_form' hou
                        obtain ⟨en, hen⟩ : ∃ en, en = (gE W m).length := ⟨_, rfl⟩
                        have hul : ∀ g, (Value.slice ea (gE W m).length ec).ownBlock = some g → w8.heap.size ≤ g := fun g e => (World.ownsRow.lt hou g e).1
                        have h58 := BM5.out.size
                        have KX0 : AhoU w9 w3.heap.size w3.heap.size w3.heap.size v0 v1 v2 v3 Qr (mapN (fun j => (sq (stQ W) j).f) m) (mapN (fun j => (sq (stQ W) j).b) m) (mapN (fun j => (sq (stQ W) j).q) m) (gE W) (.slice ea (gE W m).length ec) (gE W m) := by
                          refine ⟨VV.out.keepB B59.out, own_mono hou (by have := BM3.out.size; omega), ⟨?_, ?_, ?_⟩, fun j hj => ?_⟩
                          · exact aprt_lt (fun g e => (World.ownsRow.lt VV.out.p g e).2) (fun g e => by have := hul g e; omega)
                          · exact aprt_lt (fun g e => (World.ownsRow.lt VV.out.b g e).2) (fun g e => by have := hul g e; omega)
                          · exact aprt_lt (fun g e => (World.ownsRow.lt VV.out.f_ g e).2) (fun g e => by have := hul g e; omega)
                          · have h1 : aprt (vd Qr j) (.slice ea (gE W m).length ec) := aprt_lt (fun g e => (World.ownsRow.lt (VV.out.rows j hj) g e).2) (fun g e => by have := hul g e; omega)
                            exact ⟨h1, ne_sym h1⟩
                        rw [← hen] at KX0
                        have KX : Hid (AhoU w9 w3.heap.size w3.heap.size w3.heap.size v0 v1 v2 v3 Qr (mapN (fun j => (sq (stQ W) j).f) m) (mapN (fun j => (sq (stQ W) j).b) m) (mapN (fun j => (sq (stQ W) j).q) m) (gE W) (.slice ea en ec) (gE W m)) := KX0
                        have BLX : Hid (Below w3.heap.size w3 w9 ∧ w3.heap.size ≤ w9.heap.size) := ⟨BQ3.out, BQ3.out.size⟩
                        rw [← hen]
                        have cx0 := cell_of KX.out.v.blk 0
                        simp only [List.getElem?_toArray, List.getElem?_cons_zero] at cx0
                        have HXX := HX.out
                        clear hou hul h58 KX0 hen hx3 BM5 BM3 BQ BQ0 BQ3 HO B59 HEE HX3 HX
                        have hm100 : m ≤ 100 := by omega
                        have EO0 : Hid (∀ o, (w9.alloc o).ownsRow w3.heap.size 3 1 v0 m (ints (mapN (fun j => (sq (stQ W) j).f) m))) := fun o => by
                          have := World.ownsRow.keepB KX.out.v.p (al_W w9 o)
                          rwa [mapN_len] at this
                        have HZ0 : Hid (∀ o, w3.heap.size ≤ (w9.alloc o).heap.size) := fun o => Nat.le_trans BLX.out.2 (al_W _ o).size
                        go_wp2_with (at_builtin; (refine wpA _ rfl (.tmp 123) (.tmp 125) rfl w3.heap.size v0 m (ints (mapN (fun j => (sq (stQ W) j).f) m)) rfl (EO0.out _) (some ⟨w9.heap.size, 0, none⟩) [x0] 1 1 rfl rfl (ints_new _ _ 3 _ (by simp)) (by omega) (HZ0.out _) ?_))
                        intro nv y0 hr hg hat
                        obtain ⟨b0, m0, rfl⟩ := own_form' hr
                        have hK := AhoU.push0 (KX.out.keepB (al_W _ _)) x0 (by rw [mapN_len]; exact hr) hg (hat.imp id fun h => h.trans (by simp))
                        have blk0 := hK.1
                        have BL0 : Hid _ := set_lo (i := 0) (grown_lo KX.out.v.p BLX.out.1 BLX.out.2 hg) (Nat.le_refl _) (.slice b0 (m + 1) m0)
                        have K0 : Hid _ := hK.2
                        have c0a := cell_of blk0 0
                        have f0a := frozen_of_row y0 w3.heap.size 0 _ _ blk0
                        simp only [List.getElem?_toArray, List.getElem?_cons_zero] at c0a
                        have c0b := cell_of K0.out.v.blk 1
                        simp only [List.getElem?_toArray, List.getElem?_cons_zero, List.getElem?_cons_succ] at c0b
                        clear hr hg hat hK blk0 EO0 HZ0
                        have EO1 : Hid (∀ o, ((y0.setCell ⟨w3.heap.size, 0, none⟩ (.slice b0 (m + 1) m0)).alloc o).ownsRow w3.heap.size 3 1 v1 m (ints (mapN (fun j => (sq (stQ W) j).b) m))) := fun o => by
                          have := World.ownsRow.keepB K0.out.v.b (al_W (y0.setCell ⟨w3.heap.size, 0, none⟩ (.slice b0 (m + 1) m0)) o)
                          rwa [mapN_len] at this
                        have HZ1 : Hid (∀ o, w3.heap.size ≤ ((y0.setCell ⟨w3.heap.size, 0, none⟩ (.slice b0 (m + 1) m0)).alloc o).heap.size) := fun o => Nat.le_trans BL0.out.2 (al_W _ o).size
                        go_wp2_with (at_builtin; (refine wpA _ rfl (.tmp 129) (.tmp 131) rfl w3.heap.size v1 m (ints (mapN (fun j => (sq (stQ W) j).b) m)) rfl (EO1.out _) (some ⟨y0.heap.size, 0, none⟩) [x1] 1 1 rfl rfl (ints_new _ _ 3 _ (by simp [World.setCell])) (by omega) (HZ1.out _) ?_))
                        intro nv y1 hr hg hat
                        obtain ⟨b1, m1, rfl⟩ := own_form' hr
                        have hK := AhoU.push1 (K0.out.keepB (al_W _ _)) x1 (by rw [mapN_len]; exact hr) hg (hat.imp id fun h => h.trans (by simp [World.setCell]))
                        have blk1 := hK.1
                        have BL1 : Hid _ := set_lo (i := 1) (grown_lo K0.out.v.b BL0.out.1 BL0.out.2 hg) (Nat.le_refl _) (.slice b1 (m + 1) m1)
                        have K1 : Hid _ := hK.2
                        have c1a := cell_of blk1 1
                        have f1a := frozen_of_row y1 w3.heap.size 1 _ _ blk1
                        simp only [List.getElem?_toArray, List.getElem?_cons_zero, List.getElem?_cons_succ] at c1a
                        have c1b := cell_of K1.out.v.blk 2
                        simp only [List.getElem?_toArray, List.getElem?_cons_zero, List.getElem?_cons_succ] at c1b
                        clear hr hg hat hK blk1 EO1 HZ1
                        have EO2 : Hid (∀ o, ((y1.setCell ⟨w3.heap.size, 1, none⟩ (.slice b1 (m + 1) m1)).alloc o).ownsRow w3.heap.size 3 1 v2 m (ints (mapN (fun j => (sq (stQ W) j).q) m))) := fun o => by
                          have := World.ownsRow.keepB K1.out.v.f_ (al_W (y1.setCell ⟨w3.heap.size, 1, none⟩ (.slice b1 (m + 1) m1)) o)
                          rwa [mapN_len] at this
                        have HZ2 : Hid (∀ o, w3.heap.size ≤ ((y1.setCell ⟨w3.heap.size, 1, none⟩ (.slice b1 (m + 1) m1)).alloc o).heap.size) := fun o => Nat.le_trans BL1.out.2 (al_W _ o).size
                        go_wp2_with (at_builtin; (refine wpA _ rfl (.tmp 135) (.tmp 137) rfl w3.heap.size v2 m (ints (mapN (fun j => (sq (stQ W) j).q) m)) rfl (EO2.out _) (some ⟨y1.heap.size, 0, none⟩) [x3] 1 1 rfl rfl (ints_new _ _ 3 _ (by simp [World.setCell])) (by omega) (HZ2.out _) ?_))
                        intro nv y2 hr hg hat
                        obtain ⟨b2, m2, rfl⟩ := own_form' hr
                        have hK := AhoU.push2 (K1.out.keepB (al_W _ _)) x3 (by rw [mapN_len]; exact hr) hg (hat.imp id fun h => h.trans (by simp [World.setCell]))
                        have blk2 := hK.1
                        have BL2 : Hid _ := set_lo (i := 2) (grown_lo K1.out.v.f_ BL1.out.1 BL1.out.2 hg) (Nat.le_refl _) (.slice b2 (m + 1) m2)
                        have K2 : Hid _ := hK.2
                        have c2a := cell_of blk2 2
                        have f2a := frozen_of_row y2 w3.heap.size 2 _ _ blk2
                        simp only [List.getElem?_toArray, List.getElem?_cons_zero, List.getElem?_cons_succ] at c2a
                        have c2b := cell_of K2.out.v.blk 3
                        simp only [List.getElem?_toArray, List.getElem?_cons_zero, List.getElem?_cons_succ] at c2b
                        clear hr hg hat hK blk2 EO2 HZ2
                        have EO3 : Hid (∀ o, ((y2.setCell ⟨w3.heap.size, 2, none⟩ (.slice b2 (m + 1) m2)).alloc o).ownsRow w3.heap.size 26 1 v3 m Qr) := fun o => by
                          have := World.ownsRow.keepB K2.out.v.r (al_W (y2.setCell ⟨w3.heap.size, 2, none⟩ (.slice b2 (m + 1) m2)) o)
                          rwa [HQL.out] at this
                        have HZ3 : Hid (∀ o, w3.heap.size ≤ ((y2.setCell ⟨w3.heap.size, 2, none⟩ (.slice b2 (m + 1) m2)).alloc o).heap.size) := fun o => Nat.le_trans BL2.out.2 (al_W _ o).size
                        go_wp2_with (at_builtin; refine wpRow _ rfl (.tmp 141) (.tmp 143) rfl w3.heap.size v3 m Qr rfl (EO3.out _) y2.heap.size 1 ea en ec rfl (new_cell8 _ _ _ _ (by simp [World.setCell])) (by omega) (HZ3.out _) ?_)
                        intro nv y3 hr hg
                        obtain ⟨b3, m3, rfl⟩ := own_form' hr
                        have hK := AhoU.push3 (K2.out.keepB (al_W _ _)) (by rw [HQL.out]; exact hr) hg
                        have BL3 : Hid _ := set_lo (i := 3) (grown_lo K2.out.v.r BL2.out.1 BL2.out.2 hg) (Nat.le_refl _) (.slice b3 (m + 1) m3)
                        have blk3 := hK.1
                        have c3a := cell_of blk3 3
                        have f3a := frozen_of_row y3 w3.heap.size 3 _ _ blk3
                        simp only [List.getElem?_toArray, List.getElem?_cons_zero, List.getElem?_cons_succ] at c3a
                        have K3 : Hid _ := hK.2
                        clear hr hg hK blk3 EO3 HZ3
                        go_wp2
                        go_roundw
                        case rel => exact ⟨m + 1, _, _, _, _, _, by omega, by go_num, by rw [List.length_append, List.length_singleton, HQL.out], HXX _ _ _ _ _ _ K3.out, BL3.out.1, BL3.out.2⟩
                        case measure => simp [intOf]; omega
            · obtain rfl : k = n := by omega
              have hltI : ¬ (k : Int) < (k : Int) := by omega
              obtain ⟨a0, p0, rfl⟩ := own_form' VV.out.p
              obtain ⟨a1, p1, rfl⟩ := own_form' VV.out.b
              obtain ⟨a2, p2, rfl⟩ := own_form' VV.out.f_
              obtain ⟨a3, p3, rfl⟩ := own_form' VV.out.r
              have hrb5 := (BW.out.1.block w.heap.size hls3).trans HBX3.out
              obtain ⟨w8, hst, hlv, hg8⟩ := box_store hrb5 a0 a1 a2 a3 (mapN (fun j => (sq (stQ W) j).f) k).length (mapN (fun j => (sq (stQ W) j).b) k).length (mapN (fun j => (sq (stQ W) j).q) k).length Qr.length p0 p1 p2 p3
              have hown := ((VV.out.own (Nat.le_refl _)).mono (Nat.le_of_lt hls3)).boxed hrb5 hg8
              have OW : Hid (OwnA w8 w.heap.size (.slice a0 (mapN (fun j => (sq (stQ W) j).f) k).length p0) (.slice a1 (mapN (fun j => (sq (stQ W) j).b) k).length p1) (.slice a2 (mapN (fun j => (sq (stQ W) j).q) k).length p2) (.slice a3 Qr.length p3) (gP W) (gBy W) (gF W) (gN W) (gE W)) := by
                unfold gP gBy gF
                rw [HK.out.2, hsl, ← HQL.out]
                rw [← HQL.out] at hown
                exact hown
              have HST : Hid _ := hst
              have HRV : Hid _ := hlv
              have HG : Hid _ := hg8
              have BF : Hid (Below w.heap.size w w5) := BW3.out.trans (BW.out.1.mono BW3.out.size)
              clear hst hlv hg8 hrb5 hown
              go_wp2_with (first | (refine wpList_load_mid rfl 28 (.tmp 10) rfl w3.heap.size 0 rfl _ _ (box_ra VV.out.blk) Try.underlying28 rfl (by rw [infoAho4]; rfl) ?_) | (refine wpList_store_aho rfl (.tmp 2) (.tmp 147) rfl w.heap.size rfl rfl HST.out ?_))
              exact bodyPost_ret (v := .tuple #[.agg #[.slice a0 (mapN (fun j => (sq (stQ W) j).f) k).length p0, .slice a1 (mapN (fun j => (sq (stQ W) j).b) k).length p1, .slice a2 (mapN (fun j => (sq (stQ W) j).q) k).length p2, .slice a3 Qr.length p3], .bool true]) (by simp [results, Try.results9, asAddr, HRV.out]) rfl ⟨_, _, _, _, by rw [HK.out.1], OW.out, Below.grown BF.out HG.out BF.out.size (fun g e => by have := Option.some.inj e; omega)⟩
end Go.Proofs.Ytdhppigjlldfmaa
namespace Go.Proofs.Ytdhppigjlldfmaa
open Go.ChangeShapes Go.WideShapes Go.ChangeAt Go.WideMaps Go.WideElems Go.RowKit
namespace LawAhoOf
theorem own : ownKnob Try.prog.godebug = none := by kernel_rfl
theorem laidOut : laidOutB Try.prog = true := by kernel_rfl
set_option maxRecDepth 100000 in
set_option maxHeartbeats 8000000 in
theorem core (W : Rw) (f : Bool) (ao : Option Addr) (cap : Nat) (w : World) (hS : szR W ≤ 1048576) (hGS : szA (gP W) (gBy W) (gF W) (gR W) ≤ 1048576) (hA : RowsAt w ao W) (hlm : W.length ≤ maxLen) (hx : ∀ y ∈ W, y.length ≤ maxLen)
    (SP : ∀ (ao : Option Addr) (cap : Nat) (w : World), RowsC w ao W → Calls Try.prog 9 #[.slice ao W.length cap] w fun e w' => ∃ v0 v1 v2 v3, e = .returned (.tuple #[.agg #[v0, v1, v2, v3], .bool f]) ∧ OwnA w' w.heap.size v0 v1 v2 v3 (gP W) (gBy W) (gF W) (gR W).length (rw_ (gR W)) ∧ Below w.heap.size w w')
    (IM : ∀ (ao : Option Addr) (cap : Nat) (w : World), RowsC w ao W → Calls Try.prog 8 #[.slice ao W.length cap] w fun e w' => ∃ v0 v1 v2 v3, e = .returned (.tuple #[.agg #[v0, v1, v2, v3], .bool f]) ∧ OwnA w' w.heap.size v0 v1 v2 v3 (gP W) (gBy W) (gF W) (gR W).length (rw_ (gR W)) ∧ Below w.heap.size w w') :
    Calls Try.prog 4 #[.slice ao W.length cap] w fun r w' => r = .returned (.bool true) ∧ Below w.heap.size w w' := by
  have HA : Hid (RowsAt w ao W) := hA
  have HSP : Hid (∀ (ao : Option Addr) (cap : Nat) (w : World), RowsC w ao W → Calls Try.prog 9 #[.slice ao W.length cap] w fun e w' => ∃ v0 v1 v2 v3, e = .returned (.tuple #[.agg #[v0, v1, v2, v3], .bool f]) ∧ OwnA w' w.heap.size v0 v1 v2 v3 (gP W) (gBy W) (gF W) (gR W).length (rw_ (gR W)) ∧ Below w.heap.size w w') := SP
  have HIM : Hid (∀ (ao : Option Addr) (cap : Nat) (w : World), RowsC w ao W → Calls Try.prog 8 #[.slice ao W.length cap] w fun e w' => ∃ v0 v1 v2 v3, e = .returned (.tuple #[.agg #[v0, v1, v2, v3], .bool f]) ∧ OwnA w' w.heap.size v0 v1 v2 v3 (gP W) (gBy W) (gF W) (gR W).length (rw_ (gR W)) ∧ Below w.heap.size w w') := IM
  have HS : Hid (szR W ≤ 1048576) := hS
  have HGS : Hid (szA (gP W) (gBy W) (gF W) (gR W) ≤ 1048576) := hGS
  have hcx : (szRK W W.length : Int) ≤ 1048576 := by have := szRK_bd W W.length; omega
  have hcg : (cntA (gP W) (gBy W) (gF W) (gR W) : Int) ≤ 1048576 := by
    have := szRK_bd (gR W) (gR W).length
    unfold cntA
    unfold szA at hGS
    omega
  have HSZ : Hid _ := szIntSS_any W ao cap 1048576 w (by omega) (by omega) hlm hx hA
  clear hA hlm hx SP IM hGS
  go_enter Try.func4, Try.ntmps4
  go_wp2_with fail
  refine Calls.mono HSZ.out ?_
  rintro r w1 ⟨hs, b1⟩
  have B1 : Hid (Below w.heap.size w w1) := b1
  obtain rfl : r = .returned (.int .i64 (1048576 - szR W)) := by
    rcases hs with ⟨-, h⟩ | ⟨h, -⟩
    · exact h
    · omega
  have hz : ¬ (1048576 : Int) - (szR W : Int) < 0 := by omega
  clear hs b1 HSZ hS
  generalize szR W = z at hz
  go_wp2_with fail
  refine (toIntSS_any W ao cap _ HS.out (RowsAt.keepB HA.out B1.out)).mono ?_
  rintro r w2 ⟨u2, rfl, o2, b2⟩
  obtain ⟨x2, c2, rfl, i2⟩ := OwnR.rowsC o2
  have I2 : Hid (RowsC w2 x2 W) := i2
  have B2 : Hid (Below w.heap.size w w2) := B1.out.trans (b2.mono B1.out.size)
  clear o2 b2 i2 B1
  go_wp2_with fail
  refine Calls.mono (HSP.out _ _ _ I2.out) ?_
  rintro r w3 ⟨v0, v1, v2, v3, rfl, D3, b3⟩
  obtain ⟨a0, a1, a2, a3, p0, p1, p2, p3, rfl, rfl, rfl, rfl, -, -, -, -⟩ := D3.form
  obtain ⟨QA, q3⟩ := D3.q
  have O3 : Hid (OwnAQ w3 w2.heap.size w3.heap.size (.slice a0 (gP W).length p0) (.slice a1 (gBy W).length p1) (.slice a2 (gF W).length p2) (.slice a3 (gR W).length p3) QA (gP W) (gBy W) (gF W) (gR W).length (rw_ (gR W))) := q3
  have B3 : Hid (Below w.heap.size w w3) := B2.out.trans (b3.mono B2.out.size)
  have AL3 : Hid (∀ o, Below w3.heap.size w3 (w3.alloc o)) := fun o => (Below.refl _ _).alloc (Nat.le_refl _) o
  have HA3 : Hid (∀ o, RowsAt (w3.alloc o) ao W) := fun o => RowsAt.keepB (RowsAt.keepB HA.out B3.out) (AL3.out o)
  clear D3 q3 b3 I2 B2
  go_wp2_with fail
  refine (toIntSS_any W ao cap _ HS.out (HA3.out _)).mono ?_
  rintro r w4 ⟨u4, rfl, o4, b4⟩
  obtain ⟨QX, qx⟩ := o4.qq
  obtain ⟨x4, c4, rfl, i4⟩ := OwnR.rowsC o4
  have I4 : Hid (RowsC w4 x4 W) := i4
  have X4 : Hid (OwnQ w4 (w3.heap.size + 1) w4.heap.size (.slice none 0 0) (.slice x4 W.length c4) (.slice none 0 0) QX [] W.length (rw_ W) []) := by
    have hq := qx
    simp only [World.alloc, Array.size_push] at hq
    exact hq
  have b34 : Below w3.heap.size w3 w4 := (AL3.out _).trans (b4.mono (AL3.out _).size)
  have hk4 : w4.heap[w3.heap.size]? = some (.cells #[.slice a0 (gP W).length p0, .slice a1 (gBy W).length p1, .slice a2 (gF W).length p2, .slice a3 (gR W).length p3] 28) := (b4.block w3.heap.size (by simp)).trans (heap_last2 _ _ _ rfl)
  have O4 : Hid (OwnAQ w4 w2.heap.size w3.heap.size (.slice a0 (gP W).length p0) (.slice a1 (gBy W).length p1) (.slice a2 (gF W).length p2) (.slice a3 (gR W).length p3) QA (gP W) (gBy W) (gF W) (gR W).length (rw_ (gR W))) := O3.out.keepB b34
  have hs4 : w3.heap.size < w4.heap.size := (Array.getElem?_eq_some_iff.1 hk4).1
  have hs03 : w.heap.size ≤ w3.heap.size := B3.out.size
  have B4 : Hid (Below w.heap.size w w4) := B3.out.trans (b34.mono B3.out.size)
  clear qx o4 i4 b4 b34 O3 B3 AL3 HA3
  go_wp2_with fail
  refine Calls.mono (HIM.out _ _ _ I4.out) ?_
  rintro r w5 ⟨v0, v1, v2, v3, rfl, D5, b5⟩
  obtain ⟨g0, g1, g2, g3, r0, r1, r2, r3, rfl, rfl, rfl, rfl, -, -, -, -⟩ := D5.form
  obtain ⟨QG, q5⟩ := D5.q
  have AL5 : ∀ o, Below w5.heap.size w5 (w5.alloc o) := fun o => (Below.refl _ _).alloc (Nat.le_refl _) o
  have hs5 : w4.heap.size ≤ w5.heap.size := b5.size
  have hne : ¬ w3.heap.size = w5.heap.size := by omega
  have hne' : ¬ w5.heap.size = w3.heap.size := by omega
  have hb5 := b5.trans (AL5 (.cells #[.slice g0 (gP W).length r0, .slice g1 (gBy W).length r1, .slice g2 (gF W).length r2, .slice g3 (gR W).length r3] 28) |>.mono b5.size)
  have K5 : Hid (AoSt (w5.alloc (.cells #[.slice g0 (gP W).length r0, .slice g1 (gBy W).length r1, .slice g2 (gF W).length r2, .slice g3 (gR W).length r3] 28)) w w3.heap.size (.cells #[.slice a0 (gP W).length p0, .slice a1 (gBy W).length p1, .slice a2 (gF W).length p2, .slice a3 (gR W).length p3] 28) w5.heap.size (.cells #[.slice g0 (gP W).length r0, .slice g1 (gBy W).length r1, .slice g2 (gF W).length r2, .slice g3 (gR W).length r3] 28) w2.heap.size (.slice a0 (gP W).length p0) (.slice a1 (gBy W).length p1) (.slice a2 (gF W).length p2) (.slice a3 (gR W).length p3) QA w4.heap.size (.slice x4 W.length c4) QX W (.slice g0 (gP W).length r0) (.slice g1 (gBy W).length r1) (.slice g2 (gF W).length r2) (.slice g3 (gR W).length r3) QG (gP W) (gBy W) (gF W) (gR W)) := ⟨(hb5.block _ hs4).trans hk4, heap_last2 _ _ _ rfl, O4.out.keepB hb5, X4.out.keepB hb5, q5.keepB (AL5 _), B4.out.trans (hb5.mono B4.out.size)⟩
  clear D5 q5 b5 hb5 AL5 hk4 O4 X4 I4 B4
  have e40 : (w5.alloc (.cells #[.slice g0 (gP W).length r0, .slice g1 (gBy W).length r1, .slice g2 (gF W).length r2, .slice g3 (gR W).length r3] 28)).cell? ⟨w3.heap.size, 0, none⟩ = some (.slice a0 (gP W).length p0) := cell_of K5.out.k4 0
  have e41 : (w5.alloc (.cells #[.slice g0 (gP W).length r0, .slice g1 (gBy W).length r1, .slice g2 (gF W).length r2, .slice g3 (gR W).length r3] 28)).cell? ⟨w3.heap.size, 1, none⟩ = some (.slice a1 (gBy W).length p1) := cell_of K5.out.k4 1
  have e42 : (w5.alloc (.cells #[.slice g0 (gP W).length r0, .slice g1 (gBy W).length r1, .slice g2 (gF W).length r2, .slice g3 (gR W).length r3] 28)).cell? ⟨w3.heap.size, 2, none⟩ = some (.slice a2 (gF W).length p2) := cell_of K5.out.k4 2
  have e43 : (w5.alloc (.cells #[.slice g0 (gP W).length r0, .slice g1 (gBy W).length r1, .slice g2 (gF W).length r2, .slice g3 (gR W).length r3] 28)).cell? ⟨w3.heap.size, 3, none⟩ = some (.slice a3 (gR W).length p3) := cell_of K5.out.k4 3
  go_wp2_with fail
  refine (eqAho_any (gP W) (gBy W) (gF W) (gR W) _ _ _ _ _ _ _ _ _ _ _ _ _ _ _ _ _ HGS.out K5.out.g.at.1 K5.out.g.at.2.1 K5.out.g.at.2.2.1 K5.out.g.at.2.2.2 K5.out.a.at.1 K5.out.a.at.2.1 K5.out.a.at.2.2.1 K5.out.a.at.2.2.2).mono ?_
  rintro r w6 ⟨rfl, b6⟩
  have K6 : Hid (AoSt w6 w w3.heap.size (.cells #[.slice a0 (gP W).length p0, .slice a1 (gBy W).length p1, .slice a2 (gF W).length p2, .slice a3 (gR W).length p3] 28) w5.heap.size (.cells #[.slice g0 (gP W).length r0, .slice g1 (gBy W).length r1, .slice g2 (gF W).length r2, .slice g3 (gR W).length r3] 28) w2.heap.size (.slice a0 (gP W).length p0) (.slice a1 (gBy W).length p1) (.slice a2 (gF W).length p2) (.slice a3 (gR W).length p3) QA w4.heap.size (.slice x4 W.length c4) QX W (.slice g0 (gP W).length r0) (.slice g1 (gBy W).length r1) (.slice g2 (gF W).length r2) (.slice g3 (gR W).length r3) QG (gP W) (gBy W) (gF W) (gR W)) := K5.out.keepB b6
  clear b6 K5
  clear e40 e41 e42 e43
  have bbf : (f == f) = true := by simp
  go_wp2_with fail
  refine (toIntSS_any W ao cap _ HS.out (RowsAt.keepB HA.out K6.out.bel)).mono ?_
  rintro r w7 ⟨u7, rfl, o7, b7⟩
  obtain ⟨x7, c7, rfl, i7⟩ := OwnR.rows o7
  have I7 : Hid (RowsAt w7 x7 W) := i7
  have K7 : Hid (AoSt w7 w w3.heap.size (.cells #[.slice a0 (gP W).length p0, .slice a1 (gBy W).length p1, .slice a2 (gF W).length p2, .slice a3 (gR W).length p3] 28) w5.heap.size (.cells #[.slice g0 (gP W).length r0, .slice g1 (gBy W).length r1, .slice g2 (gF W).length r2, .slice g3 (gR W).length r3] 28) w2.heap.size (.slice a0 (gP W).length p0) (.slice a1 (gBy W).length p1) (.slice a2 (gF W).length p2) (.slice a3 (gR W).length p3) QA w4.heap.size (.slice x4 W.length c4) QX W (.slice g0 (gP W).length r0) (.slice g1 (gBy W).length r1) (.slice g2 (gF W).length r2) (.slice g3 (gR W).length r3) QG (gP W) (gBy W) (gF W) (gR W)) := K6.out.keepB b7
  clear o7 i7 b7 K6
  go_wp2_with fail
  refine (eqIntSS_any W _ _ _ _ _ HS.out (OwnQ.rowsC K7.out.x_).at I7.out).mono ?_
  rintro r w8 ⟨rfl, b8⟩
  have K8 : Hid (AoSt w8 w w3.heap.size (.cells #[.slice a0 (gP W).length p0, .slice a1 (gBy W).length p1, .slice a2 (gF W).length p2, .slice a3 (gR W).length p3] 28) w5.heap.size (.cells #[.slice g0 (gP W).length r0, .slice g1 (gBy W).length r1, .slice g2 (gF W).length r2, .slice g3 (gR W).length r3] 28) w2.heap.size (.slice a0 (gP W).length p0) (.slice a1 (gBy W).length p1) (.slice a2 (gF W).length p2) (.slice a3 (gR W).length p3) QA w4.heap.size (.slice x4 W.length c4) QX W (.slice g0 (gP W).length r0) (.slice g1 (gBy W).length r1) (.slice g2 (gF W).length r2) (.slice g3 (gR W).length r3) QG (gP W) (gBy W) (gF W) (gR W)) := K7.out.keepB b8
  clear b8 K7 I7
  go_wp2_with fail
  refine (markSS_any 1 (by omega) (by omega) W _ _ _ QX [] [] (w3.heap.size + 1) w4.heap.size _ HS.out (Nat.le_trans hs4 (Nat.le_trans hs5 (Nat.le_of_lt (Array.getElem?_eq_some_iff.1 K8.out.k7).1))) K8.out.x_).mono ?_
  rintro r w9 ⟨rfl, -, m9⟩
  have K9 : Hid (AoSt2 w9 w w3.heap.size (.cells #[.slice a0 (gP W).length p0, .slice a1 (gBy W).length p1, .slice a2 (gF W).length p2, .slice a3 (gR W).length p3] 28) w5.heap.size (.cells #[.slice g0 (gP W).length r0, .slice g1 (gBy W).length r1, .slice g2 (gF W).length r2, .slice g3 (gR W).length r3] 28) w2.heap.size (.slice a0 (gP W).length p0) (.slice a1 (gBy W).length p1) (.slice a2 (gF W).length p2) (.slice a3 (gR W).length p3) QA w4.heap.size (.slice g0 (gP W).length r0) (.slice g1 (gBy W).length r1) (.slice g2 (gF W).length r2) (.slice g3 (gR W).length r3) QG (gP W) (gBy W) (gF W) (gR W)) := K8.out.mid m9 hs5 (by omega)
  have hzk : ¬ (1 : Int) + (szRK W W.length : Int) < 0 := by omega
  generalize szRK W W.length = kz at hzk hcx
  clear m9 K8
  have e40 : w9.cell? ⟨w3.heap.size, 0, none⟩ = some (.slice a0 (gP W).length p0) := cell_of K9.out.k4 0
  have e41 : w9.cell? ⟨w3.heap.size, 1, none⟩ = some (.slice a1 (gBy W).length p1) := cell_of K9.out.k4 1
  have e42 : w9.cell? ⟨w3.heap.size, 2, none⟩ = some (.slice a2 (gF W).length p2) := cell_of K9.out.k4 2
  have e43 : w9.cell? ⟨w3.heap.size, 3, none⟩ = some (.slice a3 (gR W).length p3) := cell_of K9.out.k4 3
  have e70 : w9.cell? ⟨w5.heap.size, 0, none⟩ = some (.slice g0 (gP W).length r0) := cell_of K9.out.k7 0
  have e71 : w9.cell? ⟨w5.heap.size, 1, none⟩ = some (.slice g1 (gBy W).length r1) := cell_of K9.out.k7 1
  have e72 : w9.cell? ⟨w5.heap.size, 2, none⟩ = some (.slice g2 (gF W).length r2) := cell_of K9.out.k7 2
  have e73 : w9.cell? ⟨w5.heap.size, 3, none⟩ = some (.slice g3 (gR W).length r3) := cell_of K9.out.k7 3
  go_wp2_with fail
  refine (eqAho_any (gP W) (gBy W) (gF W) (gR W) _ _ _ _ _ _ _ _ _ _ _ _ _ _ _ _ _ HGS.out K9.out.g.at.1 K9.out.g.at.2.1 K9.out.g.at.2.2.1 K9.out.g.at.2.2.2 K9.out.a.at.1 K9.out.a.at.2.1 K9.out.a.at.2.2.1 K9.out.a.at.2.2.2).mono ?_
  rintro r w10 ⟨rfl, b10⟩
  have K10 : Hid (AoSt2 w10 w w3.heap.size (.cells #[.slice a0 (gP W).length p0, .slice a1 (gBy W).length p1, .slice a2 (gF W).length p2, .slice a3 (gR W).length p3] 28) w5.heap.size (.cells #[.slice g0 (gP W).length r0, .slice g1 (gBy W).length r1, .slice g2 (gF W).length r2, .slice g3 (gR W).length r3] 28) w2.heap.size (.slice a0 (gP W).length p0) (.slice a1 (gBy W).length p1) (.slice a2 (gF W).length p2) (.slice a3 (gR W).length p3) QA w4.heap.size (.slice g0 (gP W).length r0) (.slice g1 (gBy W).length r1) (.slice g2 (gF W).length r2) (.slice g3 (gR W).length r3) QG (gP W) (gBy W) (gF W) (gR W)) := K9.out.keepB b10
  clear b10 K9
  clear e40 e41 e42 e43 e70 e71 e72 e73
  have e70 : w10.cell? ⟨w5.heap.size, 0, none⟩ = some (.slice g0 (gP W).length r0) := cell_of K10.out.k7 0
  have e71 : w10.cell? ⟨w5.heap.size, 1, none⟩ = some (.slice g1 (gBy W).length r1) := cell_of K10.out.k7 1
  have e72 : w10.cell? ⟨w5.heap.size, 2, none⟩ = some (.slice g2 (gF W).length r2) := cell_of K10.out.k7 2
  have e73 : w10.cell? ⟨w5.heap.size, 3, none⟩ = some (.slice g3 (gR W).length r3) := cell_of K10.out.k7 3
  go_wp2_with fail
  refine (markA_any (gP W) (gBy W) (gF W) (gR W) _ _ _ _ QG w4.heap.size w5.heap.size _ HGS.out (Nat.le_trans hs5 (Nat.le_of_lt (Array.getElem?_eq_some_iff.1 K10.out.k7).1)) K10.out.g).mono ?_
  rintro r w11 ⟨hr11, o11, m11⟩
  have K11 : Hid (AoSt3 w11 w w3.heap.size (.cells #[.slice a0 (gP W).length p0, .slice a1 (gBy W).length p1, .slice a2 (gF W).length p2, .slice a3 (gR W).length p3] 28) w5.heap.size (.cells #[.slice g0 (gP W).length r0, .slice g1 (gBy W).length r1, .slice g2 (gF W).length r2, .slice g3 (gR W).length r3] 28) w2.heap.size (.slice a0 (gP W).length p0) (.slice a1 (gBy W).length p1) (.slice a2 (gF W).length p2) (.slice a3 (gR W).length p3) QA g0 g1 g2 g3 (gP W) (gBy W) (gF W) (gR W)) := K10.out.mid m11 o11 hs4 (by omega)
  obtain ⟨qq, hq⟩ : ∃ qq : Int, qq = (1 : Int) + cntA (gP W) (gBy W) (gF W) (gR W) := ⟨_, rfl⟩
  have hzq : ¬ qq < 0 := by omega
  have HQ : Hid (qq = (1 : Int) + cntA (gP W) (gBy W) (gF W) (gR W)) := hq
  rw [← hq] at hr11
  subst hr11
  clear hq m11 o11 K10 hcg
  clear e70 e71 e72 e73
  have e70 : w11.cell? ⟨w5.heap.size, 0, none⟩ = some (.slice g0 (gP W).length r0) := cell_of K11.out.k7 0
  have e71 : w11.cell? ⟨w5.heap.size, 1, none⟩ = some (.slice g1 (gBy W).length r1) := cell_of K11.out.k7 1
  have e72 : w11.cell? ⟨w5.heap.size, 2, none⟩ = some (.slice g2 (gF W).length r2) := cell_of K11.out.k7 2
  have e73 : w11.cell? ⟨w5.heap.size, 3, none⟩ = some (.slice g3 (gR W).length r3) := cell_of K11.out.k7 3
  go_wp2_with fail
  refine (heldA_any (gP W) (gBy W) (gF W) (gR W) _ _ _ _ _ _ _ _ _ HGS.out K11.out.g).mono ?_
  rintro r w12 ⟨hr12, b12⟩
  rw [← HQ.out] at hr12
  subst hr12
  have K12 : Hid (AoSt3 w12 w w3.heap.size (.cells #[.slice a0 (gP W).length p0, .slice a1 (gBy W).length p1, .slice a2 (gF W).length p2, .slice a3 (gR W).length p3] 28) w5.heap.size (.cells #[.slice g0 (gP W).length r0, .slice g1 (gBy W).length r1, .slice g2 (gF W).length r2, .slice g3 (gR W).length r3] 28) w2.heap.size (.slice a0 (gP W).length p0) (.slice a1 (gBy W).length p1) (.slice a2 (gF W).length p2) (.slice a3 (gR W).length p3) QA g0 g1 g2 g3 (gP W) (gBy W) (gF W) (gR W)) := K11.out.keepB b12
  clear b12 K11
  clear e70 e71 e72 e73
  go_wp2_with fail
  refine (toIntSS_any W ao cap _ HS.out (RowsAt.keepB HA.out K12.out.bel)).mono ?_
  rintro r w13 ⟨u13, rfl, o13, b13⟩
  obtain ⟨x13, c13, rfl, i13⟩ := OwnR.rowsC o13
  have I13 : Hid (RowsC w13 x13 W) := i13
  have K13 : Hid (AoSt3 w13 w w3.heap.size (.cells #[.slice a0 (gP W).length p0, .slice a1 (gBy W).length p1, .slice a2 (gF W).length p2, .slice a3 (gR W).length p3] 28) w5.heap.size (.cells #[.slice g0 (gP W).length r0, .slice g1 (gBy W).length r1, .slice g2 (gF W).length r2, .slice g3 (gR W).length r3] 28) w2.heap.size (.slice a0 (gP W).length p0) (.slice a1 (gBy W).length p1) (.slice a2 (gF W).length p2) (.slice a3 (gR W).length p3) QA g0 g1 g2 g3 (gP W) (gBy W) (gF W) (gR W)) := K12.out.keepB b13
  clear o13 i13 b13 K12
  go_wp2_with fail
  refine Calls.mono (HIM.out _ _ _ I13.out) ?_
  rintro r w14 ⟨v0, v1, v2, v3, rfl, D14, b14⟩
  have AL14 : ∀ o, Below w14.heap.size w14 (w14.alloc o) := fun o => (Below.refl _ _).alloc (Nat.le_refl _) o
  obtain ⟨n0, n1, n2, n3, s0, s1, s2, s3, rfl, rfl, rfl, rfl, j0, j1, j2, j3⟩ := D14.form
  have J14 : Hid (∀ o, IntsAt (w14.alloc o) n0 (gP W) ∧ IntsAt (w14.alloc o) n1 (gBy W) ∧ IntsAt (w14.alloc o) n2 (gF W) ∧ RowsAt (w14.alloc o) n3 (gR W)) := fun o => ⟨IntsAt.keepB j0 (AL14 o), IntsAt.keepB j1 (AL14 o), IntsAt.keepB j2 (AL14 o), RowsAt.keepB j3 (AL14 o)⟩
  have K14 : Hid (∀ o, AoSt3 (w14.alloc o) w w3.heap.size (.cells #[.slice a0 (gP W).length p0, .slice a1 (gBy W).length p1, .slice a2 (gF W).length p2, .slice a3 (gR W).length p3] 28) w5.heap.size (.cells #[.slice g0 (gP W).length r0, .slice g1 (gBy W).length r1, .slice g2 (gF W).length r2, .slice g3 (gR W).length r3] 28) w2.heap.size (.slice a0 (gP W).length p0) (.slice a1 (gBy W).length p1) (.slice a2 (gF W).length p2) (.slice a3 (gR W).length p3) QA g0 g1 g2 g3 (gP W) (gBy W) (gF W) (gR W)) := fun o => (K13.out.keepB b14).keepB (AL14 o)
  have hs14 : w3.heap.size < w14.heap.size := by have := (Array.getElem?_eq_some_iff.1 (K13.out.keepB b14).k4).1; exact this
  have hne2 : ¬ w3.heap.size = w14.heap.size := by omega
  have hne2' : ¬ w14.heap.size = w3.heap.size := by omega
  have k40 : ∀ o, (w14.alloc o).cell? ⟨w3.heap.size, 0, none⟩ = some (.slice a0 (gP W).length p0) := fun o => cell_of (K14.out o).k4 0
  have k41 : ∀ o, (w14.alloc o).cell? ⟨w3.heap.size, 1, none⟩ = some (.slice a1 (gBy W).length p1) := fun o => cell_of (K14.out o).k4 1
  have k42 : ∀ o, (w14.alloc o).cell? ⟨w3.heap.size, 2, none⟩ = some (.slice a2 (gF W).length p2) := fun o => cell_of (K14.out o).k4 2
  have k43 : ∀ o, (w14.alloc o).cell? ⟨w3.heap.size, 3, none⟩ = some (.slice a3 (gR W).length p3) := fun o => cell_of (K14.out o).k4 3
  clear b14 D14 AL14 j0 j1 j2 j3 K13 I13
  go_wp2_with fail
  refine (eqAho_any (gP W) (gBy W) (gF W) (gR W) _ _ _ _ _ _ _ _ _ _ _ _ _ _ _ _ _ HGS.out (J14.out _).1 (J14.out _).2.1 (J14.out _).2.2.1 (J14.out _).2.2.2 (K14.out _).a.at.1 (K14.out _).a.at.2.1 (K14.out _).a.at.2.2.1 (K14.out _).a.at.2.2.2).mono ?_
  rintro r w15 ⟨rfl, b15⟩
  have K15 : Hid (AoSt3 w15 w w3.heap.size (.cells #[.slice a0 (gP W).length p0, .slice a1 (gBy W).length p1, .slice a2 (gF W).length p2, .slice a3 (gR W).length p3] 28) w5.heap.size (.cells #[.slice g0 (gP W).length r0, .slice g1 (gBy W).length r1, .slice g2 (gF W).length r2, .slice g3 (gR W).length r3] 28) w2.heap.size (.slice a0 (gP W).length p0) (.slice a1 (gBy W).length p1) (.slice a2 (gF W).length p2) (.slice a3 (gR W).length p3) QA g0 g1 g2 g3 (gP W) (gBy W) (gF W) (gR W)) := (K14.out _).keepB b15
  clear b15 K14 J14 k40 k41 k42 k43
  have e70 : w15.cell? ⟨w5.heap.size, 0, none⟩ = some (.slice g0 (gP W).length r0) := cell_of K15.out.k7 0
  have e71 : w15.cell? ⟨w5.heap.size, 1, none⟩ = some (.slice g1 (gBy W).length r1) := cell_of K15.out.k7 1
  have e72 : w15.cell? ⟨w5.heap.size, 2, none⟩ = some (.slice g2 (gF W).length r2) := cell_of K15.out.k7 2
  have e73 : w15.cell? ⟨w5.heap.size, 3, none⟩ = some (.slice g3 (gR W).length r3) := cell_of K15.out.k7 3
  go_wp2_with fail
  refine (heldA_any (gP W) (gBy W) (gF W) (gR W) _ _ _ _ _ _ _ _ _ HGS.out K15.out.g).mono ?_
  rintro r w16 ⟨hr16, b16⟩
  rw [← HQ.out] at hr16
  subst hr16
  have K16 : Hid (AoSt3 w16 w w3.heap.size (.cells #[.slice a0 (gP W).length p0, .slice a1 (gBy W).length p1, .slice a2 (gF W).length p2, .slice a3 (gR W).length p3] 28) w5.heap.size (.cells #[.slice g0 (gP W).length r0, .slice g1 (gBy W).length r1, .slice g2 (gF W).length r2, .slice g3 (gR W).length r3] 28) w2.heap.size (.slice a0 (gP W).length p0) (.slice a1 (gBy W).length p1) (.slice a2 (gF W).length p2) (.slice a3 (gR W).length p3) QA g0 g1 g2 g3 (gP W) (gBy W) (gF W) (gR W)) := K15.out.keepB b16
  clear b16 K15
  clear e70 e71 e72 e73
  go_wp2
  go_ret
  exact ⟨rfl, K16.out.bel⟩
set_option maxRecDepth 100000 in
set_option maxHeartbeats 2000000 in
theorem walk (W : Rw) (ao : Option Addr) (cap : Nat) (w : World) (hA : RowsAt w ao W) (hlm : W.length ≤ maxLen) (hx : ∀ y ∈ W, y.length ≤ maxLen) :
    Calls Try.prog 4 #[.slice ao W.length cap] w fun r w' => r = .returned (.bool true) ∧ Below w.heap.size w w' := by
  by_cases hS : szR W ≤ 1048576
  case neg =>
    have HSZ : Hid _ := szIntSS_any W ao cap 1048576 w (by omega) (by omega) hlm hx hA
    clear hA hlm hx
    go_enter Try.func4, Try.ntmps4
    go_wp2_with fail
    refine Calls.mono HSZ.out ?_
    rintro r w1 ⟨hs, b1⟩
    have B1 : Hid (Below w.heap.size w w1) := b1
    obtain rfl : r = .returned (.int .i64 (-1)) := by
      rcases hs with ⟨h, -⟩ | ⟨-, h⟩
      · omega
      · exact h
    clear b1 HSZ hs
    go_wp2
    go_ret
    exact ⟨rfl, B1.out⟩
  have hlW : W.length ≤ 1048576 := by unfold szR at hS; omega
  refine core W (wordsB W) ao cap w hS (g_sz hlW) hA hlm hx (fun ao cap w h => (sahoOf_any W ao cap w hS h).mono ?_) (fun ao cap w h => (iahoOf_any W ao cap w hS h.at).mono ?_)
  · rintro e w' ⟨v0, v1, v2, v3, rfl, h1, h2⟩
    exact ⟨v0, v1, v2, v3, rfl, h1.gR, h2⟩
  · rintro e w' ⟨v0, v1, v2, v3, rfl, h1, h2⟩
    exact ⟨v0, v1, v2, v3, rfl, h1.gR, h2⟩
set_option maxRecDepth 100000 in
theorem lifted (os : Os) (started : os.Started) (H : Type) (enc : TypeId × Value → H) :
    ReturnsInHanded {} Try.checked os 4 .any (Rows.fnExactAhoOfSpec.pre6 enc Try.prog Try.f4 Rows.fnExactAhoOfRow.domain false) (Rows.fnExactAhoOfSpec.post enc Try.prog Try.f4 false true false false) := by
  refine returnsInHanded_of_change (C := Try.checked) own started (by kernel_rfl) Try.func4
    (ChangeSpec.witness6 (enc := enc) (C := Try.checked) false ⟨#[], #[.slice none 0 0], []⟩ 8 (by kernel_rfl) (by kernel_rfl) (by kernel_rfl) (by kernel_rfl)) ?_
  intro W base args ds gs before hval0 hW hcnd _
  have hval : ∀ (j : Nat) t v, Try.f4.params[j]? = some t → args[j]? = some v → Value.okWide Try.prog W .any base t v := hval0
  have hW' := hW
  obtain ⟨p, q, hA0, hV, rfl, hfz, hnd⟩ := hW
  have hA : DataW.TrodAll enc Try.prog W 0 (fun _ => true) true Try.f4.params.toList args.toList ds p := hA0
  rw [Try.params4] at hA hval
  obtain ⟨v0, vs0, d0, ds0, p0, q0, hargs, rfl, rfl, h0, r0⟩ := trodAll_cons hA
  obtain ⟨rfl, rfl, rfl⟩ := trodAll_nil r0
  obtain rfl : args = #[v0] := by cases args; simp_all
  obtain ⟨rfl, rfl⟩ := trodVars_none hV
  have k0 := h0
  have lt0 : ∀ x ∈ p0, x.block < W.heap.size := by obtain ⟨m, hm⟩ := k0; exact DataW.trod_lt m _ _ _ hm
  obtain ⟨ao, len1, cap, rfl⟩ := okWide_slice Try.underlying24 (hval 0 24 v0 rfl rfl)
  obtain ⟨fuel1, hf1⟩ := h0
  obtain ⟨R, hR, hx, ao', cap', he1, iR⟩ := arg_rows hf1
  obtain ⟨rfl, rfl, rfl⟩ : ao = ao' ∧ len1 = R.length ∧ cap = cap' := by simpa using he1
  clear hA0 hval0
  refine (walk R ao cap W iR hR hx).mono fun e W' ⟨he, bel⟩ => ?_
  subst he
  exact ⟨_, rfl, _, _, _, [], _, [], hW', trodAll_mk1 (shut_bool Try.underlying4 _), trodAll_cons_mk (Below.trod laidOut (by kernel_rfl) (of_decide_eq_true (by kernel_rfl)) k0 bel lt0) trodAll_mk0, rfl, bel.frame _, fun h => by cases h⟩
theorem row : Rows.FnExactAhoOfSaid :=
  OpenClaim.holds_of_wide 4 Try.f4 rfl rfl rfl rfl rfl rfl rfl ⟨rfl, rfl, rfl, rfl, rfl⟩ rfl rfl rfl rfl rfl (by kernel_rfl) Try.func4 (by kernel_rfl)
    (of_decide_eq_true (by kernel_rfl)) (by unfold Func.isWrapper; first | (rw [if_pos (by decide +kernel)]; kernel_rfl) | (rw [if_neg (by decide +kernel)]; exact ⟨rfl, rfl⟩))
    (fun os started H enc _ => lifted os started H enc)
end LawAhoOf
theorem ahoOf_holds : Rows.FnExactAhoOfSaid := LawAhoOf.row
#print axioms ahoOf_holds
end Go.Proofs.Ytdhppigjlldfmaa
