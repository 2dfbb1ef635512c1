/-
  The program's reading of a list of nodes, with its tree: treeOf, GoodRe.
-/
import Derived.Test.YtendikiflikobaaT5F2
import Derived.Maps.AppendAt
namespace Go.Proofs.Ytendikiflikobaa
open Go.ChangeShapes Go.WideShapes Go.ChangeAt Go.RowKit
theorem infoPtr : ∃ i, Try.prog.info? 69 = some i ∧ i.zero = some (.pointer none) ∧ i.size = 1 ∧ i.bytes = 8 := by
  have h : (Try.prog.info? 69).map (fun i => (i.zero, i.size, i.bytes)) = some (some (.pointer none), 1, 8) := by kernel_rfl
  cases hi : Try.prog.info? 69 with
  | none => rw [hi] at h; cases h
  | some i =>
    rw [hi] at h
    simp only [Option.map_some, Option.some.injEq, Prod.mk.injEq] at h
    exact ⟨i, rfl, h.1, h.2.1, h.2.2⟩
theorem run_append_ptr (w : World) (base : Nat) (ty : TypeId) (v : Value) (n : Nat) (xs : List Value) (hown : w.ownsRow base 69 1 v n xs) (B cap : Nat) (x : Addr) (hc : w.cell? ⟨B, 0, none⟩ = some (.pointer (some x))) (hlen : n ≤ 100000) (hbase : base ≤ w.heap.size) :
    ∃ v' w', (Builtin.append_ #[105, 105] ty #[v, .slice (some ⟨B, 0, none⟩) 1 cap]).run Try.prog w = .ok v' w' ∧ w'.ownsRow base 69 1 v' (n + 1) (xs ++ [.pointer (some x)]) ∧ w.grownBy w' v.ownBlock ∧ (v'.ownBlock = v.ownBlock ∨ v'.ownBlock = some w.heap.size) := by
  obtain ⟨i0, hi, hz0, hz1, hz2⟩ := infoPtr
  obtain ⟨v', w', h1', h2', h3', -, h5'⟩ := run_append_own_at (P := Try.prog) w base 105 ty 69 i0 (.pointer none) 1 8 Try.underlying105 hi hz0 hz1 hz2 rfl (by decide) v n xs hown ⟨B, 0, none⟩ 1 cap [.pointer (some x)] rfl (fun j u hj => by
    rcases j with _ | j
    · simp at hj; subst hj; simpa [Addr.add] using hc
    · simp at hj) (fun u hu => by simp at hu; subst hu; rfl) (by unfold maxLen; omega) (by omega) hbase
  exact ⟨v', w', h1', h2', h3', h5'⟩
theorem wpP (w : World) {ops : Array Oper} {rest : List Oper} {o : Oper} {a : Act} {Q : Exit → Act → World → Prop} (hgd : o.guard = none) (s x : Operand)
    (ho : o.op = .call { callee := .builtin .append, args := #[s, x], argTypes := #[105, 105] })
    (base : Nat) (v : Value) (n : Nat) (xs : List Value) (hs : a.eval s = v) (hown : w.ownsRow base 69 1 v n xs)
    (B cap : Nat) (y : Addr) (hx : a.eval x = .slice (some ⟨B, 0, none⟩) 1 cap) (hc : w.cell? ⟨B, 0, none⟩ = some (.pointer (some y)))
    (hlen : n ≤ 100000) (hbase : base ≤ w.heap.size)
    (h : ∀ v' w', w'.ownsRow base 69 1 v' (n + 1) (xs ++ [.pointer (some y)]) → w.grownBy w' v.ownBlock → (v'.ownBlock = v.ownBlock ∨ v'.ownBlock = some w.heap.size) → wpList Try.prog ops Q rest (a.put o.dst v') w') :
    wpList Try.prog ops Q (o :: rest) a w := by
  refine wpList_plain hgd fun K hK => ?_
  obtain ⟨v', w', hr, h2, h3, h5⟩ := run_append_ptr w base o.type v n xs hown B cap y hc hlen hbase
  unfold Oper.wp execOp
  simp only [ho, resolve, invoke, builtin, Sem.run_bind, Sem.run_pure, Result.andThen_ok, List.map_toArray, List.map_cons, List.map_nil, hs, hx, hr]
  exact hK _ _ (h v' w' h2 h3 h5)
theorem pileT_new (w : World) : PileT (w.alloc (.cells #[.slice none 0 0] 105)) w.heap.size (w.heap.size + 1) [] :=
  ⟨⟨none, 0, [], rfl, by simp, World.ownsRow_nil _ _ _ _, (fun j t hj => by simp at hj), (fun g hg => by simp [Value.ownBlock] at hg)⟩, by simp, Nat.lt_succ_self _, by simp⟩
/-- What treeOf answers. -/
def TreeE (P : List Nd) (w w' : World) (e : Ending) : Prop :=
  (goodP P = true ∧ ∃ t x, pileT P P.length = some [t] ∧ e = .returned (.tuple #[.pointer (some ⟨x, 0, none⟩), .bool true]) ∧ TreeAt w.heap.size w'.heap.size w' (some t) (some ⟨x, 0, none⟩) ∧ Below w.heap.size w w') ∨
  (goodP P = false ∧ ∃ p, e = .returned (.tuple #[p, .bool false]) ∧ Below w.heap.size w w')
/-- The argument's sets lie below. -/
theorem ints_below {B : Nat} {w w' : World} {sa : Option Addr} {s : List Int} (h : IntsAt w sa s) (hB : w.heap.size = B) (hb : Below B w w') : IntsB B w' sa s := by
  subst hB
  refine ⟨IntsAt.keepB h hb, fun j hj => ?_⟩
  obtain ⟨b, off, h1, h2, -⟩ := h j hj
  exact ⟨b, off, h1, h2⟩
set_option maxRecDepth 100000 in
set_option maxHeartbeats 4000000 in
theorem treeT_any (P : List Nd) (ao : Option Addr) (cap : Nat) (w : World) (hl : szP P ≤ 1048576) (hA : ResAt w ao P) :
    Calls Try.prog 46 #[.slice ao P.length cap] w fun e w' => TreeE P w w' e := by
  have HA : Hid _ := hA
  have HL : Hid _ := hl
  clear hA hl
  by_cases h40 : P.length ≤ 40
  · have h40I : ¬ (40 : Int) < (P.length : Int) := by omega
    have HGO : Hid (goodP P = oneP P) := by show goodP P = oneP P; simp [goodP, h40]
    go_enter Try.func46, Try.ntmps46
    go_wp2
    go_loopw [14] (fun i wr => ∃ (k : Nat) (ts : List Tr) (U : Nat), k ≤ P.length ∧ i = .int .i64 k ∧ pileT P k = some ts ∧ PileT wr w.heap.size U ts ∧ Below w.heap.size w wr) (fun i _ => P.length - (intOf i).toNat)
    case atStart => exact ⟨0, [], _, Nat.zero_le _, rfl, rfl, pileT_new w, (Below.refl _ _).alloc (Nat.le_refl _) _⟩
    case round =>
      obtain ⟨k, ts, U, hk, rfl, hp, hpl, hbw⟩ := hrel
      have HP : Hid _ := hp
      have HPL : Hid _ := hpl
      have hmk := pileT_bd hp
      have hm40 : ts.length ≤ 40 := by omega
      have BW0 : Hid _ := hbw
      have hwr : w.heap.size < wr.heap.size := Nat.lt_of_lt_of_le hpl.lt hpl.le
      clear hp hpl hbw
      by_cases hlt : k < P.length
      · have hltI : (k : Int) < (P.length : Int) := by omega
        obtain ⟨b1, o1, sa, sc, rfl, l1, h0, h1, iS⟩ := HA.out k hlt
        have hls : (nd P k).2.length ≤ 1048576 := Nat.le_trans (nd_len P k hlt) HL.out
        have g0 : wr.cell? ⟨b1, o1 + k * 2, none⟩ = some (.int .i64 (nd P k).1) := (BW0.out.cell (p := ⟨b1, o1 + k * 2, none⟩) l1).trans h0
        have g1 : wr.cell? ⟨b1, o1 + k * 2 + 1, none⟩ = some (.slice sa (nd P k).2.length sc) := (BW0.out.cell (p := ⟨b1, o1 + k * 2 + 1, none⟩) l1).trans h1
        have AL : ∀ o, Below wr.heap.size wr (wr.alloc o) := fun o => (Below.refl _ _).alloc (Nat.le_refl _) o
        have IS : Hid (∀ o, IntsB w.heap.size (wr.alloc o) sa (nd P k).2) := fun o => ints_below iS rfl (BW0.out.trans ((AL o).mono BW0.out.size))
        clear h0 h1 iS
        go_wp2_with fail
        refine (nodeT_any (nd P k) sa sc w.heap.size U ts _ (by omega) hls (IS.out _) (HPL.out.below (AL _))).mono ?_
        rintro e w2 hE
        rcases hE with ⟨t, r, hst, y, U', rfl, p2, tt, g2⟩ | ⟨hno, p, rfl, g2⟩
        · have HS : Hid _ := pileT_yes HP.out hst
          have hr40 : (t :: r).length ≤ k + 1 := pileT_bd HS.out
          have hr40' : r.length ≤ 40 := by simp at hr40; omega
          have P2 : Hid _ := p2
          have T2 : Hid _ := tt
          have B2 : Hid (Below w.heap.size w w2) := Below.grown (BW0.out.trans ((AL _).mono BW0.out.size)) g2 (by simp; omega) (fun g e => by have := Option.some.inj e; omega)
          obtain ⟨a, c, xs, hxl, c0, own, hps, hU⟩ := p2.ex
          obtain ⟨n', hn'⟩ : ∃ n', n' = r.length := ⟨_, rfl⟩
          rw [← hn'] at hxl c0 own hU
          have hn40 : n' ≤ 40 := by omega
          have fz := p2.fz
          have OW : Hid _ := own
          have HPS : Hid _ := hps
          have HXL : Hid _ := hxl
          have HN' : Hid _ := hn'
          have hw2 : w.heap.size < w2.heap.size := Nat.lt_of_lt_of_le p2.lt p2.le
          have hne2 : ¬ w.heap.size = w2.heap.size := by omega
          clear g2 p2 tt own hps hU g0 g1 hst hr40 hr40' hxl hn'
          have A2 : ∀ o, Below w2.heap.size w2 (w2.alloc o) := fun o => (Below.refl _ _).alloc (Nat.le_refl _) o
          go_wp2_with (at_builtin; refine wpP _ rfl _ _ rfl (w.heap.size + 1) _ n' (xs.reverse.map ptrV) rfl (World.ownsRow.keepB OW.out (A2 _)) w2.heap.size 1 ⟨y, 0, none⟩ rfl (by simp) ?c1 ?c2 ?_)
          case c1 => omega
          case c2 => simp; omega
          intro v5 w5 hown5 hgrow hob
          have HOW : Hid _ := hown5
          have hs5 : w2.heap.size + 1 ≤ w5.heap.size := Nat.le_trans (by simp) hgrow.size
          have hnr : (Value.slice a n' c).ownBlock ≠ some w.heap.size := by
            rcases own_ne OW.out (Nat.lt_succ_self _) with h | h
            · rw [h]; exact fun h => by cases h
            · exact h
          have blk : w5.heap[w.heap.size]? = (w2.alloc (.cells #[.pointer (some ⟨y, 0, none⟩)] 69)).heap[w.heap.size]? := hgrow.block _ (by simp; omega) (fun e => hnr e.symm)
          have c5 : w5.cell? ⟨w.heap.size, 0, none⟩ = some (.slice a n' c) := (World.cell?_of_block (a := ⟨w.heap.size, 0, none⟩) blk).trans (((A2 _).cell (p := ⟨w.heap.size, 0, none⟩) hw2).trans c0)
          have f5 : w5.frozen? ⟨w.heap.size, 0, none⟩ = false := (World.frozen?_of_block (a := ⟨w.heap.size, 0, none⟩) blk).trans ((World.frozen?_of_block (a := ⟨w.heap.size, 0, none⟩) ((A2 _).block _ hw2)).trans fz)
          have B5 : Hid (Below w.heap.size w w5) := Below.grown (B2.out.trans ((A2 _).mono B2.out.size)) hgrow (by simp; omega) (fun g e => by have := (World.ownsRow.lt OW.out g e).1; omega)
          have HRW : Hid (∀ g, (Value.slice a n' c).ownBlock = some g → g = w.heap.size ∨ (w.heap.size < g ∧ (w2.heap.size ≤ g ∨ ∀ cs, (w2.alloc (.cells #[.pointer (some ⟨y, 0, none⟩)] 69)).heap[g]? ≠ some (.cells cs 108)))) := fun g hg => by
            have h1 := (World.ownsRow.lt OW.out g hg).1
            refine .inr ⟨by omega, .inr fun cs hcs => ?_⟩
            rcases OW.out.2 with ⟨e, -⟩ | ⟨g', cap', cur, e, -, e3, -⟩
            · rw [e] at hg; simp [Value.ownBlock] at hg
            · rw [e] at hg
              simp only [Value.ownBlock, Option.some.injEq] at hg
              subst hg
              rw [heap_prev _ _ _ (lt_of_heap e3), e3] at hcs
              cases hcs
          have TK : Hid (∀ (t : Tr) (x : Nat) (V : Nat), V ≤ w2.heap.size → TreeAt w.heap.size V w2 (some t) (some ⟨x, 0, none⟩) → TreeAt w.heap.size w5.heap.size w5 (some t) (some ⟨x, 0, none⟩)) := fun t x V hV h => by
            have h1 := TreeAt.mono hV _ _ h
            have h2 := TreeAt.keepB h1 (A2 (.cells #[.pointer (some ⟨y, 0, none⟩)] 69))
            exact (TreeAt.grown hgrow HRW.out _ _ h2).top
          obtain ⟨a5, q5, hv5⟩ : ∃ a5 q5, v5 = .slice a5 (n' + 1) q5 := by
            rcases hown5.2 with ⟨-, h⟩ | ⟨g, cap, cur, h, _⟩
            · omega
            · exact ⟨_, _, h⟩
          subst hv5
          have PLE : Hid (U' ≤ w2.heap.size) := P2.out.le
          clear hgrow hob hown5 blk
          go_wp2
          go_roundw
          case rel =>
            have e1 : (t :: r).length = n' + 1 := by rw [HN'.out]; rfl
            have hrow : (y :: xs).reverse.map ptrV = (xs.map ptrV).reverse ++ [.pointer (some ⟨y, 0, none⟩)] := by simp [ptrV]
            have SB : World.grownBy w5 (w5.setCell ⟨w.heap.size, 0, none⟩ (.slice a5 (n' + 1) q5)) (some w.heap.size) := grown_set _ _ _ _
            refine ⟨k + 1, t :: r, w5.heap.size, by omega, by go_num, HS.out, ⟨⟨a5, q5, y :: xs, by simp [HXL.out, e1], by rw [e1]; exact set_same _ _ _ _ _ c5, by rw [e1, hrow]; exact own_set HOW.out (Nat.lt_succ_self _) _ _, fun j u hj => ?_, fun g hg => (World.ownsRow.lt HOW.out g (by rw [e1] at hg; exact hg)).2⟩, by rw [World.frozen?_setCell]; exact f5, by omega, by simp [World.setCell]⟩, Below.grown B5.out (grown_set _ _ _ _) B5.out.size (fun g e => by have := Option.some.inj e; omega)⟩
            rcases j with _ | j
            · simp only [List.getElem?_cons_zero, Option.some.injEq] at hj
              subst hj
              exact ⟨y, rfl, TreeAt.grown SB (fun g e => .inl (Option.some.inj e).symm) _ _ (TK.out _ _ _ (Nat.le_refl _) T2.out)⟩
            · obtain ⟨x, hx, ht⟩ := HPS.out j u (by simpa using hj)
              exact ⟨x, by simpa using hx, TreeAt.grown SB (fun g e => .inl (Option.some.inj e).symm) _ _ (TK.out _ _ _ PLE.out ht)⟩
          case measure => simp [intOf]; omega
        · have HF : Hid (goodP P = false) := by
            show goodP P = false
            rw [HGO.out]
            cases h : oneP P with
            | false => rfl
            | true =>
              obtain ⟨t, ht⟩ := (oneP_tree P).1 h
              rw [pileT_no hlt HP.out hno] at ht
              cases ht
          have B2 : Hid (Below w.heap.size w w2) := Below.grown (BW0.out.trans ((AL _).mono BW0.out.size)) g2 (by simp; omega) (fun g e => by have := Option.some.inj e; omega)
          clear g2 g0 g1 hno
          go_wp2
          go_ret2
          exact .inr ⟨HF.out, _, rfl, B2.out⟩
      · obtain rfl : k = P.length := by omega
        obtain ⟨a, c, xs, hxl, c0, own, hps, hU⟩ := HPL.out.ex
        by_cases h1 : ∃ t, ts = [t]
        · obtain ⟨t, rfl⟩ := h1
          have HF : Hid (goodP P = true) := by show goodP P = true; rw [HGO.out]; exact (oneP_tree P).2 ⟨t, HP.out⟩
          rcases xs with _ | ⟨x, _ | ⟨x', xs⟩⟩
          · simp at hxl
          · obtain ⟨x1, hx1, ht⟩ := hps 0 t rfl
            simp only [List.getElem?_cons_zero, Option.some.injEq] at hx1
            subst hx1
            have TT : Hid _ := ht.top
            simp only [List.length_singleton] at c0 own
            rcases own.2 with ⟨-, h⟩ | ⟨g, cap', cur, h, h3⟩
            · omega
            simp only [Value.slice.injEq] at h
            obtain ⟨rfl, -, rfl⟩ := h
            have hcell := own.cellAt 0 (by omega)
            simp only [List.reverse_singleton, List.map_cons, List.map_nil, List.getElem?_cons_zero, ptrV] at hcell
            clear own hps hU h3 hxl ht
            go_wp2
            go_ret2
            exact .inl ⟨HF.out, t, _, HP.out, rfl, TT.out, BW0.out⟩
          · simp at hxl
        · have hl1 : ts.length ≠ 1 := fun e => h1 (by
            rcases ts with _ | ⟨t, _ | ⟨u, r⟩⟩
            · simp at e
            · exact ⟨t, rfl⟩
            · simp at e)
          have HF : Hid (goodP P = false) := by
            show goodP P = false
            rw [HGO.out]
            cases h : oneP P with
            | false => rfl
            | true =>
              obtain ⟨t, ht⟩ := (oneP_tree P).1 h
              rw [HP.out] at ht
              exact absurd ⟨t, Option.some.inj ht⟩ h1
          have h1I : ¬ (ts.length : Int) = 1 := by omega
          clear own hps hU
          go_wp2
          go_ret2
          exact .inr ⟨HF.out, _, rfl, BW0.out⟩
  · have h40I : (40 : Int) < (P.length : Int) := by omega
    have HF : Hid (goodP P = false) := by show goodP P = false; simp [goodP, h40]
    go_enter Try.func46, Try.ntmps46
    go_wp2
    go_ret2
    exact .inr ⟨HF.out, _, rfl, Below.refl _ _⟩
end Go.Proofs.Ytendikiflikobaa
