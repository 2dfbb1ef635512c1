/-
  The program's reading of a list of nodes: treeOf, GoodRe.
-/
import Derived.Test.YtpbkmlheepmbdaaR5F2
import Derived.Maps.AppendAt
namespace Go.Proofs.Ytpbkmlheepmbdaa
open Go.ChangeShapes Go.WideShapes Go.ChangeAt Go.RowKit
theorem infoPtr : ∃ i, Try.prog.info? 58 = some i ∧ i.zero = some (.pointer none) ∧ i.size = 1 ∧ i.bytes = 8 := by
  have h : (Try.prog.info? 58).map (fun i => (i.zero, i.size, i.bytes)) = some (some (.pointer none), 1, 8) := by kernel_rfl
  cases hi : Try.prog.info? 58 with
  | none => rw [hi] at h; cases h
  | some i =>
    rw [hi] at h
    simp only [Option.map_some, Option.some.injEq, Prod.mk.injEq] at h
    exact ⟨i, rfl, h.1, h.2.1, h.2.2⟩
theorem run_append_ptr (w : World) (base : Nat) (ty : TypeId) (v : Value) (n : Nat) (xs : List Value) (hown : w.ownsRow base 58 1 v n xs) (B cap : Nat) (x : Addr) (hc : w.cell? ⟨B, 0, none⟩ = some (.pointer (some x))) (hlen : n ≤ 100000) (hbase : base ≤ w.heap.size) :
    ∃ v' w', (Builtin.append_ #[87, 87] ty #[v, .slice (some ⟨B, 0, none⟩) 1 cap]).run Try.prog w = .ok v' w' ∧ w'.ownsRow base 58 1 v' (n + 1) (xs ++ [.pointer (some x)]) ∧ w.grownBy w' v.ownBlock ∧ (v'.ownBlock = v.ownBlock ∨ v'.ownBlock = some w.heap.size) := by
  obtain ⟨i0, hi, hz0, hz1, hz2⟩ := infoPtr
  obtain ⟨v', w', h1', h2', h3', -, h5'⟩ := run_append_own_at (P := Try.prog) w base 87 ty 58 i0 (.pointer none) 1 8 Try.underlying87 hi hz0 hz1 hz2 rfl (by decide) v n xs hown ⟨B, 0, none⟩ 1 cap [.pointer (some x)] rfl (fun j u hj => by
    rcases j with _ | j
    · simp at hj; subst hj; simpa [Addr.add] using hc
    · simp at hj) (fun u hu => by simp at hu; subst hu; rfl) (by unfold maxLen; omega) (by omega) hbase
  exact ⟨v', w', h1', h2', h3', h5'⟩
theorem wpP (w : World) {ops : Array Oper} {rest : List Oper} {o : Oper} {a : Act} {Q : Exit → Act → World → Prop} (hgd : o.guard = none) (s x : Operand)
    (ho : o.op = .call { callee := .builtin .append, args := #[s, x], argTypes := #[87, 87] })
    (base : Nat) (v : Value) (n : Nat) (xs : List Value) (hs : a.eval s = v) (hown : w.ownsRow base 58 1 v n xs)
    (B cap : Nat) (y : Addr) (hx : a.eval x = .slice (some ⟨B, 0, none⟩) 1 cap) (hc : w.cell? ⟨B, 0, none⟩ = some (.pointer (some y)))
    (hlen : n ≤ 100000) (hbase : base ≤ w.heap.size)
    (h : ∀ v' w', w'.ownsRow base 58 1 v' (n + 1) (xs ++ [.pointer (some y)]) → w.grownBy w' v.ownBlock → (v'.ownBlock = v.ownBlock ∨ v'.ownBlock = some w.heap.size) → wpList Try.prog ops Q rest (a.put o.dst v') w') :
    wpList Try.prog ops Q (o :: rest) a w := by
  refine wpList_plain hgd fun K hK => ?_
  obtain ⟨v', w', hr, h2, h3, h5⟩ := run_append_ptr w base o.type v n xs hown B cap y hc hlen hbase
  unfold Oper.wp execOp
  simp only [ho, resolve, invoke, builtin, Sem.run_bind, Sem.run_pure, Result.andThen_ok, List.map_toArray, List.map_cons, List.map_nil, hs, hx, hr]
  exact hK _ _ (h v' w' h2 h3 h5)
theorem pile_new (w : World) : Pile (w.alloc (.cells #[.slice none 0 0] 87)) w.heap.size (w.heap.size + 1) 0 :=
  ⟨⟨none, 0, [], by simp, World.ownsRow_nil _ _ _ _, (fun u hu => by cases hu), (fun g hg => by simp [Value.ownBlock] at hg)⟩, by simp, Nat.lt_succ_self _, by simp⟩
set_option maxRecDepth 100000 in
set_option maxHeartbeats 4000000 in
theorem tree_any (P : List Nd) (ao : Option Addr) (cap : Nat) (w : World) (hl : szP P ≤ 1048576) (hA : ResAt w ao P) :
    Calls Try.prog 47 #[.slice ao P.length cap] w fun e w' => ∃ p, e = .returned (.tuple #[p, .bool (goodP P)]) ∧ Below w.heap.size w w' := by
  have HA : Hid _ := hA
  have HL : Hid _ := hl
  clear hA hl
  by_cases h40 : P.length ≤ 40
  · have h40I : ¬ (40 : Int) < (P.length : Int) := by omega
    have HGO : Hid (goodP P = oneP P) := by show goodP P = oneP P; simp [goodP, h40]
    go_enter Try.func47, Try.ntmps47
    go_wp2
    go_loopw [14] (fun i wr => ∃ (k m U : Nat), k ≤ P.length ∧ i = .int .i64 k ∧ pileK P k = some (m : Int) ∧ Pile wr w.heap.size U m ∧ Below w.heap.size w wr) (fun i _ => P.length - (intOf i).toNat)
    case atStart => exact ⟨0, 0, _, Nat.zero_le _, rfl, rfl, pile_new w, (Below.refl _ _).alloc (Nat.le_refl _) _⟩
    case round =>
      obtain ⟨k, m, U, hk, rfl, hp, hpl, hbw⟩ := hrel
      have HP : Hid _ := hp
      have HPL : Hid _ := hpl
      obtain ⟨-, hmk⟩ := pileK_bd hp
      have hm40 : m ≤ 40 := by omega
      have BW0 : Hid _ := hbw
      have hwr : w.heap.size < wr.heap.size := Nat.lt_of_lt_of_le hpl.lt hpl.le
      clear hp hpl hbw
      by_cases hlt : k < P.length
      · have hltI : (k : Int) < (P.length : Int) := by omega
        obtain ⟨b1, o1, sa, sc, rfl, l1, h0, h1, iS⟩ := HA.out k hlt
        have hls : (nd P k).2.length ≤ 1048576 := Nat.le_trans (nd_len P k hlt) HL.out
        have g0 : wr.cell? ⟨b1, o1 + k * 2, none⟩ = some (.int .i64 (nd P k).1) := (BW0.out.cell (p := ⟨b1, o1 + k * 2, none⟩) l1).trans h0
        have g1 : wr.cell? ⟨b1, o1 + k * 2 + 1, none⟩ = some (.slice sa (nd P k).2.length sc) := (BW0.out.cell (p := ⟨b1, o1 + k * 2 + 1, none⟩) l1).trans h1
        have IS : Hid _ := IntsAt.keepB iS BW0.out
        have AL : ∀ o, Below wr.heap.size wr (wr.alloc o) := fun o => (Below.refl _ _).alloc (Nat.le_refl _) o
        obtain ⟨-, ha2⟩ := arity_bd (nd P k).1
        clear h0 h1 iS
        go_wp2_with fail
        refine (node_any (nd P k) sa sc w.heap.size U m _ (by omega) hls (IntsAt.keepB IS.out (AL _)) (HPL.out.below (AL _))).mono ?_
        rintro e w2 hE
        rcases hE with ⟨n1, n2, y, U', rfl, p2, g2⟩ | ⟨hno, p, rfl, g2⟩
        · have HS : Hid _ := pileK_yes HP.out n1 n2
          have har0 : 0 ≤ arity (nd P k).1 := by
            have := n1
            simp only [nodeB, Bool.and_eq_true, decide_eq_true_eq] at this
            exact this.1.1
          have P2 : Hid _ := p2
          have B2 : Hid (Below w.heap.size w w2) := Below.grown (BW0.out.trans ((AL _).mono BW0.out.size)) g2 (by simp; omega) (fun g e => by have := Option.some.inj e; omega)
          obtain ⟨n', hn'⟩ : ∃ n', m - (arity (nd P k).1).toNat = n' := ⟨_, rfl⟩
          have HN' : Hid ((n' : Int) + 1 = m + 1 - arity (nd P k).1) := by show (n' : Int) + 1 = m + 1 - arity (nd P k).1; omega
          have hn40 : n' ≤ 40 := by omega
          rw [hn'] at p2 P2
          obtain ⟨a, c, ps, c0, own, hps, hU⟩ := p2.ex
          have fz := p2.fz
          have OW : Hid _ := own
          have HPS : Hid _ := hps
          have hw2 : w.heap.size < w2.heap.size := Nat.lt_of_lt_of_le p2.lt p2.le
          have hne2 : ¬ w.heap.size = w2.heap.size := by omega
          clear g2 p2 own hps hU hn' n1 n2 g0 g1
          have A2 : ∀ o, Below w2.heap.size w2 (w2.alloc o) := fun o => (Below.refl _ _).alloc (Nat.le_refl _) o
          go_wp2_with (at_builtin; refine wpP _ rfl _ _ rfl (w.heap.size + 1) _ n' ps rfl (World.ownsRow.keepB OW.out (A2 _)) w2.heap.size 1 ⟨y, 0, none⟩ rfl (by simp) ?c1 ?c2 ?_)
          case c1 => omega
          case c2 => simp; omega
          intro v5 w5 hown5 hgrow hob
          have HOW : Hid _ := hown5
          have hs5 : w2.heap.size + 1 ≤ w5.heap.size := Nat.le_trans (by simp) hgrow.size
          have hnr : (Value.slice a n' c).ownBlock ≠ some w.heap.size := by
            rcases own_ne OW.out (Nat.lt_succ_self _) with h | h
            · rw [h]; exact fun h => by cases h
            · exact h
          have blk : w5.heap[w.heap.size]? = (w2.alloc (.cells #[.pointer (some ⟨y, 0, none⟩)] 58)).heap[w.heap.size]? := hgrow.block _ (by simp; omega) (fun e => hnr e.symm)
          have c5 : w5.cell? ⟨w.heap.size, 0, none⟩ = some (.slice a n' c) := (World.cell?_of_block (a := ⟨w.heap.size, 0, none⟩) blk).trans (((A2 _).cell (p := ⟨w.heap.size, 0, none⟩) hw2).trans c0)
          have f5 : w5.frozen? ⟨w.heap.size, 0, none⟩ = false := (World.frozen?_of_block (a := ⟨w.heap.size, 0, none⟩) blk).trans ((World.frozen?_of_block (a := ⟨w.heap.size, 0, none⟩) ((A2 _).block _ hw2)).trans fz)
          have B5 : Hid (Below w.heap.size w w5) := Below.grown (B2.out.trans ((A2 _).mono B2.out.size)) hgrow (by simp; omega) (fun g e => by have := (World.ownsRow.lt OW.out g e).1; omega)
          obtain ⟨a5, q5, hv5⟩ : ∃ a5 q5, v5 = .slice a5 (n' + 1) q5 := by
            rcases hown5.2 with ⟨-, h⟩ | ⟨g, cap, cur, h, _⟩
            · omega
            · exact ⟨_, _, h⟩
          subst hv5
          clear hgrow hob hown5 blk
          go_wp2
          go_roundw
          case rel =>
            refine ⟨k + 1, n' + 1, w5.heap.size, by omega, by go_num, by rw [HS.out]; have := HN'.out; congr 1; push_cast; omega, ⟨⟨a5, q5, ps ++ [.pointer (some ⟨y, 0, none⟩)], set_same _ _ _ _ _ c5, own_set HOW.out (Nat.lt_succ_self _) _ _, fun u hu => ?_, fun g hg => (World.ownsRow.lt HOW.out g hg).2⟩, by rw [World.frozen?_setCell]; exact f5, by omega, by simp [World.setCell]⟩, Below.grown B5.out (grown_set _ _ _ _) B5.out.size (fun g e => by have := Option.some.inj e; omega)⟩
            rcases List.mem_append.1 hu with h | h
            · exact HPS.out u h
            · simp at h; exact ⟨y, h⟩
          case measure => simp [intOf]; omega
        · have HF : Hid (goodP P = false) := by show goodP P = false; rw [HGO.out]; simp [oneP, pileK_no hlt HP.out hno]
          have B2 : Hid (Below w.heap.size w w2) := Below.grown (BW0.out.trans ((AL _).mono BW0.out.size)) g2 (by simp; omega) (fun g e => by have := Option.some.inj e; omega)
          clear g2 g0 g1 hno
          go_wp2
          go_ret2
          exact ⟨_, by rw [HF.out] <;> rfl, B2.out⟩
      · obtain rfl : k = P.length := by omega
        obtain ⟨a, c, ps, c0, own, hps, hU⟩ := HPL.out.ex
        by_cases h1 : m = 1
        · subst h1
          have HF : Hid (goodP P = true) := by show goodP P = true; rw [HGO.out]; simp [oneP, HP.out]
          rcases own.2 with ⟨-, h⟩ | ⟨g, cap', cur, h, h3⟩
          · omega
          simp only [Value.slice.injEq] at h
          obtain ⟨rfl, -, rfl⟩ := h
          have hcell := own.cellAt 0 (by omega)
          have hlp : 0 < ps.length := by have := own.1; omega
          rw [List.getElem?_eq_getElem hlp] at hcell
          obtain ⟨x, hx⟩ := hps _ (List.getElem_mem hlp)
          rw [hx] at hcell
          clear own hps hU h3 hx
          go_wp2
          go_ret2
          exact ⟨_, by rw [HF.out] <;> rfl, BW0.out⟩
        · have HF : Hid (goodP P = false) := by show goodP P = false; rw [HGO.out]; simp [oneP, HP.out]; omega
          have h1I : ¬ (m : Int) = 1 := by omega
          clear own hps hU
          go_wp2
          go_ret2
          exact ⟨_, by rw [HF.out] <;> rfl, BW0.out⟩
  · have h40I : (40 : Int) < (P.length : Int) := by omega
    have HF : Hid (goodP P = false) := by show goodP P = false; simp [goodP, h40]
    go_enter Try.func47, Try.ntmps47
    go_wp2
    go_ret2
    exact ⟨_, by rw [HF.out] <;> rfl, Below.refl _ _⟩
set_option maxRecDepth 100000 in
set_option maxHeartbeats 1000000 in
theorem igoodRe_any (P : List Nd) (ao : Option Addr) (cap : Nat) (w : World) (hl : szP P ≤ 1048576) (hA : ResAt w ao P) :
    Calls Try.prog 20 #[.slice ao P.length cap] w fun e w' => e = .returned (.bool (goodP P)) ∧ Below w.heap.size w w' := by
  have HA : Hid _ := hA
  clear hA
  go_enter Try.func20, Try.ntmps20
  go_wp2_with fail
  refine (tree_any P ao cap _ hl HA.out).mono ?_
  rintro e w1 ⟨p, rfl, b1⟩
  go_wp2
  go_ret
  exact ⟨rfl, b1⟩
end Go.Proofs.Ytpbkmlheepmbdaa
