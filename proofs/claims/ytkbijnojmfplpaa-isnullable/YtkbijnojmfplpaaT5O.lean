/-
  The specification's table of a pattern at the empty list: l5Table, l5Matches; IsNullable of both.
-/
import Derived.Test.YtkbijnojmfplpaaT5N
namespace Go.Proofs.Ytkbijnojmfplpaa
open Go.ChangeShapes Go.WideShapes Go.ChangeAt Go.WideMaps Go.WideElems Go.RowKit
def rowV (b : Nat) : Value := .slice (some ⟨b, 0, none⟩) 1 1
/-- Rows of one flag each, in a row of their own. -/
def OutR (w : World) (base : Nat) (v : Value) (F : List Bool) : Prop :=
  ∃ bs : List Nat, bs.length = F.length ∧ w.ownsRow base 41 1 v F.length (bs.map rowV) ∧ ∀ j, j < F.length → ∃ b, bs[j]? = some b ∧ w.heap[b]? = some (.cells #[.bool (F.getD j false)] 4)
theorem OutR.nil (w : World) (base : Nat) : OutR w base (.slice none 0 0) [] := ⟨[], rfl, World.ownsRow_nil _ _ _ _, fun j hj => by simp at hj⟩
theorem OutR.form {w : World} {base : Nat} {v : Value} {F : List Bool} (h : OutR w base v F) : ∃ oa oc, v = .slice oa F.length oc ∧ TabAt w oa F := by
  obtain ⟨bs, h1, h2, h3⟩ := h
  rcases h2.2 with ⟨rfl, h0⟩ | ⟨g, cap, cur, rfl, -, hg, -⟩
  · exact ⟨none, 0, by rw [h0], fun j hj => by omega⟩
  · refine ⟨_, _, rfl, fun j hj => ?_⟩
    obtain ⟨b, hb, hc⟩ := h3 j hj
    refine ⟨g, 0, b, rfl, (Array.getElem?_eq_some_iff.1 hg).1, ?_, (Array.getElem?_eq_some_iff.1 hc).1, cell_of hc 0⟩
    rw [Nat.zero_add, World.ownsRow.cellAt h2 j (by omega)]
    simp [hb, rowV]
theorem OutR.keepB {w w' : World} {base : Nat} {v : Value} {F : List Bool} (h : OutR w base v F) (hb : Below w.heap.size w w') : OutR w' base v F := by
  obtain ⟨bs, h1, h2, h3⟩ := h
  exact ⟨bs, h1, World.ownsRow.keepB h2 hb, fun j hj => by obtain ⟨b, h4, h5⟩ := h3 j hj; exact ⟨b, h4, (hb.block b (Array.getElem?_eq_some_iff.1 h5).1).trans h5⟩⟩
theorem infoBs : ∃ i, Try.prog.info? 41 = some i ∧ i.zero = some (.slice none 0 0) ∧ i.size = 1 ∧ i.bytes = 24 := by
  have h : (Try.prog.info? 41).map (fun i => (i.zero, i.size, i.bytes)) = some (some (.slice none 0 0), 1, 24) := by kernel_rfl
  cases hi : Try.prog.info? 41 with
  | none => rw [hi] at h; cases h
  | some i =>
    rw [hi] at h
    simp only [Option.map_some, Option.some.injEq, Prod.mk.injEq] at h
    exact ⟨i, rfl, h.1, h.2.1, h.2.2⟩
/-- One row more. -/
theorem wpB (w : World) {ops : Array Oper} {rest : List Oper} {o : Oper} {a : Act} {K : Exit → Act → World → Prop} (hgd : o.guard = none) (s x : Operand)
    (ho : o.op = .call { callee := .builtin .append, args := #[s, x], argTypes := #[88, 88] })
    (base : Nat) (v : Value) (F : List Bool) (hs : a.eval s = v) (hv : OutR w base v F) (B cap b : Nat) (f : Bool) (hx : a.eval x = .slice (some ⟨B, 0, none⟩) 1 cap) (hc : w.cell? ⟨B, 0, none⟩ = some (rowV b)) (hf : w.heap[b]? = some (.cells #[.bool f] 4)) (hlen : F.length ≤ 100000) (hbase : base ≤ w.heap.size)
    (h : ∀ v' w', OutR w' base v' (F ++ [f]) → Below base w w' → wpList Try.prog ops K rest (a.put o.dst v') w') :
    wpList Try.prog ops K (o :: rest) a w := by
  refine wpList_plain hgd fun K hK => ?_
  obtain ⟨bs, h1, h2, h3⟩ := hv
  obtain ⟨i0, hi, hz0, hz1, hz2⟩ := infoBs
  obtain ⟨v', w', hr, h2', h3', -, -⟩ := run_append_own_at (P := Try.prog) w base 88 o.type 41 i0 (.slice none 0 0) 1 24 Try.underlying88 hi hz0 hz1 hz2 rfl (by decide) v F.length (bs.map rowV) h2 ⟨B, 0, none⟩ 1 cap [rowV b] rfl (fun j u hj => by
    rcases j with _ | j
    · simp at hj; subst hj; simpa [Addr.add] using hc
    · simp at hj) (fun u hu => by simp at hu; subst hu; rfl) (by unfold maxLen; omega) (by omega) hbase
  have ne : ∀ c : Nat, ∀ x : Value, w.heap[c]? = some (.cells #[x] 4) → v.ownBlock ≠ some c := fun c x hcc e => by
    rcases h2.2 with ⟨e1, -⟩ | ⟨g, cap', cur, e1, -, e3, -⟩
    · rw [e1] at e; simp [Value.ownBlock] at e
    · rw [e1] at e
      simp only [Value.ownBlock, Option.some.injEq] at e
      subst e
      rw [e3] at hcc
      have := Option.some.inj hcc
      simp at this
  unfold Oper.wp execOp
  simp only [ho, resolve, invoke, builtin, Sem.run_bind, Sem.run_pure, Result.andThen_ok, List.map_toArray, List.map_cons, List.map_nil, hs, hx, hr]
  refine hK _ _ (h v' w' ⟨bs ++ [b], by simp [h1], ?_, fun j hj => ?_⟩ (Below.grown (Below.refl _ _) h3' hbase (fun g hg => (World.ownsRow.lt h2 g hg).1)))
  · rw [List.length_append, List.length_singleton, List.map_append]; exact h2'
  · rw [List.length_append, List.length_singleton] at hj
    by_cases e : j < F.length
    · obtain ⟨c, hc1, hc2⟩ := h3 j e
      refine ⟨c, by rw [List.getElem?_append_left (by omega)]; exact hc1, ?_⟩
      rw [h3'.block c (Array.getElem?_eq_some_iff.1 hc2).1 (fun e' => ne c _ hc2 e'.symm), hc2]
      simp [List.getD, List.getElem?_append_left e]
    · obtain rfl : j = F.length := by omega
      refine ⟨b, by rw [List.getElem?_append_right (by omega), h1]; simp, ?_⟩
      rw [h3'.block b (Array.getElem?_eq_some_iff.1 hf).1 (fun e' => ne b _ hf e'.symm), hf]
      simp [List.getD]
theorem heap_put1 {w : World} {b : Nat} {u : Value} {T : TypeId} (h : w.heap[b]? = some (.cells #[u] T)) (v : Value) : (w.setCell ⟨b, 0, none⟩ v).heap[b]? = some (.cells #[v] T) := by simp [World.setCell, Array.getElem?_modify, h]
/-- The flags of the first nodes. -/
def FlagsOk (P : List Nd) (F : List Bool) : Prop := ∀ j, j < F.length → ∀ u, Sub P j u → F.getD j false = nul u
set_option maxRecDepth 100000 in
set_option maxHeartbeats 4000000 in
theorem stable0_any (P : List Nd) (ao : Option Addr) (cap : Nat) (w : World) (hp : P.length ≤ 10000) (hA : ResAt w ao P) (t : Tr) (ht : pileT P P.length = some [t]) :
    Calls Try.prog 78 #[.slice ao P.length cap, .slice none 0 0] w fun e w' => ∃ v F, e = .returned v ∧ F.length = P.length ∧ OutR w' w.heap.size v F ∧ FlagsOk P F ∧ Below w.heap.size w w' := by
  have HA : Hid (ResAt w ao P) := hA
  have HE : Hid (∀ k, k < P.length → ∃ u, Sub P k (some u)) := Sub.each ht
  have MK : ∀ w : World, (Instr.makeSlice 41 (.int .i64 1) (.int .i64 1)).run Try.prog w = .ok (.slice (some ⟨w.heap.size, 0, none⟩) 1 1) (w.alloc (.cells #[.bool false] 4)) := make_b1
  clear hA ht
  go_enter Try.func78, Try.ntmps78
  go_wp2
  go_loopw [6, 17] (fun out i wr => ∃ (k : Nat) (F : List Bool), k ≤ P.length ∧ i = .int .i64 k ∧ F.length = k ∧ OutR wr w.heap.size out F ∧ FlagsOk P F ∧ Below w.heap.size w wr) (fun _ i _ => P.length - (intOf i).toNat)
  case atStart => exact ⟨0, [], Nat.zero_le _, rfl, rfl, OutR.nil _ _, fun j hj => by simp at hj, Below.refl _ _⟩
  case round =>
    obtain ⟨k, F, hk, rfl, hF, hO, hfl, hbw⟩ := hrel
    have HO : Hid (OutR wr w.heap.size u6 F) := hO
    have HFL : Hid (FlagsOk P F) := hfl
    have HF : Hid (F.length = k) := hF
    have BW0 : Hid (Below w.heap.size w wr) := hbw
    have hsz := hbw.size
    by_cases hlt : k < P.length
    · have hltI : (k : Int) < (P.length : Int) := by omega
      obtain ⟨oa, oc, rfl, hT⟩ := hO.form
      have HT : Hid (TabAt wr oa F) := hT
      obtain ⟨u, hu⟩ := HE.out k hlt
      obtain ⟨op, s, a, b⟩ := u
      have hn := hu.nd
      obtain ⟨b1, o1, sa, sc, rfl, l1, h0, h1, -⟩ := HA.out k hlt
      rw [hn] at h0 h1
      have g0 : wr.cell? ⟨b1, o1 + k * 2, none⟩ = some (.int .i64 op) := (hbw.cell (p := ⟨b1, o1 + k * 2, none⟩) l1).trans h0
      have g1 : wr.cell? ⟨b1, o1 + k * 2 + 1, none⟩ = some (.slice sa s.length sc) := (hbw.cell (p := ⟨b1, o1 + k * 2 + 1, none⟩) l1).trans h1
      obtain ⟨wo, rfl⟩ : ∃ wo, wo = wr := ⟨_, rfl⟩
      have A1 : Below wo.heap.size wo (wo.alloc (.cells #[.int .i64 op, .slice sa s.length sc] 60)) := al_T _ _
      have A2 : Hid (Below wo.heap.size wo ((wo.alloc (.cells #[.int .i64 op, .slice sa s.length sc] 60)).alloc (.cells #[.bool false] 4))) := A1.trans ((al_T _ _).mono A1.size)
      have x0 : ((wo.alloc (.cells #[.int .i64 op, .slice sa s.length sc] 60)).alloc (.cells #[.bool false] 4)).heap[wo.heap.size]? = some (.cells #[.int .i64 op, .slice sa s.length sc] 60) := (heap_prev _ _ _ (by simp)).trans (heap_last2 _ _ _ rfl)
      have x1 : ((wo.alloc (.cells #[.int .i64 op, .slice sa s.length sc] 60)).alloc (.cells #[.bool false] 4)).heap[wo.heap.size + 1]? = some (.cells #[.bool false] 4) := heap_last2 _ _ _ (by simp)
      have hs2 : ((wo.alloc (.cells #[.int .i64 op, .slice sa s.length sc] 60)).alloc (.cells #[.bool false] 4)).heap.size = wo.heap.size + 2 := by simp
      have CELL : Hid (∀ tv, Calls Try.prog 109 #[.slice (some ⟨b1, o1, none⟩) P.length cap, .slice oa k oc, tv, .slice none 0 0, .int .i64 k, .agg #[.int .i64 op, .slice sa s.length sc], .int .i64 0, .int .i64 0] ((wo.alloc (.cells #[.int .i64 op, .slice sa s.length sc] 60)).alloc (.cells #[.bool false] 4)) fun e w' => e = .returned (.bool (nul (some ⟨op, s, a, b⟩))) ∧ Below ((wo.alloc (.cells #[.int .i64 op, .slice sa s.length sc] 60)).alloc (.cells #[.bool false] 4)).heap.size ((wo.alloc (.cells #[.int .i64 op, .slice sa s.length sc] 60)).alloc (.cells #[.bool false] 4)) w') := fun tv => scell0_any P (some ⟨b1, o1, none⟩) cap oa oc F tv k op s sa sc a b _ hp (ResAt.keepB HA.out (BW0.out.trans (A2.out.mono hsz))) hu HF.out (HT.out.keepB A2.out) (fun j hj => HFL.out j (by rw [HF.out]; exact hj))
      have HU : Hid (Sub P k (some ⟨op, s, a, b⟩)) := hu
      rw [hF]
      clear hO hfl hbw hT hu hn h0 h1 A1 hF
      have FIN : Hid (∀ w5, Below ((wo.alloc (.cells #[.int .i64 op, .slice sa s.length sc] 60)).alloc (.cells #[.bool false] 4)).heap.size ((wo.alloc (.cells #[.int .i64 op, .slice sa s.length sc] 60)).alloc (.cells #[.bool false] 4)) w5 → (w5.setCell ⟨wo.heap.size + 1, 0, none⟩ (.bool (nul (some ⟨op, s, a, b⟩)))).heap[wo.heap.size + 1]? = some (.cells #[.bool (nul (some ⟨op, s, a, b⟩))] 4) ∧ Below wo.heap.size wo (w5.setCell ⟨wo.heap.size + 1, 0, none⟩ (.bool (nul (some ⟨op, s, a, b⟩))))) := fun w5 b5 => by
        refine ⟨heap_put1 ((b5.block _ (by rw [hs2]; omega)).trans x1) _, ?_⟩
        exact Below.grown (A2.out.trans (b5.mono A2.out.size)) (grown_set _ _ _ _) (Nat.le_trans A2.out.size b5.size) (fun g e => by have := Option.some.inj e; omega)
      go_wp2
      go_loopw [10] (fun fr wf => (fr = .int .i64 0 ∧ wf = ((wo.alloc (.cells #[.int .i64 op, .slice sa s.length sc] 60)).alloc (.cells #[.bool false] 4))) ∨ (fr = .int .i64 (-1) ∧ wf.heap[wo.heap.size + 1]? = some (.cells #[.bool (nul (some ⟨op, s, a, b⟩))] 4) ∧ Below wo.heap.size wo wf)) (fun i _ => (intOf i + 1).toNat)
      case atStart => exact .inl ⟨rfl, rfl⟩
      case round =>
        rcases hrel with ⟨rfl, rfl⟩ | ⟨rfl, hb9, hb8⟩
        · go_wp2
          go_loopw [11] (fun tq wt => (tq = .int .i64 0 ∧ wt = ((wo.alloc (.cells #[.int .i64 op, .slice sa s.length sc] 60)).alloc (.cells #[.bool false] 4))) ∨ (tq = .int .i64 1 ∧ wt.heap[wo.heap.size + 1]? = some (.cells #[.bool (nul (some ⟨op, s, a, b⟩))] 4) ∧ Below wo.heap.size wo wt)) (fun i _ => 1 - (intOf i).toNat)
          case atStart => exact .inl ⟨rfl, rfl⟩
          case round =>
            rcases hrel with ⟨rfl, rfl⟩ | ⟨rfl, hb9, hb8⟩
            · go_wp2_with fail
              refine Calls.mono (CELL.out _) ?_
              rintro e w5 ⟨rfl, b5⟩
              obtain ⟨z1, z2⟩ := FIN.out w5 b5
              have Z1 : Hid _ := z1
              have Z2 : Hid _ := z2
              have y1 := cell_of ((b5.block (wo.heap.size + 1) (by rw [hs2]; omega)).trans x1) 0
              have y2 : w5.frozen? ⟨wo.heap.size + 1, 0, none⟩ = false := frozen_of_row w5 _ _ _ _ ((b5.block (wo.heap.size + 1) (by rw [hs2]; omega)).trans x1)
              clear b5 z1 z2
              go_wp2
              go_roundw
              case rel => exact .inr ⟨by first | rfl | go_num, Z1.out, Z2.out⟩
              case measure => simp [intOf]
            · go_wp2
              go_roundw
              case rel => exact .inr ⟨by first | rfl | go_num, hb9, hb8⟩
              case measure => simp [intOf]
        · have hs9 := hb8.size
          have HO9 : Hid (OutR wr w.heap.size (.slice oa k oc) F) := by have h := HO.out.keepB hb8; rw [HF.out] at h; exact h
          have HB9 : Hid _ := hb9
          have HB8 : Hid (Below w.heap.size w wr) := BW0.out.trans (hb8.mono hsz)
          have hs8 := HB8.out.size
          clear hb9 hb8
          go_wp2_with (at_builtin; refine wpB _ rfl _ _ rfl w.heap.size _ F rfl (HO9.out.keepB (al_T _ _)) wr.heap.size 1 (wo.heap.size + 1) (nul (some ⟨op, s, a, b⟩)) rfl (cell_of (heap_last2 _ _ _ rfl) 0) ((heap_prev _ _ _ (lt_of_heap HB9.out)).trans HB9.out) (by have := HF.out; omega) (Nat.le_trans hs8 (al_T _ _).size) ?_; intro v5 w5 o5 b5; have O5 : Hid _ := o5; have B5 : Hid (Below w.heap.size w w5) := HB8.out.trans (((al_T _ _).mono hs8).trans b5); clear o5 b5)
          go_wp2
          go_roundw
          case rel =>
            refine ⟨k + 1, F ++ [nul (some ⟨op, s, a, b⟩)], by omega, by go_num, by rw [List.length_append, HF.out]; rfl, O5.out, fun j hj u hu => ?_, B5.out⟩
            rw [List.length_append, List.length_singleton, HF.out] at hj
            by_cases e : j < k
            · have e2 : j < F.length := by rw [HF.out]; exact e
              have := HFL.out j e2 u hu
              simpa [List.getD, List.getElem?_append_left e2] using this
            · obtain rfl : j = k := by omega
              have e3 : (F ++ [nul (some ⟨op, s, a, b⟩)]).getD j false = nul (some ⟨op, s, a, b⟩) := by
                rw [List.getD, List.getElem?_append_right (by rw [HF.out]; exact Nat.le_refl _), HF.out]; simp
              rw [e3]
              cases u with
              | none => have := hu.1; rw [okT] at this; exact this.elim
              | some u => rw [HU.out.uniq hu]
          case measure => simp [intOf]; omega
    · obtain rfl : k = P.length := by omega
      clear hO hfl hbw hF
      go_wp2
      go_ret
      exact ⟨_, F, rfl, HF.out, HO.out, HFL.out, BW0.out⟩
set_option maxRecDepth 100000 in
set_option maxHeartbeats 1000000 in
theorem smatches0_any (P : List Nd) (ao : Option Addr) (cap : Nat) (w : World) (hp : P.length ≤ 10000) (hA : ResAt w ao P) (t : Tr) (ht : pileT P P.length = some [t]) :
    Calls Try.prog 43 #[.slice ao P.length cap, .slice none 0 0] w fun e w' => e = .returned (.bool (nul (some t))) ∧ Below w.heap.size w w' := by
  have HT : Hid (Calls Try.prog 78 #[.slice ao P.length cap, .slice none 0 0] w fun e w' => ∃ v F, e = .returned v ∧ F.length = P.length ∧ OutR w' w.heap.size v F ∧ FlagsOk P F ∧ Below w.heap.size w w') := stable0_any P ao cap w hp hA t ht
  obtain ⟨hpos, hsub⟩ := Sub.whole ht
  have HSUB : Hid (Sub P (P.length - 1) (some t)) := hsub
  obtain ⟨m, hm⟩ : ∃ m, P.length = m + 1 := ⟨P.length - 1, by omega⟩
  have HM : Hid (P.length = m + 1) := hm
  clear hA ht hsub hpos
  rw [hm] at HT hp ⊢
  clear hm
  go_enter Try.func43, Try.ntmps43
  go_wp2_with fail
  refine Calls.mono HT.out ?_
  rintro e w1 ⟨v, F, rfl, hF, hO, hfl, b1⟩
  obtain ⟨oa, oc, rfl, hT⟩ := hO.form
  rw [hF]
  obtain ⟨b0, off, rb, rfl, q1, q2, q3, q4⟩ := hT m (by omega)
  have hs : Sub P m (some t) := by
    have h := HSUB.out
    rwa [show P.length - 1 = m by have := HM.out; omega] at h
  rw [hfl m (by omega) _ hs] at q4
  clear hO hfl hT hF hs
  go_wp2
  go_ret
  exact ⟨rfl, b1⟩
def nulP (P : List Nd) : Bool := goodP P && nul (treeP P)
theorem nulP_yes {P : List Nd} {t : Tr} (hg : goodP P = true) (ht : pileT P P.length = some [t]) : nulP P = nul (some t) := by rw [nulP, hg, treeP, ht]; rfl
theorem nulP_no {P : List Nd} (hg : goodP P = false) : nulP P = false := by rw [nulP, hg]; rfl
set_option maxRecDepth 100000 in
set_option maxHeartbeats 1000000 in
theorem snullable_any (P : List Nd) (ao : Option Addr) (cap : Nat) (w : World) (hl : szP P ≤ 1048576) (hA : ResAt w ao P) :
    Calls Try.prog 18 #[.slice ao P.length cap] w fun e w' => e = .returned (.tuple #[.bool (nulP P), .bool (goodP P)]) ∧ Below w.heap.size w w' := by
  have HG0 : Hid (Calls Try.prog 41 #[.slice ao P.length cap] w fun e w' => e = .returned (.bool (goodP P)) ∧ Below w.heap.size w w') := sgoodRe_any P ao cap w hl hA
  have HA : Hid (ResAt w ao P) := hA
  clear hA
  cases hg : goodP P
  · have HG : Hid _ := hg
    clear hg
    rw [HG.out] at HG0
    go_enter Try.func18, Try.ntmps18
    go_wp2_with fail
    refine Calls.mono HG0.out ?_
    rintro e w1 ⟨rfl, b1⟩
    go_wp2
    go_ret2
    exact ⟨by rw [nulP_no HG.out] <;> rfl, b1⟩
  · have HG : Hid _ := hg
    have hg2 := hg
    unfold goodP at hg2
    simp only [Bool.and_eq_true, decide_eq_true_eq] at hg2
    obtain ⟨h40, h1⟩ := hg2
    obtain ⟨t, ht⟩ := (oneP_tree P).1 h1
    have HV : Hid _ := nulP_yes hg ht
    have HC : Hid (∀ w' : World, Below w.heap.size w w' → Calls Try.prog 43 #[.slice ao P.length cap, .slice none 0 0] w' fun e w'' => e = .returned (.bool (nul (some t))) ∧ Below w'.heap.size w' w'') := fun w' hb => smatches0_any P ao cap w' (by omega) (ResAt.keepB HA.out hb) t ht
    clear hg ht h1 hl
    rw [HG.out] at HG0
    go_enter Try.func18, Try.ntmps18
    go_wp2_with fail
    refine Calls.mono HG0.out ?_
    rintro e w1 ⟨rfl, b1⟩
    have B1 : Hid (Below w.heap.size w w1) := b1
    clear b1
    go_wp2_with fail
    refine Calls.mono (HC.out _ B1.out) ?_
    rintro e w2 ⟨rfl, b2⟩
    have B2 : Hid (Below w.heap.size w w2) := B1.out.trans (b2.mono B1.out.size)
    clear b2
    go_wp2
    go_ret2
    exact ⟨by rw [HV.out] <;> rfl, B2.out⟩
set_option maxRecDepth 100000 in
set_option maxHeartbeats 1000000 in
theorem inullable_any (P : List Nd) (ao : Option Addr) (cap : Nat) (w : World) (hl : szP P ≤ 1048576) (hA : ResAt w ao P) :
    Calls Try.prog 19 #[.slice ao P.length cap] w fun e w' => e = .returned (.tuple #[.bool (nulP P), .bool (goodP P)]) ∧ Below w.heap.size w w' := by
  have HT : Hid (Calls Try.prog 45 #[.slice ao P.length cap] w fun e w' => TreeE P w w' e) := treeT_any P ao cap w hl hA
  clear hA
  go_enter Try.func19, Try.ntmps19
  go_wp2_with fail
  refine Calls.mono HT.out ?_
  rintro e w1 hE
  rcases hE with ⟨hg, t, x, hp, rfl, tt, b1⟩ | ⟨hg, p, rfl, b1⟩
  · have HG : Hid (goodP P = true) := hg
    have HV : Hid _ := nulP_yes hg hp
    obtain ⟨ok, -⟩ := tree_of hp
    have HC : Hid (Calls Try.prog 49 #[.pointer (some ⟨x, 0, none⟩)] w1 fun e w' => e = .returned (.bool (nul (some t))) ∧ w' = w1) := inul_any _ _ (some t) ok _ w1 tt
    have B1 : Hid (Below w.heap.size w w1) := b1
    clear hg hp ok tt b1 HT
    go_wp2_with fail
    refine Calls.mono HC.out ?_
    rintro e w2 ⟨rfl, rfl⟩
    go_wp2
    go_ret2
    exact ⟨by rw [HV.out, HG.out] <;> rfl, B1.out⟩
  · have HG : Hid (goodP P = false) := hg
    have B1 : Hid (Below w.heap.size w w1) := b1
    clear hg b1 HT
    go_wp2
    go_ret2
    exact ⟨by rw [nulP_no HG.out, HG.out] <;> rfl, B1.out⟩
end Go.Proofs.Ytkbijnojmfplpaa
