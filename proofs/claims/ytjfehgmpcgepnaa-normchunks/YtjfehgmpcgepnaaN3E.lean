/-
  append of a list that lies anywhere onto a row of one's own; a copy (spec.l1Own); sorting in the specification (spec.l3Sort).
-/
import Derived.Test.YtjfehgmpcgepnaaN3D
import Derived.Test.YtjfehgmpcgepnaaN3P2
namespace Go.Proofs.Ytjfehgmpcgepnaa
open Go.ChangeShapes Go.WideShapes Go.ChangeAt Go.RowKit
theorem run_append_ints (w : World) (base : Nat) (ty : TypeId) (v : Value) (n : Nat) (xs : List Value) (hown : w.ownsRow base 3 1 v n xs) (ao : Option Addr) (L : List Int) (m cap : Nat) (hm : m = L.length) (hA : IntsAt w ao L) (hlen : n + m ≤ 4000000) (hbase : base ≤ w.heap.size) :
    ∃ v' w', (Builtin.append_ #[24, 24] ty #[v, .slice ao m cap]).run Try.prog w = .ok v' w' ∧ w'.ownsRow base 3 1 v' (n + m) (xs ++ ints L) ∧ w.grownBy w' v.ownBlock ∧ (v'.ownBlock = v.ownBlock ∨ v'.ownBlock = some w.heap.size) := by
  subst hm
  obtain ⟨i0, hi, hz0, hz1, hz2⟩ := info_parts Try.info3
  have ht := Try.underlying24
  cases ao with
  | none =>
    have h0 : L = [] := by
      cases L with
      | nil => rfl
      | cons x L => obtain ⟨b, off, h, _⟩ := hA 0 (by simp); cases h
    subst h0
    refine ⟨v, w, ?_, by simpa [ints] using hown, ⟨rfl, rfl, rfl, Nat.le_refl _, fun _ _ _ => rfl⟩, Or.inl rfl⟩
    rcases hown.2 with ⟨rfl, rfl⟩ | ⟨g, cap, cur, rfl, hbg, hg, hnc, hcm, hcs, htake⟩
    · simp [Builtin.append_, run_underlying ht, sizeOf, typeInfo, hi, Builtin.lenOf, Builtin.firstCells]
    · simp [Builtin.append_, run_underlying ht, sizeOf, typeInfo, hi, Builtin.lenOf, Builtin.firstCells, storeCells, hnc]
  | some a =>
    obtain ⟨v', w', h1', h2', h3', -, h5'⟩ := run_append_own_at (P := Try.prog) w base 24 ty 3 i0 (.int .i64 0) 1 8 ht hi hz0 hz1 hz2 rfl (by decide) v n xs hown a L.length cap (ints L) (by simp [ints]) (fun j u hj => by
      have hjl : j < L.length := by
        rcases Nat.lt_or_ge j L.length with h | h
        · exact h
        · simp [ints, List.getElem?_eq_none h] at hj
      obtain ⟨b, off, he, _, hc⟩ := hA j hjl
      cases he
      have hp : (⟨b, off, none⟩ : Addr).add j = ⟨b, off + j, none⟩ := by unfold Addr.add; split <;> simp_all
      rw [hp, hc]
      simp [ints, hjl] at hj
      rw [← hj]
      simp [List.getD, hjl]) (ints_one _) (by unfold maxLen; omega) (by omega) hbase
    exact ⟨v', w', h1', h2', h3', h5'⟩
theorem wpA (w : World) {ops : Array Oper} {rest : List Oper} {o : Oper} {a : Act} {Q : Exit → Act → World → Prop} (hgd : o.guard = none) (s x : Operand)
    (ho : o.op = .call { callee := .builtin .append, args := #[s, x], argTypes := #[24, 24] })
    (base : Nat) (v : Value) (n : Nat) (xs : List Value) (hs : a.eval s = v) (hown : w.ownsRow base 3 1 v n xs)
    (ao : Option Addr) (L : List Int) (m cap : Nat) (hx : a.eval x = .slice ao m cap) (hm : m = L.length) (hA : IntsAt w ao L)
    (hlen : n + m ≤ 4000000) (hbase : base ≤ w.heap.size)
    (h : ∀ v' w', w'.ownsRow base 3 1 v' (n + m) (xs ++ ints L) → w.grownBy w' v.ownBlock → (v'.ownBlock = v.ownBlock ∨ v'.ownBlock = some w.heap.size) → wpList Try.prog ops Q rest (a.put o.dst v') w') :
    wpList Try.prog ops Q (o :: rest) a w := by
  refine wpList_plain hgd fun K hK => ?_
  obtain ⟨v', w', hr, h2, h3, h5⟩ := run_append_ints w base o.type v n xs hown ao L m cap hm hA hlen hbase
  unfold Oper.wp execOp
  simp only [ho, resolve, invoke, builtin, Sem.run_bind, Sem.run_pure, Result.andThen_ok, List.map_toArray, List.map_cons, List.map_nil, hs, hx, hr]
  exact hK _ _ (h v' w' h2 h3 h5)
theorem ints_new (w : World) (x : Int) (t : TypeId) (B : Nat) (hB : B = w.heap.size) : IntsAt (w.alloc (.cells #[.int .i64 x] t)) (some ⟨B, 0, none⟩) [x] := fun j hj => by
  subst hB
  have h0 : j = 0 := by simp at hj; omega
  subst h0
  refine ⟨w.heap.size, 0, rfl, by simp, ?_⟩
  rw [Nat.zero_add, World.cell?_alloc_new]
  simp
/-- The part of a list from a place on. -/
theorem ints_drop {w : World} {base : Nat} {ao : Option Addr} {n cap : Nat} {L : List Int} (h : w.ownsRow base 3 1 (.slice ao n cap) n (ints L)) (k : Nat) (hk : k ≤ n) : IntsAt w (if cap = k then ao else ao.map (·.add (k * 1))) (L.drop k) := fun j hj => by
  have hn := (ints_of_own h).1
  simp at hj
  obtain ⟨b, off, he, hb, hc⟩ := own_ints h (k + j) (by omega)
  have hck : cap ≠ k := by
    rcases h.2 with ⟨h1, h2⟩ | ⟨g, cap', cur, h1, _, _, h2, _⟩
    · omega
    · simp only [Value.slice.injEq, true_and] at h1
      omega
  rw [if_neg hck]
  subst he
  refine ⟨b, off + k, ?_, hb, ?_⟩
  · have : (⟨b, off, none⟩ : Addr).add (k * 1) = ⟨b, off + k, none⟩ := by rw [Nat.mul_one]; unfold Addr.add; split <;> simp_all
    rw [← this]; rfl
  · rw [Nat.add_assoc, hc]
    simp [List.getD]
theorem own_take {w : World} {base : Nat} {ao : Option Addr} {n cap : Nat} {L : List Int} (h : w.ownsRow base 3 1 (.slice ao n cap) n (ints L)) (k : Nat) (hk : k ≤ n) : w.ownsRow base 3 1 (.slice ao k cap) k (ints (L.take k)) := by
  have hn := (ints_of_own h).1
  refine ⟨by simp [ints]; omega, ?_⟩
  rcases h.2 with ⟨h1, h2⟩ | ⟨g, cap', cur, h1, h2, h3, h4, h5, h6, h7⟩
  · simp only [Value.slice.injEq] at h1
    obtain ⟨rfl, _, rfl⟩ := h1
    obtain rfl : k = 0 := by omega
    exact .inl ⟨rfl, rfl⟩
  · simp only [Value.slice.injEq, true_and] at h1
    obtain ⟨rfl, rfl⟩ := h1
    refine .inr ⟨g, cap, cur, rfl, h2, h3, by omega, h5, h6, ?_⟩
    have e : ints (L.take k) = (ints L).take k := by simp [ints, List.map_take]
    rw [e, ← h7, List.take_take]
    congr 1
    omega
theorem own_cast {w : World} {base : Nat} {v : Value} {n n' : Nat} {xs xs' : List Value} (h : w.ownsRow base 3 1 v n xs) (hn : n = n') (hx : xs = xs') : w.ownsRow base 3 1 v n' xs' := by subst hn; subst hx; exact h
set_option maxRecDepth 100000 in
theorem slice_tail {w0 : World} {base : Nat} {ao : Option Addr} {n cap : Nat} {L : List Int} (h : w0.ownsRow base 3 1 (.slice ao n cap) n (ints L)) (k : Nat) (hk : k ≤ n) :
    ∃ A C, (∀ w, (Instr.slice 24 (.slice ao n cap) (some (.int .i64 (k : Int))) none none).run Try.prog w = .ok (.slice A (n - k) C) w) ∧ IntsAt w0 A (L.drop k) := by
  obtain ⟨i0, hi, hz0, hz1, hz2⟩ := info_parts Try.info3
  refine ⟨if cap = k then ao else ao.map (·.add (k * 1)), cap - k, fun w => ?_, ints_drop h k hk⟩
  rw [run_slice_l w 24 ao n cap Try.underlying24 .i64 (k : Int) (by omega) (by omega), show Try.prog.elem 24 = 3 by kernel_rfl]
  simp [sizeOf, typeInfo, hi, hz1, sliced]
set_option maxRecDepth 100000 in
theorem slice_front {w0 : World} {base : Nat} {ao : Option Addr} {n cap : Nat} {L : List Int} (h : w0.ownsRow base 3 1 (.slice ao n cap) n (ints L)) (k : Nat) (hk : k ≤ n) :
    ∀ w, (Instr.slice 24 (.slice ao n cap) none (some (.int .i64 (k : Int))) none).run Try.prog w = .ok (.slice ao k cap) w := fun w => by
  obtain ⟨i0, hi, hz0, hz1, hz2⟩ := info_parts Try.info3
  have hc : n ≤ cap := by
    rcases h.2 with ⟨h1, h2⟩ | ⟨g, cap', cur, h1, _, _, h2, _⟩
    · omega
    · simp only [Value.slice.injEq, true_and] at h1
      omega
  have ha : Option.map (fun x => Addr.add x 0) ao = ao := by
    rcases h.2 with ⟨h1, h2⟩ | ⟨g, cap', cur, h1, _, _, h2, _⟩
    · simp only [Value.slice.injEq] at h1
      rw [h1.1]; rfl
    · simp only [Value.slice.injEq, true_and] at h1
      rw [h1.1]; rfl
  rw [run_slice_h w 24 ao n cap Try.underlying24 .i64 (k : Int) (by omega) (by omega), show Try.prog.elem 24 = 3 by kernel_rfl]
  simp [sizeOf, typeInfo, hi, hz1, sliced, ha]
set_option maxRecDepth 100000 in
set_option maxHeartbeats 1000000 in
theorem sown_any (L : List Int) (ao : Option Addr) (n cap : Nat) (w : World) (hn : n = L.length) (hl : L.length ≤ 1048576) (hA : IntsAt w ao L) :
    Calls Try.prog 34 #[.slice ao n cap] w fun e w' => ∃ v, e = .returned v ∧ w'.ownsRow w.heap.size 3 1 v L.length (ints L) ∧ Below w.heap.size w w' := by
  have HA : Hid _ := hA
  have B1 : ∀ o, Below w.heap.size w (w.alloc o) := fun o => (Below.refl _ _).alloc (Nat.le_refl _) o
  clear hA
  go_enter Try.func34, Try.ntmps34
  go_wp2_with (at_builtin; refine wpA _ rfl _ _ rfl w.heap.size _ _ _ rfl (row_lit w [] _ rfl 0 rfl (by simp)) ao L n cap rfl hn (IntsAt.below HA.out (B1 _)) ?c1 ?c2 ?_)
  case c1 => simp; omega
  case c2 => simp
  intro v' w2 hown2 hgrow _
  have hb2 : Below w.heap.size w w2 := Below.grown (B1 _) hgrow (B1 _).size (fun g hg => by simp [Value.ownBlock] at hg; omega)
  clear hgrow
  go_wp2
  go_ret
  subst hn
  exact ⟨_, rfl, by simpa [ints] using hown2, hb2⟩
set_option maxRecDepth 100000 in
set_option maxHeartbeats 4000000 in
theorem ssortL_any (L : List Int) (ao : Option Addr) (cap : Nat) (w : World) (hl : L.length ≤ 1000) (hA : IntsAt w ao L) :
    Calls Try.prog 24 #[.slice ao L.length cap] w fun e w' => ∃ v, e = .returned v ∧ w'.ownsRow w.heap.size 3 1 v (sortL L).length (ints (sortL L)) ∧ Below w.heap.size w w' := by
  have HA : Hid _ := hA
  clear hA
  go_enter Try.func24, Try.ntmps24
  go_wp2
  go_loopw [3, 10] (fun v i wr => ∃ k : Nat, k ≤ L.length ∧ i = .int .i64 k ∧ wr.ownsRow w.heap.size 3 1 v (sortL (L.take k)).length (ints (sortL (L.take k))) ∧ Below w.heap.size w wr) (fun _ i _ => L.length - (intOf i).toNat)
  case atStart => exact ⟨0, Nat.zero_le _, rfl, World.ownsRow_nil _ _ _ _, Below.refl _ _⟩
  case round =>
    obtain ⟨k, hk, rfl, hown, hbw⟩ := hrel
    by_cases hlt : k < L.length
    · have hltI : (k : Int) < (L.length : Int) := by omega
      obtain ⟨b1, o1, rfl, l1, h1⟩ := HA.out k hlt
      have hc : wr.cell? ⟨b1, o1 + k, none⟩ = some (.int .i64 (L.getD k 0)) := (hbw.cell (p := ⟨b1, o1 + k, none⟩) l1).trans h1
      have HINS : Hid (∀ p : Nat, 0 < orderN (L.getD k 0) → p ≤ (sortL (L.take k)).length → (∀ j, p ≤ j → j < (sortL (L.take k)).length → orderN (L.getD k 0) < orderN ((sortL (L.take k)).getD j 0)) → (p = 0 ∨ orderN ((sortL (L.take k)).getD (p - 1) 0) ≤ orderN (L.getD k 0)) → sortL (L.take (k + 1)) = (sortL (L.take k)).take p ++ [L.getD k 0] ++ (sortL (L.take k)).drop p) := fun p a b c d => sortL_ins L k hlt p a b c d
      have HEND : Hid (orderN (L.getD k 0) = 0 → sortL (L.take (k + 1)) = sortL (L.take k) ++ [L.getD k 0]) := fun a => sortL_end L k hlt a
      have hlen : (sortL (L.take k)).length ≤ 1000 := by rw [sortL_len]; simp; omega
      clear h1
      generalize L.getD k 0 = r at *
      generalize sortL (L.take k) = S at *
      have OW : Hid _ := hown
      have BW : Hid _ := hbw
      obtain ⟨_, ga, gc, rfl, gi⟩ := ints_of_own hown
      have GI : Hid (IntsAt wr ga S) := gi
      clear hown hbw gi
      go_wp2
      go_loopw [6] (fun i wi => ∃ p : Nat, p ≤ S.length ∧ i = .int .i64 p ∧ (p < S.length → 0 < orderN r) ∧ (∀ j, p ≤ j → j < S.length → orderN r < orderN (S.getD j 0)) ∧ wr = wi) (fun i _ => (intOf i).toNat)
      case atStart => exact ⟨S.length, Nat.le_refl _, rfl, fun h => absurd h (Nat.lt_irrefl _), fun j a b => absurd b (by omega), rfl⟩
      case round =>
        obtain ⟨p, hp, rfl, hpm, hpo, rfl⟩ := hrel
        obtain ⟨A, C, hsT, hAI⟩ := slice_tail OW.out p hp
        have hsH := slice_front OW.out p hp
        have HAI : Hid (IntsAt wr A (S.drop p)) := hAI
        clear hAI
        by_cases hm : 0 < orderN r
        · have HM : Hid (markB r = true) := by have := orderN_pos.1 hm; show markB r = true; unfold markB; exact decide_eq_true this
          by_cases hp0 : p = 0
          · have HRES : Hid (sortL (L.take (k + 1)) = S.take p ++ [r] ++ S.drop p) := HINS.out p hm hp hpo (.inl hp0)
            have hn0 : ¬ (0 : Int) < (p : Int) := by omega
            clear HINS HEND hpm hpo hp0
            go_wp2_with (first | (go_at_call 36; refine (smark_any r _).mono ?_; rintro e w' ⟨rfl, hw⟩; obtain rfl := hw.symm; rw [HM.out]) | (go_at_call 37; (first | (with_reducible refine (sorder_any x _).mono ?_) | (with_reducible refine (sorder_any r _).mono ?_)); rintro e w' ⟨rfl, hw⟩; obtain rfl := hw.symm))
            refine (sown_any (S.drop p) A (S.length - p) C _ (by simp) (by simp; omega) HAI.out).mono ?_
            rintro e w1 ⟨vr, rfl, or1, hb1⟩
            have OW1 : Hid (w1.ownsRow w.heap.size 3 1 (.slice ga p gc) p (ints (S.take p))) := own_take (ownsRow_below OW.out hb1) p hp
            have BW1 : Hid (Below w.heap.size w w1) := Below.trans BW.out (hb1.mono (Below.size BW.out))
            have OR1 : Hid (w1.ownsRow wr.heap.size 3 1 vr (S.drop p).length (ints (S.drop p))) := or1
            have AP : Hid (vr.ownBlock = none ∨ vr.ownBlock ≠ Value.ownBlock (.slice ga p gc)) := own_apart' (own_take OW.out p hp) or1 (Nat.le_refl _)
            clear hb1 or1
            go_wp2_with (at_builtin; refine wpA _ rfl _ _ rfl w.heap.size _ _ _ rfl (World.ownsRow.alloc OW1.out _) _ [r] 1 1 rfl rfl (ints_new _ r _ _ rfl) ?c1 ?c2 ?_)
            all_goals try (case c1 => omega)
            all_goals try (case c2 => have := Below.size BW1.out; simp; omega)
            intro v2 w2 hown2 hgr2 hblk
            have B2 : Hid (Below w.heap.size w w2) := Below.grown (Below.alloc BW1.out (Below.size BW1.out) _) hgr2 (by have := Below.size BW1.out; simp; omega) (fun g hg => (World.ownsRow.lt OW1.out g hg).1)
            have OR2 : Hid (w2.ownsRow wr.heap.size 3 1 vr (S.drop p).length (ints (S.drop p))) := World.ownsRow.kept (World.ownsRow.alloc OR1.out _) hgr2 AP.out
            have O2 : Hid (w2.ownsRow w.heap.size 3 1 v2 (p + 1) (ints (S.take p) ++ ints [r])) := own_cast hown2 rfl (by simp [ints, List.map_take])
            clear hgr2 hown2
            obtain ⟨_, ra, rc, rfl, _⟩ := ints_of_own OR2.out
            go_wp2_with (at_builtin; refine wpA _ rfl _ _ rfl w.heap.size _ _ _ rfl O2.out _ (S.drop p) _ _ rfl rfl (own_ints OR2.out) ?c1 ?c2 ?_)
            all_goals try (case c1 => first | omega | (simp; omega))
            all_goals try (case c2 => exact Below.size B2.out)
            intro v3 w3 hown3 hgr3 _
            have B3 : Hid (Below w.heap.size w w3) := Below.grown B2.out hgr3 (Below.size B2.out) (fun g hg => (World.ownsRow.lt O2.out g hg).1)
            clear hgr3
            go_wp2
            go_roundw
            case rel => exact ⟨k + 1, by omega, by go_num, own_cast hown3 (by rw [HRES.out]; simp; omega) (by rw [HRES.out]; simp [ints, List.map_take, List.map_drop]), B3.out⟩
            case measure => simp [intOf]; omega
          · obtain ⟨q, hq⟩ : ∃ q, p = q + 1 := ⟨p - 1, by omega⟩
            have hq1 : (p : Int) - 1 = (q : Int) := by omega
            have hqp : (0 : Int) < (p : Int) := by omega
            have hql : (q : Int) < (S.length : Int) := by omega
            obtain ⟨b2, o2, rfl, l2, hc2⟩ := GI.out q (by omega)
            by_cases hx : orderN r < orderN (S.getD q 0)
            · have HN : Hid (∀ j, q ≤ j → j < S.length → orderN r < orderN (S.getD j 0)) := fun j a b => by
                by_cases e : j = q
                · subst e; exact hx
                · exact hpo j (by omega) b
              clear HINS HEND hpm hpo hsT hsH
              generalize S.getD q 0 = x at *
              go_wp2_with (first | (go_at_call 36; refine (smark_any r _).mono ?_; rintro e w' ⟨rfl, hw⟩; obtain rfl := hw.symm; rw [HM.out]) | (go_at_call 37; (first | (with_reducible refine (sorder_any x _).mono ?_) | (with_reducible refine (sorder_any r _).mono ?_)); rintro e w' ⟨rfl, hw⟩; obtain rfl := hw.symm))
              go_roundw
              case rel => exact ⟨q, by omega, by go_num, fun _ => hm, HN.out, by first | rfl | trivial⟩
              case measure => simp [intOf]; omega
            · have HRES : Hid (sortL (L.take (k + 1)) = S.take p ++ [r] ++ S.drop p) := HINS.out p hm hp hpo (.inr (by rw [hq]; simpa using (Int.not_lt.1 hx)))
              clear HINS HEND hpm hpo hq hp0
              generalize S.getD q 0 = x at *
              go_wp2_with (first | (go_at_call 36; refine (smark_any r _).mono ?_; rintro e w' ⟨rfl, hw⟩; obtain rfl := hw.symm; rw [HM.out]) | (go_at_call 37; (first | (with_reducible refine (sorder_any x _).mono ?_) | (with_reducible refine (sorder_any r _).mono ?_)); rintro e w' ⟨rfl, hw⟩; obtain rfl := hw.symm))
              refine (sown_any (S.drop p) A (S.length - p) C _ (by simp) (by simp; omega) HAI.out).mono ?_
              rintro e w1 ⟨vr, rfl, or1, hb1⟩
              have OW1 : Hid (w1.ownsRow w.heap.size 3 1 (.slice (some ⟨b2, o2, none⟩) p gc) p (ints (S.take p))) := own_take (ownsRow_below OW.out hb1) p hp
              have BW1 : Hid (Below w.heap.size w w1) := Below.trans BW.out (hb1.mono (Below.size BW.out))
              have OR1 : Hid (w1.ownsRow wr.heap.size 3 1 vr (S.drop p).length (ints (S.drop p))) := or1
              have AP : Hid (vr.ownBlock = none ∨ vr.ownBlock ≠ Value.ownBlock (.slice (some ⟨b2, o2, none⟩) p gc)) := own_apart' (own_take OW.out p hp) or1 (Nat.le_refl _)
              clear hb1 or1
              go_wp2_with (at_builtin; refine wpA _ rfl _ _ rfl w.heap.size _ _ _ rfl (World.ownsRow.alloc OW1.out _) _ [r] 1 1 rfl rfl (ints_new _ r _ _ rfl) ?c1 ?c2 ?_)
              all_goals try (case c1 => omega)
              all_goals try (case c2 => have := Below.size BW1.out; simp; omega)
              intro v2 w2 hown2 hgr2 hblk
              have B2 : Hid (Below w.heap.size w w2) := Below.grown (Below.alloc BW1.out (Below.size BW1.out) _) hgr2 (by have := Below.size BW1.out; simp; omega) (fun g hg => (World.ownsRow.lt OW1.out g hg).1)
              have OR2 : Hid (w2.ownsRow wr.heap.size 3 1 vr (S.drop p).length (ints (S.drop p))) := World.ownsRow.kept (World.ownsRow.alloc OR1.out _) hgr2 AP.out
              have O2 : Hid (w2.ownsRow w.heap.size 3 1 v2 (p + 1) (ints (S.take p) ++ ints [r])) := own_cast hown2 rfl (by simp [ints, List.map_take])
              clear hgr2 hown2
              obtain ⟨_, ra, rc, rfl, _⟩ := ints_of_own OR2.out
              go_wp2_with (at_builtin; refine wpA _ rfl _ _ rfl w.heap.size _ _ _ rfl O2.out _ (S.drop p) _ _ rfl rfl (own_ints OR2.out) ?c1 ?c2 ?_)
              all_goals try (case c1 => first | omega | (simp; omega))
              all_goals try (case c2 => exact Below.size B2.out)
              intro v3 w3 hown3 hgr3 _
              have B3 : Hid (Below w.heap.size w w3) := Below.grown B2.out hgr3 (Below.size B2.out) (fun g hg => (World.ownsRow.lt O2.out g hg).1)
              clear hgr3
              go_wp2
              go_roundw
              case rel => exact ⟨k + 1, by omega, by go_num, own_cast hown3 (by rw [HRES.out]; simp; omega) (by rw [HRES.out]; simp [ints, List.map_take, List.map_drop]), B3.out⟩
              case measure => simp [intOf]; omega
        · have HM : Hid (markB r = false) := by
            show markB r = false
            unfold markB
            exact decide_eq_false fun h => hm (orderN_pos.2 h)
          have HRES : Hid (sortL (L.take (k + 1)) = S.take p ++ [r] ++ S.drop p) := by
            have hpl : p = S.length := by
              rcases Nat.lt_or_ge p S.length with h | h
              · exact absurd (hpm h) hm
              · omega
            show sortL (L.take (k + 1)) = S.take p ++ [r] ++ S.drop p
            rw [HEND.out (by have := orderN_lo r; omega), hpl]
            simp
          clear HINS HEND hpm hpo
          go_wp2_with (first | (go_at_call 36; refine (smark_any r _).mono ?_; rintro e w' ⟨rfl, hw⟩; obtain rfl := hw.symm; rw [HM.out]) | (go_at_call 37; (first | (with_reducible refine (sorder_any x _).mono ?_) | (with_reducible refine (sorder_any r _).mono ?_)); rintro e w' ⟨rfl, hw⟩; obtain rfl := hw.symm))
          refine (sown_any (S.drop p) A (S.length - p) C _ (by simp) (by simp; omega) HAI.out).mono ?_
          rintro e w1 ⟨vr, rfl, or1, hb1⟩
          have OW1 : Hid (w1.ownsRow w.heap.size 3 1 (.slice ga p gc) p (ints (S.take p))) := own_take (ownsRow_below OW.out hb1) p hp
          have BW1 : Hid (Below w.heap.size w w1) := Below.trans BW.out (hb1.mono (Below.size BW.out))
          have OR1 : Hid (w1.ownsRow wr.heap.size 3 1 vr (S.drop p).length (ints (S.drop p))) := or1
          have AP : Hid (vr.ownBlock = none ∨ vr.ownBlock ≠ Value.ownBlock (.slice ga p gc)) := own_apart' (own_take OW.out p hp) or1 (Nat.le_refl _)
          clear hb1 or1
          go_wp2_with (at_builtin; refine wpA _ rfl _ _ rfl w.heap.size _ _ _ rfl (World.ownsRow.alloc OW1.out _) _ [r] 1 1 rfl rfl (ints_new _ r _ _ rfl) ?c1 ?c2 ?_)
          all_goals try (case c1 => omega)
          all_goals try (case c2 => have := Below.size BW1.out; simp; omega)
          intro v2 w2 hown2 hgr2 hblk
          have B2 : Hid (Below w.heap.size w w2) := Below.grown (Below.alloc BW1.out (Below.size BW1.out) _) hgr2 (by have := Below.size BW1.out; simp; omega) (fun g hg => (World.ownsRow.lt OW1.out g hg).1)
          have OR2 : Hid (w2.ownsRow wr.heap.size 3 1 vr (S.drop p).length (ints (S.drop p))) := World.ownsRow.kept (World.ownsRow.alloc OR1.out _) hgr2 AP.out
          have O2 : Hid (w2.ownsRow w.heap.size 3 1 v2 (p + 1) (ints (S.take p) ++ ints [r])) := own_cast hown2 rfl (by simp [ints, List.map_take])
          clear hgr2 hown2
          obtain ⟨_, ra, rc, rfl, _⟩ := ints_of_own OR2.out
          go_wp2_with (at_builtin; refine wpA _ rfl _ _ rfl w.heap.size _ _ _ rfl O2.out _ (S.drop p) _ _ rfl rfl (own_ints OR2.out) ?c1 ?c2 ?_)
          all_goals try (case c1 => first | omega | (simp; omega))
          all_goals try (case c2 => exact Below.size B2.out)
          intro v3 w3 hown3 hgr3 _
          have B3 : Hid (Below w.heap.size w w3) := Below.grown B2.out hgr3 (Below.size B2.out) (fun g hg => (World.ownsRow.lt O2.out g hg).1)
          clear hgr3
          go_wp2
          go_roundw
          case rel => exact ⟨k + 1, by omega, by go_num, own_cast hown3 (by rw [HRES.out]; simp; omega) (by rw [HRES.out]; simp [ints, List.map_take, List.map_drop]), B3.out⟩
          case measure => simp [intOf]; omega
    · obtain rfl : k = L.length := by omega
      rw [List.take_length] at hown
      go_wp2
      go_ret
      exact ⟨_, rfl, hown, hbw⟩
end Go.Proofs.Ytjfehgmpcgepnaa
