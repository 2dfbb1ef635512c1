/-
  append of a list that lies anywhere onto a row of one's own; a copy (spec.l1Own); sorting in the specification (spec.l3Sort).
-/
import Derived.Test.YtlkcdcdgpklpoaaN3D
import Derived.Test.YtlkcdcdgpklpoaaN3P2
namespace Go.Proofs.Ytlkcdcdgpklpoaa
open Go.ChangeShapes Go.WideShapes Go.ChangeAt Go.RowKit
theorem run_append_ints (w : World) (base : Nat) (ty : TypeId) (v : Value) (n : Nat) (xs : List Value) (hown : w.ownsRow base 3 1 v n xs) (ao : Option Addr) (L : List Int) (m cap : Nat) (hm : m = L.length) (hA : IntsAt w ao L) (hlen : n + m ≤ 4000000) (hbase : base ≤ w.heap.size) :
    ∃ v' w', (Builtin.append_ #[26, 26] ty #[v, .slice ao m cap]).run Try.prog w = .ok v' w' ∧ w'.ownsRow base 3 1 v' (n + m) (xs ++ ints L) ∧ w.grownBy w' v.ownBlock ∧ (v'.ownBlock = v.ownBlock ∨ v'.ownBlock = some w.heap.size) := by
  subst hm
  obtain ⟨i0, hi, hz0, hz1, hz2⟩ := info_parts Try.info3
  have ht := Try.underlying26
  cases ao with
  | none =>
    have h0 : L = [] := by
      cases L with
      | nil => rfl
      | cons x L => obtain ⟨b, off, h, _⟩ := hA 0 (by simp); cases h
    subst h0
    refine ⟨v, w, ?_, by simpa [ints] using hown, ⟨rfl, rfl, rfl, Nat.le_refl _, fun _ _ _ => rfl⟩, Or.inl rfl⟩
    rcases hown.2 with ⟨rfl, rfl⟩ | ⟨g, cap, cur, rfl, hbg, hg, hnc, hcm, hcs, htake⟩
    · simp [Builtin.append_, run_underlying ht, sizeOf, typeInfo, hi, Builtin.lenOf, Builtin.firstCells]
    · simp [Builtin.append_, run_underlying ht, sizeOf, typeInfo, hi, Builtin.lenOf, Builtin.firstCells, storeCells, hnc]
  | some a =>
    obtain ⟨v', w', h1', h2', h3', -, h5'⟩ := run_append_own_at (P := Try.prog) w base 26 ty 3 i0 (.int .i64 0) 1 8 ht hi hz0 hz1 hz2 rfl (by decide) v n xs hown a L.length cap (ints L) (by simp [ints]) (fun j u hj => by
      have hjl : j < L.length := by
        rcases Nat.lt_or_ge j L.length with h | h
        · exact h
        · simp [ints, List.getElem?_eq_none h] at hj
      obtain ⟨b, off, he, _, hc⟩ := hA j hjl
      cases he
      have hp : (⟨b, off, none⟩ : Addr).add j = ⟨b, off + j, none⟩ := by unfold Addr.add; split <;> simp_all
      rw [hp, hc]
      simp [ints, hjl] at hj
      rw [← hj]
      simp [List.getD, hjl]) (ints_one _) (by unfold maxLen; omega) (by omega) hbase
    exact ⟨v', w', h1', h2', h3', h5'⟩
theorem wpA (w : World) {ops : Array Oper} {rest : List Oper} {o : Oper} {a : Act} {Q : Exit → Act → World → Prop} (hgd : o.guard = none) (s x : Operand)
    (ho : o.op = .call { callee := .builtin .append, args := #[s, x], argTypes := #[26, 26] })
    (base : Nat) (v : Value) (n : Nat) (xs : List Value) (hs : a.eval s = v) (hown : w.ownsRow base 3 1 v n xs)
    (ao : Option Addr) (L : List Int) (m cap : Nat) (hx : a.eval x = .slice ao m cap) (hm : m = L.length) (hA : IntsAt w ao L)
    (hlen : n + m ≤ 4000000) (hbase : base ≤ w.heap.size)
    (h : ∀ v' w', w'.ownsRow base 3 1 v' (n + m) (xs ++ ints L) → w.grownBy w' v.ownBlock → (v'.ownBlock = v.ownBlock ∨ v'.ownBlock = some w.heap.size) → wpList Try.prog ops Q rest (a.put o.dst v') w') :
    wpList Try.prog ops Q (o :: rest) a w := by
  refine wpList_plain hgd fun K hK => ?_
  obtain ⟨v', w', hr, h2, h3, h5⟩ := run_append_ints w base o.type v n xs hown ao L m cap hm hA hlen hbase
  unfold Oper.wp execOp
  simp only [ho, resolve, invoke, builtin, Sem.run_bind, Sem.run_pure, Result.andThen_ok, List.map_toArray, List.map_cons, List.map_nil, hs, hx, hr]
  exact hK _ _ (h v' w' h2 h3 h5)
theorem ints_new (w : World) (x : Int) (t : TypeId) (B : Nat) (hB : B = w.heap.size) : IntsAt (w.alloc (.cells #[.int .i64 x] t)) (some ⟨B, 0, none⟩) [x] := fun j hj => by
  subst hB
  have h0 : j = 0 := by simp at hj; omega
  subst h0
  refine ⟨w.heap.size, 0, rfl, by simp, ?_⟩
  rw [Nat.zero_add, World.cell?_alloc_new]
  simp
/-- The part of a list from a place on. -/
theorem ints_drop {w : World} {base : Nat} {ao : Option Addr} {n cap : Nat} {L : List Int} (h : w.ownsRow base 3 1 (.slice ao n cap) n (ints L)) (k : Nat) (hk : k ≤ n) : IntsAt w (if cap = k then ao else ao.map (·.add (k * 1))) (L.drop k) := fun j hj => by
  have hn := (ints_of_own h).1
  simp at hj
  obtain ⟨b, off, he, hb, hc⟩ := own_ints h (k + j) (by omega)
  have hck : cap ≠ k := by
    rcases h.2 with ⟨h1, h2⟩ | ⟨g, cap', cur, h1, _, _, h2, _⟩
    · omega
    · simp only [Value.slice.injEq, true_and] at h1
      omega
  rw [if_neg hck]
  subst he
  refine ⟨b, off + k, ?_, hb, ?_⟩
  · have : (⟨b, off, none⟩ : Addr).add (k * 1) = ⟨b, off + k, none⟩ := by rw [Nat.mul_one]; unfold Addr.add; split <;> simp_all
    rw [← this]; rfl
  · rw [Nat.add_assoc, hc]
    simp [List.getD]
theorem own_take {w : World} {base : Nat} {ao : Option Addr} {n cap : Nat} {L : List Int} (h : w.ownsRow base 3 1 (.slice ao n cap) n (ints L)) (k : Nat) (hk : k ≤ n) : w.ownsRow base 3 1 (.slice ao k cap) k (ints (L.take k)) := by
  have hn := (ints_of_own h).1
  refine ⟨by simp [ints]; omega, ?_⟩
  rcases h.2 with ⟨h1, h2⟩ | ⟨g, cap', cur, h1, h2, h3, h4, h5, h6, h7⟩
  · simp only [Value.slice.injEq] at h1
    obtain ⟨rfl, _, rfl⟩ := h1
    obtain rfl : k = 0 := by omega
    exact .inl ⟨rfl, rfl⟩
  · simp only [Value.slice.injEq, true_and] at h1
    obtain ⟨rfl, rfl⟩ := h1
    refine .inr ⟨g, cap, cur, rfl, h2, h3, by omega, h5, h6, ?_⟩
    have e : ints (L.take k) = (ints L).take k := by simp [ints, List.map_take]
    rw [e, ← h7, List.take_take]
    congr 1
    omega
theorem own_cast {w : World} {base : Nat} {v : Value} {n n' : Nat} {xs xs' : List Value} (h : w.ownsRow base 3 1 v n xs) (hn : n = n') (hx : xs = xs') : w.ownsRow base 3 1 v n' xs' := by subst hn; subst hx; exact h
set_option maxRecDepth 100000 in
theorem slice_tail {w0 : World} {base : Nat} {ao : Option Addr} {n cap : Nat} {L : List Int} (h : w0.ownsRow base 3 1 (.slice ao n cap) n (ints L)) (k : Nat) (hk : k ≤ n) :
    ∃ A C, (∀ w, (Instr.slice 26 (.slice ao n cap) (some (.int .i64 (k : Int))) none none).run Try.prog w = .ok (.slice A (n - k) C) w) ∧ IntsAt w0 A (L.drop k) := by
  obtain ⟨i0, hi, hz0, hz1, hz2⟩ := info_parts Try.info3
  refine ⟨if cap = k then ao else ao.map (·.add (k * 1)), cap - k, fun w => ?_, ints_drop h k hk⟩
  rw [run_slice_l w 26 ao n cap Try.underlying26 .i64 (k : Int) (by omega) (by omega), show Try.prog.elem 26 = 3 by kernel_rfl]
  simp [sizeOf, typeInfo, hi, hz1, sliced]
set_option maxRecDepth 100000 in
theorem slice_front {w0 : World} {base : Nat} {ao : Option Addr} {n cap : Nat} {L : List Int} (h : w0.ownsRow base 3 1 (.slice ao n cap) n (ints L)) (k : Nat) (hk : k ≤ n) :
    ∀ w, (Instr.slice 26 (.slice ao n cap) none (some (.int .i64 (k : Int))) none).run Try.prog w = .ok (.slice ao k cap) w := fun w => by
  obtain ⟨i0, hi, hz0, hz1, hz2⟩ := info_parts Try.info3
  have hc : n ≤ cap := by
    rcases h.2 with ⟨h1, h2⟩ | ⟨g, cap', cur, h1, _, _, h2, _⟩
    · omega
    · simp only [Value.slice.injEq, true_and] at h1
      omega
  have ha : Option.map (fun x => Addr.add x 0) ao = ao := by
    rcases h.2 with ⟨h1, h2⟩ | ⟨g, cap', cur, h1, _, _, h2, _⟩
    · simp only [Value.slice.injEq] at h1
      rw [h1.1]; rfl
    · simp only [Value.slice.injEq, true_and] at h1
      rw [h1.1]; rfl
  rw [run_slice_h w 26 ao n cap Try.underlying26 .i64 (k : Int) (by omega) (by omega), show Try.prog.elem 26 = 3 by kernel_rfl]
  simp [sizeOf, typeInfo, hi, hz1, sliced, ha]
set_option maxRecDepth 100000 in
set_option maxHeartbeats 1000000 in
theorem sown_any (L : List Int) (ao : Option Addr) (n cap : Nat) (w : World) (hn : n = L.length) (hl : L.length ≤ 1048576) (hA : IntsAt w ao L) :
    Calls Try.prog 124 #[.slice ao n cap] w fun e w' => ∃ v, e = .returned v ∧ w'.ownsRow w.heap.size 3 1 v L.length (ints L) ∧ Below w.heap.size w w' := by
  have HA : Hid _ := hA
  have B1 : ∀ o, Below w.heap.size w (w.alloc o) := fun o => (Below.refl _ _).alloc (Nat.le_refl _) o
  clear hA
  go_enter Try.func124, Try.ntmps124
  go_wp2_with (at_builtin; refine wpA _ rfl _ _ rfl w.heap.size _ _ _ rfl (row_lit w [] _ rfl 0 rfl (by simp)) ao L n cap rfl hn (IntsAt.below HA.out (B1 _)) ?c1 ?c2 ?_)
  case c1 => simp; omega
  case c2 => simp
  intro v' w2 hown2 hgrow _
  have hb2 : Below w.heap.size w w2 := Below.grown (B1 _) hgrow (B1 _).size (fun g hg => by simp [Value.ownBlock] at hg; omega)
  clear hgrow
  go_wp2
  go_ret
  subst hn
  exact ⟨_, rfl, by simpa [ints] using hown2, hb2⟩
end Go.Proofs.Ytlkcdcdgpklpoaa
