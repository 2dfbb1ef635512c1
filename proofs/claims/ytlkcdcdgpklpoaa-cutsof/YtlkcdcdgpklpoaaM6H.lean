/-
  A machine of states in memory of its own grows by a row, by a flag; copyOfList of the program.
-/
import Derived.Test.YtlkcdcdgpklpoaaM6F
import Derived.Maps.AppendAt
import Derived.Deep.RegionHeldLaw
import Derived.Deep.RegionLaw
namespace Go.Proofs.Ytlkcdcdgpklpoaa
open Go.ChangeShapes Go.WideShapes Go.ChangeAt Go.RowKit
theorem infoInts : ∃ i, Try.prog.info? 26 = some i ∧ i.zero = some (.slice none 0 0) ∧ i.size = 1 ∧ i.bytes = 24 := by
  have h : (Try.prog.info? 26).map (fun i => (i.zero, i.size, i.bytes)) = some (some (.slice none 0 0), 1, 24) := by kernel_rfl
  cases hi : Try.prog.info? 26 with
  | none => rw [hi] at h; cases h
  | some i =>
    rw [hi] at h
    simp only [Option.map_some, Option.some.injEq, Prod.mk.injEq] at h
    exact ⟨i, rfl, h.1, h.2.1, h.2.2⟩
theorem infoBool : ∃ i, Try.prog.info? 4 = some i ∧ i.zero = some (.bool false) ∧ i.size = 1 ∧ i.bytes = 1 := by
  have h : (Try.prog.info? 4).map (fun i => (i.zero, i.size, i.bytes)) = some (some (.bool false), 1, 1) := by kernel_rfl
  cases hi : Try.prog.info? 4 with
  | none => rw [hi] at h; cases h
  | some i =>
    rw [hi] at h
    simp only [Option.map_some, Option.some.injEq, Prod.mk.injEq] at h
    exact ⟨i, rfl, h.1, h.2.1, h.2.2⟩
theorem new_cell (w : World) (u : Value) (t : TypeId) : (w.alloc (.cells #[u] t)).cell? ⟨w.heap.size, 0, none⟩ = some u := cell_of (heap_last2 _ _ _ rfl) 0
/-- One row more behind a row of rows. -/
theorem step_row {ops : Array Oper} {o : Oper} {a : Act} {K : Act → World → Prop} {Q' : Exit → Act → World → Prop} {E : Prop} (w : World) (hg : o.guard = none) (s x : Operand)
    (hop : o.op = .call { callee := .builtin .append, args := #[s, x], argTypes := #[24, 24] })
    (base : Nat) (v : Value) (n : Nat) (Q : List Value) (hs : a.eval s = v) (hown : w.ownsRow base 26 1 v n Q) (B cap : Nat) (sa : Option Addr) (sn sc : Nat) (hx : a.eval x = .slice (some ⟨B, 0, none⟩) 1 cap) (hc : w.cell? ⟨B, 0, none⟩ = some (.slice sa sn sc)) (hlen : n ≤ 100000) (hbase : base ≤ w.heap.size)
    (h : ∀ v' w', w'.ownsRow base 26 1 v' (n + 1) (Q ++ [.slice sa sn sc]) → w.grownBy w' v.ownBlock → K (a.put o.dst v') w') :
    if Region.wanted o (yielded ops a.tmps) = true then Oper.wp Try.prog o a w K Q' else E := by
  have hw : Region.wanted o (yielded ops a.tmps) = true := by simp [Region.wanted, hg]
  rw [if_pos hw]
  obtain ⟨i0, hi, hz0, hz1, hz2⟩ := infoInts
  obtain ⟨v', w', h1', h2', h3', -, -⟩ := run_append_own_at (P := Try.prog) w base 24 o.type 26 i0 (.slice none 0 0) 1 24 Try.underlying24 hi hz0 hz1 hz2 rfl (by decide) v n Q hown ⟨B, 0, none⟩ 1 cap [.slice sa sn sc] rfl (fun j u hj => by
    rcases j with _ | j
    · simp at hj; subst hj; simpa [Addr.add] using hc
    · simp at hj) (fun u hu => by simp at hu; subst hu; rfl) (by unfold maxLen; omega) (by omega) hbase
  unfold Oper.wp execOp
  simp only [hop, resolve, invoke, builtin, Sem.run_bind, Sem.run_pure, Result.andThen_ok, List.map_toArray, List.map_cons, List.map_nil, hs, hx, h1']
  exact h v' w' h2' h3'
/-- One flag more behind a row of flags. -/
theorem step_flag {ops : Array Oper} {o : Oper} {a : Act} {K : Act → World → Prop} {Q' : Exit → Act → World → Prop} {E : Prop} (w : World) (hg : o.guard = none) (s x : Operand)
    (hop : o.op = .call { callee := .builtin .append, args := #[s, x], argTypes := #[71, 71] })
    (base : Nat) (v : Value) (n : Nat) (Q : List Value) (hs : a.eval s = v) (hown : w.ownsRow base 4 1 v n Q) (B cap : Nat) (f : Bool) (hx : a.eval x = .slice (some ⟨B, 0, none⟩) 1 cap) (hc : w.cell? ⟨B, 0, none⟩ = some (.bool f)) (hlen : n ≤ 100000) (hbase : base ≤ w.heap.size)
    (h : ∀ v' w', w'.ownsRow base 4 1 v' (n + 1) (Q ++ [.bool f]) → w.grownBy w' v.ownBlock → K (a.put o.dst v') w') :
    if Region.wanted o (yielded ops a.tmps) = true then Oper.wp Try.prog o a w K Q' else E := by
  have hw : Region.wanted o (yielded ops a.tmps) = true := by simp [Region.wanted, hg]
  rw [if_pos hw]
  obtain ⟨i0, hi, hz0, hz1, hz2⟩ := infoBool
  obtain ⟨v', w', h1', h2', h3', -, -⟩ := run_append_own_at (P := Try.prog) w base 71 o.type 4 i0 (.bool false) 1 1 Try.underlying71 hi hz0 hz1 hz2 rfl (by decide) v n Q hown ⟨B, 0, none⟩ 1 cap [.bool f] rfl (fun j u hj => by
    rcases j with _ | j
    · simp at hj; subst hj; simpa [Addr.add] using hc
    · simp at hj) (fun u hu => by simp at hu; subst hu; rfl) (by unfold maxLen; omega) (by omega) hbase
  unfold Oper.wp execOp
  simp only [hop, resolve, invoke, builtin, Sem.run_bind, Sem.run_pure, Result.andThen_ok, List.map_toArray, List.map_cons, List.map_nil, hs, hx, h1']
  exact h v' w' h2' h3'
/-- A block of another type is no own row. -/
theorem own_blk_ne {w : World} {X : Nat} {cs : Array Value} {t : TypeId} (hb : w.heap[X]? = some (.cells cs t)) {base : Nat} {e : TypeId} {size : Nat} {v : Value} {n : Nat} {xs : List Value} (ho : w.ownsRow base e size v n xs) (ne : e ≠ t) : v.ownBlock = none ∨ v.ownBlock ≠ some X := by
  rcases ho.2 with ⟨rfl, -⟩ | ⟨g, cap, cur, rfl, -, h3, -⟩
  · exact .inl rfl
  · refine .inr fun e' => ?_
    have e'' : g = X := by simpa [Value.ownBlock] using e'
    subst e''
    rw [hb] at h3
    have := Option.some.inj h3
    simp at this
    exact ne this.2.symm
theorem ne3 : (3 : TypeId) ≠ 73 := by decide
theorem ne4 : (4 : TypeId) ≠ 73 := by decide
theorem neI : (26 : TypeId) ≠ 73 := by decide
theorem ne34 : (3 : TypeId) ≠ 4 := by decide
theorem neI4 : (26 : TypeId) ≠ 4 := by decide
theorem ne43 : (4 : TypeId) ≠ 3 := by decide
theorem ne4I : (4 : TypeId) ≠ 26 := by decide
/-- A cell of a machine's own block is written. -/
theorem OwnD.cell {w : World} {base X o : Nat} {cs : Array Value} {u : Value} {v0 v1 v2 : Value} {C : List Int} {n : Nat} {f : Nat → List Int} {F : List Bool} (h : OwnD w base v0 v1 v2 C n f F) (hb : w.heap[X]? = some (.cells cs 73)) : OwnD (w.setCell ⟨X, o, none⟩ u) base v0 v1 v2 C n f F := by
  obtain ⟨h0, h2, Q, q1, q2, q3, q4, q5⟩ := h
  have g := grown_set w X o u
  exact ⟨World.ownsRow.kept h0 g (own_blk_ne hb h0 ne3), World.ownsRow.kept h2 g (own_blk_ne hb h2 ne4), Q, q1, World.ownsRow.kept q2 g (own_blk_ne hb q2 neI), fun j hj => World.ownsRow.kept (q3 j hj) g (own_blk_ne hb (q3 j hj) ne3), q4, q5⟩
theorem grown_blk {w w' : World} {row : Option Nat} (hg : w.grownBy w' row) {X : Nat} {o : Obj} (hb : w.heap[X]? = some o) (hn : row = none ∨ row ≠ some X) : w'.heap[X]? = some o := by
  rw [hg.block X (Array.getElem?_eq_some_iff.1 hb).1 (fun e => by rcases hn with h | h <;> simp_all)]
  exact hb
/-- One row more. -/
theorem OwnD.pushRow {w w2 w3 : World} {base : Nat} {v0 v1 v1' v2 u : Value} {C : List Int} {n : Nat} {f : Nat → List Int} {F : List Bool} (h0 : w.ownsRow base 3 1 v0 C.length (ints C)) (h2 : w.ownsRow base 4 1 v2 F.length (flags F)) (Q : List Value) (q1 : Q.length = n) (q2 : w.ownsRow base 26 1 v1 n Q)
    (q3 : ∀ j, j < n → w.ownsRow base 3 1 (vd Q j) (f j).length (ints (f j))) (q4 : ∀ i j, i < n → j < n → i ≠ j → (vd Q i).ownBlock = none ∨ (vd Q i).ownBlock ≠ (vd Q j).ownBlock) (q5 : ∀ j, j < n → v0.ownBlock = none ∨ v0.ownBlock ≠ (vd Q j).ownBlock) (hle : base ≤ w.heap.size)
    (hb : Below w.heap.size w w2) (hu : w2.ownsRow w.heap.size 3 1 u (f n).length (ints (f n))) (hr : w3.ownsRow base 26 1 v1' (n + 1) (Q ++ [u])) (hg : w2.grownBy w3 v1.ownBlock) : OwnD w3 base v0 v1' v2 C (n + 1) f F := by
  have r2 := World.ownsRow.keepB q2 hb
  have k3 : ∀ {v : Value} {m : Nat} {ys : List Value}, w2.ownsRow base 3 1 v m ys → w3.ownsRow base 3 1 v m ys := fun ho => World.ownsRow.kept ho hg (types_apart ne_ints' ho r2)
  have l2 := World.ownsRow.keepB h2 hb
  have old : ∀ j, j < n → vd (Q ++ [u]) j = vd Q j := fun j hj => by simp [vd, List.getD, List.getElem?_append_left (by omega : j < Q.length)]
  have new : vd (Q ++ [u]) n = u := by subst q1; simp [vd, List.getD]
  have far : ∀ {v : Value} {m : Nat} {ys : List Value}, w.ownsRow base 3 1 v m ys → (v.ownBlock = none ∨ v.ownBlock ≠ u.ownBlock) ∧ (u.ownBlock = none ∨ u.ownBlock ≠ v.ownBlock) := fun {v m ys} ho => by
    have lt := World.ownsRow.lt ho
    have lu := World.ownsRow.lt hu
    cases h1 : v.ownBlock with
    | none => cases h2 : u.ownBlock with
      | none => exact ⟨.inl rfl, .inl rfl⟩
      | some g => exact ⟨.inl rfl, .inr (by simp)⟩
    | some a =>
      have := (lt a h1).2
      cases h2 : u.ownBlock with
      | none => exact ⟨.inr (by simp), .inl rfl⟩
      | some g =>
        have := (lu g h2).1
        exact ⟨.inr (fun e => by have := Option.some.inj e; omega), .inr (fun e => by have := Option.some.inj e; omega)⟩
  refine ⟨k3 (World.ownsRow.keepB h0 hb), World.ownsRow.kept l2 hg (types_apart ne4I l2 r2), Q ++ [u], by simp [q1], hr, fun j hj => ?_, fun i j hi hj hij => ?_, fun j hj => ?_⟩
  · by_cases e : j = n
    · subst e; rw [new]; exact k3 (own_mono hu hle)
    · rw [old j (by omega)]; exact k3 (World.ownsRow.keepB (q3 j (by omega)) hb)
  · by_cases e : i = n
    · subst e
      rw [new, old j (by omega)]
      exact (far (q3 j (by omega))).2
    · by_cases e' : j = n
      · subst e'
        rw [new, old i (by omega)]
        exact (far (q3 i (by omega))).1
      · rw [old i (by omega), old j (by omega)]
        exact q4 i j (by omega) (by omega) hij
  · by_cases e : j = n
    · subst e; rw [new]; exact (far h0).1
    · rw [old j (by omega)]; exact q5 j (by omega)
/-- One flag more. -/
theorem OwnD.pushFlag {w w2 w3 : World} {base : Nat} {v0 v1 v2 v2' : Value} {C : List Int} {n : Nat} {f : Nat → List Int} {F : List Bool} {x : Bool} (h : OwnD w base v0 v1 v2 C n f F) (hb : Below w.heap.size w w2) (hr : w3.ownsRow base 4 1 v2' (F.length + 1) (flags F ++ [.bool x])) (hg : w2.grownBy w3 v2.ownBlock) : OwnD w3 base v0 v1 v2' C n f (F ++ [x]) := by
  obtain ⟨h0, h2, Q, q1, q2, q3, q4, q5⟩ := h.keepB hb
  refine ⟨World.ownsRow.kept h0 hg (types_apart ne34 h0 h2), by simpa [flags] using hr, Q, q1, World.ownsRow.kept q2 hg (types_apart neI4 q2 h2), fun j hj => World.ownsRow.kept (q3 j hj) hg (types_apart ne34 (q3 j hj) h2), q4, q5⟩
set_option maxRecDepth 100000 in
set_option maxHeartbeats 1000000 in
theorem icopy_any (L : List Int) (ao : Option Addr) (n cap : Nat) (w : World) (hn : n = L.length) (hl : L.length ≤ 1048576) (hA : IntsAt w ao L) :
    Calls Try.prog 130 #[.slice ao n cap] w fun e w' => ∃ v, e = .returned v ∧ w'.ownsRow w.heap.size 3 1 v L.length (ints L) ∧ Below w.heap.size w w' := by
  have HA : Hid _ := hA
  clear hA
  go_enter Try.func130, Try.ntmps130
  go_wp2_with (at_builtin; refine wpA _ rfl _ _ rfl w.heap.size _ _ _ rfl (World.ownsRow_nil _ _ _ _) ao L n cap rfl hn HA.out ?c1 ?c2 ?_)
  case c1 => simp; omega
  case c2 => simp
  intro v' w2 hown2 hgrow _
  have hb2 : Below w.heap.size w w2 := Below.grown (Below.refl _ _) hgrow (Nat.le_refl _) (fun g hg => by simp [Value.ownBlock] at hg)
  clear hgrow
  go_wp2
  go_ret
  subst hn
  exact ⟨_, rfl, by simpa [ints] using hown2, hb2⟩
end Go.Proofs.Ytlkcdcdgpklpoaa
