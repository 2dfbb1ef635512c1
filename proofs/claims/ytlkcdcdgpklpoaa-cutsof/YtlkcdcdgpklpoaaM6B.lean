/-
  Lists of rows and of flags in memory of their own; the laws' sizes, copies and comparisons of them.
-/
import Derived.Test.YtlkcdcdgpklpoaaM6A
import Derived.Test.YtlkcdcdgpklpoaaMarkC
namespace Go.Proofs.Ytlkcdcdgpklpoaa
open Go.ChangeShapes Go.WideShapes Go.ChangeAt Go.RowKit
def vd (Q : List Value) (j : Nat) : Value := Q.getD j (.slice none 0 0)
theorem vd_at (Q : List Value) (j : Nat) (h : j < Q.length) : Q[j]? = some (vd Q j) := by simp [vd, List.getD, h]
theorem vd_set (Q : List Value) (i j : Nat) (x : Value) (hi : i < Q.length) : vd (Q.set i x) j = if i = j then x else vd Q j := by
  unfold vd List.getD
  rw [List.getElem?_set]
  by_cases e : i = j
  · subst e; simp [hi]
  · simp [e]
/-- Rows, by their places, in memory of their own; of n rows the first k are laid. -/
def OwnR (w : World) (base : Nat) (v : Value) (n k : Nat) (f : Nat → List Int) : Prop :=
  ∃ Q : List Value, Q.length = n ∧ w.ownsRow base 26 1 v n Q ∧ (∀ j, j < k → w.ownsRow base 3 1 (vd Q j) (f j).length (ints (f j))) ∧
    ∀ i j, i < k → j < k → i ≠ j → (vd Q i).ownBlock = none ∨ (vd Q i).ownBlock ≠ (vd Q j).ownBlock
/-- Rows, by their places, where a slice of that length begins. -/
def RowF (w : World) (ao : Option Addr) (n : Nat) (f : Nat → List Int) : Prop :=
  ∀ j, j < n → ∃ b off sa sc, ao = some ⟨b, off, none⟩ ∧ b < w.heap.size ∧ w.cell? ⟨b, off + j, none⟩ = some (.slice sa (f j).length sc) ∧ IntsAt w sa (f j)
theorem OwnR.form {w : World} {base : Nat} {v : Value} {n : Nat} {f : Nat → List Int} (h : OwnR w base v n n f) : ∃ ao cap, v = .slice ao n cap ∧ RowF w ao n f := by
  obtain ⟨Q, hQ, hr, hs, -⟩ := h
  rcases hr.2 with ⟨rfl, h0⟩ | ⟨g, cap, cur, rfl, h2, h3, h4⟩
  · exact ⟨none, 0, by rw [h0], fun j hj => by omega⟩
  · refine ⟨_, _, rfl, fun j hj => ?_⟩
    obtain ⟨-, a, c, hv, hi⟩ := ints_of_own (hs j hj)
    refine ⟨g, 0, a, c, rfl, (Array.getElem?_eq_some_iff.1 h3).1, ?_, hi⟩
    rw [Nat.zero_add, World.ownsRow.cellAt hr j (by omega), vd_at Q j (by omega), hv]
theorem OwnR.rows {w : World} {base : Nat} {v : Value} {R : Rw} (h : OwnR w base v R.length R.length (rw_ R)) : ∃ ao cap, v = .slice ao R.length cap ∧ RowsAt w ao R := h.form
theorem OwnR.keepB {w w' : World} {base : Nat} {v : Value} {n k : Nat} {f : Nat → List Int} (h : OwnR w base v n k f) (hb : Below w.heap.size w w') : OwnR w' base v n k f := by
  obtain ⟨Q, hQ, hr, hs, ha⟩ := h
  exact ⟨Q, hQ, World.ownsRow.keepB hr hb, fun j hj => World.ownsRow.keepB (hs j hj) hb, ha⟩
theorem own_ne' {w : World} {base : Nat} {e : TypeId} {size : Nat} {v : Value} {n : Nat} {xs : List Value} (h : w.ownsRow base e size v n xs) {row : Option Nat} (hr' : ∀ g, row = some g → g < base) : v.ownBlock = none ∨ v.ownBlock ≠ row := by
  cases row with
  | none => cases hu : v.ownBlock with
    | none => exact .inl rfl
    | some g => exact .inr (by simp)
  | some g => exact own_ne h (hr' g rfl)
theorem OwnR.kept {w w' : World} {base : Nat} {v : Value} {n k : Nat} {f : Nat → List Int} (h : OwnR w base v n k f) {row : Option Nat} (hg : w.grownBy w' row) (hr' : ∀ g, row = some g → g < base) : OwnR w' base v n k f := by
  obtain ⟨Q, hQ, hr, hs, ha⟩ := h
  exact ⟨Q, hQ, World.ownsRow.kept hr hg (own_ne' hr hr'), fun j hj => World.ownsRow.kept (hs j hj) hg (own_ne' (hs j hj) hr'), ha⟩
theorem OwnR.cast {w : World} {base : Nat} {v : Value} {n k : Nat} {f f' : Nat → List Int} (h : OwnR w base v n k f) (he : ∀ j, j < k → f j = f' j) : OwnR w base v n k f' := by
  obtain ⟨Q, hQ, hr, hs, ha⟩ := h
  exact ⟨Q, hQ, hr, fun j hj => by rw [← he j hj]; exact hs j hj, ha⟩
theorem OwnR.mono {w : World} {base base' : Nat} {v : Value} {n k : Nat} {f : Nat → List Int} (h : OwnR w base v n k f) (hb : base' ≤ base) : OwnR w base' v n k f := by
  obtain ⟨Q, hQ, hr, hs, ha⟩ := h
  exact ⟨Q, hQ, own_mono hr hb, fun j hj => own_mono (hs j hj) hb, ha⟩
theorem ownR_none (w : World) (base : Nat) (f : Nat → List Int) : OwnR w base (.slice none 0 0) 0 0 f :=
  ⟨[], rfl, World.ownsRow_nil _ _ _ _, fun j hj => by omega, fun i j hi => by omega⟩
/-- Rows of two types are two blocks. -/
theorem types_apart {w : World} {b1 b2 s1 s2 : Nat} {e1 e2 : TypeId} (ne : e1 ≠ e2) {v u : Value} {n m : Nat} {xs ys : List Value} (h : w.ownsRow b1 e1 s1 v n xs) (k : w.ownsRow b2 e2 s2 u m ys) : v.ownBlock = none ∨ v.ownBlock ≠ u.ownBlock := by
  rcases h.2 with ⟨rfl, -⟩ | ⟨g, cap, cur, rfl, -, h3, -⟩
  · exact .inl rfl
  · rcases k.2 with ⟨rfl, -⟩ | ⟨g', cap', cur', rfl, -, k3, -⟩
    · exact .inr (by simp [Value.ownBlock])
    · refine .inr fun e => ?_
      have e' : g = g' := by simpa [Value.ownBlock] using e
      subst e'
      rw [h3] at k3
      have := Option.some.inj k3
      simp at this
      exact ne this.2
theorem ne_ints : (26 : TypeId) ≠ 3 := by decide
theorem ne_ints' : (3 : TypeId) ≠ 26 := by decide
theorem make_rows (w : World) (n : Nat) (hn : n ≤ 1048576) : ∃ w', (Instr.makeSlice 24 (.int .i64 (n : Int)) (.int .i64 (n : Int))).run Try.prog w = .ok (.slice (some ⟨w.heap.size, 0, none⟩) n n) w' ∧
    w'.ownsRow w.heap.size 26 1 (.slice (some ⟨w.heap.size, 0, none⟩) n n) n (List.replicate n (.slice none 0 0)) ∧ Below w.heap.size w w' := by
  have hinfo : ∃ i, Try.prog.info? 26 = some i ∧ i.zero = some (.slice none 0 0) ∧ i.size = 1 ∧ i.bytes = 24 := by
    have h : (Try.prog.info? 26).map (fun i => (i.zero, i.size, i.bytes)) = some (some (.slice none 0 0), 1, 24) := by kernel_rfl
    cases hi : Try.prog.info? 26 with
    | none => rw [hi] at h; cases h
    | some i =>
      rw [hi] at h
      simp only [Option.map_some, Option.some.injEq, Prod.mk.injEq] at h
      exact ⟨i, rfl, h.1, h.2.1, h.2.2⟩
  obtain ⟨i0, hi, hz0, hz1, hz2⟩ := hinfo
  obtain ⟨w1, h1, h2, h3⟩ := run_make_full (P := Try.prog) w w.heap.size 24 26 i0 (.slice none 0 0) 1 Try.underlying24 hi hz0 hz1 .i64 .i64 n (by rw [hz2]; omega) (by unfold maxLen; omega) (Nat.le_refl _)
  refine ⟨w1, h1, ?_, Below.grown (Below.refl _ _) h3 (Nat.le_refl _) (fun g hg => by cases hg)⟩
  have e : (madeCells (Value.cells (.slice none 0 0)) (n * 1)).toList = List.replicate n (.slice none 0 0) := by
    rw [Nat.mul_one, show Value.cells (.slice none 0 0) = #[.slice none 0 0] from rfl, toList_madeCells_one]
  rw [e] at h2
  exact h2
theorem make_flags (w : World) (n : Nat) (hn : n ≤ 1048576) : ∃ w', (Instr.makeSlice 71 (.int .i64 (n : Int)) (.int .i64 (n : Int))).run Try.prog w = .ok (.slice (some ⟨w.heap.size, 0, none⟩) n n) w' ∧
    w'.ownsRow w.heap.size 4 1 (.slice (some ⟨w.heap.size, 0, none⟩) n n) n (List.replicate n (.bool false)) ∧ Below w.heap.size w w' := by
  have hinfo : ∃ i, Try.prog.info? 4 = some i ∧ i.zero = some (.bool false) ∧ i.size = 1 ∧ i.bytes = 1 := by
    have h : (Try.prog.info? 4).map (fun i => (i.zero, i.size, i.bytes)) = some (some (.bool false), 1, 1) := by kernel_rfl
    cases hi : Try.prog.info? 4 with
    | none => rw [hi] at h; cases h
    | some i =>
      rw [hi] at h
      simp only [Option.map_some, Option.some.injEq, Prod.mk.injEq] at h
      exact ⟨i, rfl, h.1, h.2.1, h.2.2⟩
  obtain ⟨i0, hi, hz0, hz1, hz2⟩ := hinfo
  obtain ⟨w1, h1, h2, h3⟩ := run_make_full (P := Try.prog) w w.heap.size 71 4 i0 (.bool false) 1 Try.underlying71 hi hz0 hz1 .i64 .i64 n (by rw [hz2]; omega) (by unfold maxLen; omega) (Nat.le_refl _)
  refine ⟨w1, h1, ?_, Below.grown (Below.refl _ _) h3 (Nat.le_refl _) (fun g hg => by cases hg)⟩
  have e : (madeCells (Value.cells (.bool false)) (n * 1)).toList = List.replicate n (.bool false) := by
    rw [Nat.mul_one, show Value.cells (.bool false) = #[.bool false] from rfl, toList_madeCells_one]
  rw [e] at h2
  exact h2
/-- Row k is laid, in memory made behind. -/
theorem OwnR.lay {w w2 : World} {base g cap : Nat} {n k : Nat} {f : Nat → List Int} (h : OwnR w base (.slice (some ⟨g, 0, none⟩) n cap) n k f) (hk : k < n) (u : Value) (hu : w2.ownsRow w.heap.size 3 1 u (f k).length (ints (f k))) (hb : Below w.heap.size w w2) :
    OwnR (w2.setCell ⟨g, k, none⟩ u) base (.slice (some ⟨g, 0, none⟩) n cap) n (k + 1) f ∧ w2.grownBy (w2.setCell ⟨g, k, none⟩ u) (some g) ∧ w2.frozen? ⟨g, k, none⟩ = false ∧ (∃ u0, w2.cell? ⟨g, k, none⟩ = some u0) ∧ base ≤ g ∧ g < w.heap.size := by
  obtain ⟨hlb, hlt⟩ := (h.choose_spec.2.1).lt g rfl
  obtain ⟨Q, hQ, hr, hs, ha⟩ := h
  have hle : base ≤ w.heap.size := by omega
  have hr2 := World.ownsRow.keepB hr hb
  have st := World.ownsRow.stored hr2 k u
  have hu2 : w2.ownsRow base 3 1 u (f k).length (ints (f k)) := own_mono hu hle
  have set1 : ∀ {v' : Value} {m : Nat} {ys : List Value}, w2.ownsRow base 3 1 v' m ys → (w2.setCell ⟨g, k, none⟩ u).ownsRow base 3 1 v' m ys := fun ho => World.ownsRow.kept ho st.2 (types_apart ne_ints' ho hr2)
  refine ⟨⟨Q.set k u, by simp [hQ], st.1, fun j hj => ?_, fun i j hi hj hij => ?_⟩, st.2, hr2.frozenAt k, ⟨_, (World.ownsRow.cellAt hr2 k (by omega)).trans (vd_at Q k (by omega))⟩, hlb, hlt⟩
  · rw [vd_set Q k j _ (by omega)]
    by_cases e : k = j
    · subst e; rw [if_pos rfl]; exact set1 hu2
    · rw [if_neg e]; exact set1 (World.ownsRow.keepB (hs j (by omega)) hb)
  · rw [vd_set Q k i _ (by omega), vd_set Q k j _ (by omega)]
    by_cases e : k = i
    · subst e
      rw [if_pos rfl, if_neg hij]
      cases hub : u.ownBlock with
      | none => exact .inl rfl
      | some gu =>
        refine .inr fun e' => ?_
        have h1 := (World.ownsRow.lt hu gu hub).1
        have h2 := (World.ownsRow.lt (hs j (by omega)) gu e'.symm).2
        omega
    · rw [if_neg e]
      by_cases e2 : k = j
      · subst e2
        rw [if_pos rfl]
        cases hvb : (vd Q i).ownBlock with
        | none => exact .inl rfl
        | some gv =>
          refine .inr fun e' => ?_
          have h1 := (World.ownsRow.lt hu gv e'.symm).1
          have h2 := (World.ownsRow.lt (hs i (by omega)) gv hvb).2
          omega
      · rw [if_neg e2]; exact ha i j (by omega) (by omega) hij
end Go.Proofs.Ytlkcdcdgpklpoaa
