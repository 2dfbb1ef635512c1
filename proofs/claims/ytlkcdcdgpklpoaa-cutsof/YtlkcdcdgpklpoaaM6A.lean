/-
  Lists of lists of numbers and lists of flags in memory; the laws' sizes, copies and comparisons of them.
-/
import Derived.Test.YtlkcdcdgpklpoaaR5D
import Derived.Deep.Slices
import Derived.Lib.SmallJoins
namespace Go.Proofs.Ytlkcdcdgpklpoaa
open Go.ChangeShapes Go.WideShapes Go.ChangeAt Go.WideMaps Go.WideElems Go.RowKit
abbrev Rw := List (List Int)
/-- The row at a place. -/
def rw_ (R : Rw) (j : Nat) : List Int := R.getD j []
/-- A list of rows lies where a slice of that length begins. -/
def RowsAt (w : World) (ao : Option Addr) (R : Rw) : Prop :=
  ∀ j, j < R.length → ∃ b off sa sc, ao = some ⟨b, off, none⟩ ∧ b < w.heap.size ∧ w.cell? ⟨b, off + j, none⟩ = some (.slice sa (rw_ R j).length sc) ∧ IntsAt w sa (rw_ R j)
theorem RowsAt.keepB {w w' : World} {ao : Option Addr} {R : Rw} (h : RowsAt w ao R) (hb : Below w.heap.size w w') : RowsAt w' ao R := fun j hj => by
  obtain ⟨b, off, sa, sc, h1, h2, h3, h5⟩ := h j hj
  exact ⟨b, off, sa, sc, h1, Nat.lt_of_lt_of_le h2 hb.size, (hb.cell (p := ⟨b, off + j, none⟩) h2).trans h3, h5.keepB hb⟩
/-- A list of flags lies where a slice of that length begins. -/
def FlagsAt (w : World) (ao : Option Addr) (F : List Bool) : Prop :=
  ∀ j, j < F.length → ∃ b off, ao = some ⟨b, off, none⟩ ∧ b < w.heap.size ∧ w.cell? ⟨b, off + j, none⟩ = some (.bool (F.getD j false))
theorem FlagsAt.keepB {w w' : World} {ao : Option Addr} {F : List Bool} (h : FlagsAt w ao F) (hb : Below w.heap.size w w') : FlagsAt w' ao F := fun j hj => by
  obtain ⟨b, off, h1, h2, h3⟩ := h j hj
  exact ⟨b, off, h1, Nat.lt_of_lt_of_le h2 hb.size, (hb.cell (p := ⟨b, off + j, none⟩) h2).trans h3⟩
/-- How many values a list of rows holds. -/
def szR (R : Rw) : Nat := R.length + (R.map List.length).sum
def szRK (R : Rw) (k : Nat) : Nat := ((R.take k).map List.length).sum
theorem take_snocR (R : Rw) (k : Nat) (h : k < R.length) : R.take (k + 1) = R.take k ++ [rw_ R k] := by rw [List.take_add_one]; simp [rw_, List.getD, h]
theorem szRK_step (R : Rw) (k : Nat) (h : k < R.length) : szRK R (k + 1) = szRK R k + (rw_ R k).length := by simp [szRK, take_snocR R k h]
theorem szRK_all (R : Rw) : szRK R R.length = (R.map List.length).sum := by simp [szRK]
theorem szRK_mono (R : Rw) (k : Nat) : szRK R k ≤ szRK R R.length := by
  rw [szRK_all]
  conv => rhs; rw [← List.take_append_drop k R, List.map_append, List.sum_append]
  simp [szRK]
theorem rw_len (R : Rw) (k : Nat) (h : k < R.length) : (rw_ R k).length ≤ szR R := by
  have h1 := szRK_step R k h
  have h2 := szRK_mono R (k + 1)
  rw [szRK_all] at h2
  unfold szR
  omega
theorem rw_mem (R : Rw) (k : Nat) (h : k < R.length) : rw_ R k ∈ R := by simp [rw_, List.getD, h]
section
variable {H : Type} {enc : TypeId × Value → H} {W : World} {base : Nat} {held : Bool} {fuel : Nat}
theorem arg_ints {v : Value} {x : DataW H × List MemPlace} (h4 : DataW.trod enc Try.prog W base (fun _ => true) held fuel 26 [v] = some x) :
    ∃ L : List Int, L.length ≤ maxLen ∧ ∃ sa sc, v = .slice sa L.length sc ∧ IntsAt W sa L := by
  rcases open_ints Try.underlying26 Try.underlying3 (by kernel_rfl) h4 with ⟨hcs, _⟩ | ⟨y, l, c, zs, hcs, _, hl', hm', hz, _, hcell, hwz⟩
  · simp only [List.cons.injEq, and_true] at hcs
    exact ⟨[], by simp, none, 0, hcs, fun j hj => absurd hj (by simp)⟩
  · simp only [List.cons.injEq, and_true] at hcs
    have hz' : zs.length = c := by simpa using hz
    refine ⟨zs.take l, by simp; omega, some y, c, by rw [hcs]; simp; omega, fun j hj => ?_⟩
    have hj' : j < l := by simp at hj; omega
    obtain ⟨b, off, rfl, hc⟩ := ints_at hcell (by omega)
    have hcj := hc j (by omega)
    refine ⟨b, off, rfl, World.block_lt_of_cell? W _ hcj, ?_⟩
    rw [hcj]
    simp [List.getD, hj', show j < zs.length by omega]
theorem plain_spot {a : Addr} {v : Value} (h : W.cell? (a.add 0) = some v) : ∃ b off, a = ⟨b, off, none⟩ := by
  obtain ⟨b, off, spot⟩ := a
  have hspot : spot = none := by simpa [Addr.add] using World.cell?_spot h
  subst hspot
  exact ⟨b, off, rfl⟩
theorem arg_rows {v : Value} {x : DataW H × List MemPlace} (h4 : DataW.trod enc Try.prog W base (fun _ => true) held fuel 24 [v] = some x) :
    ∃ R : Rw, R.length ≤ maxLen ∧ (∀ y ∈ R, y.length ≤ maxLen) ∧ ∃ sa sc, v = .slice sa R.length sc ∧ RowsAt W sa R := by
  rcases Go.Deep.open_slice1 Try.underlying24 (by kernel_rfl) h4 with ⟨hcs, _⟩ | ⟨a, len, cap, m, n, V, D, Pl, hcs, hb, hl, hm, hmm, _, hx⟩
  · simp only [List.cons.injEq, and_true] at hcs
    exact ⟨[], by simp, (fun y hy => by cases hy), none, 0, hcs, fun j hj => absurd hj (by simp)⟩
  · simp only [List.cons.injEq, and_true] at hcs
    simp only [if_true] at hmm
    subst hmm
    obtain ⟨sc0, hsc⟩ : ∃ sc, v = .slice (some a) len sc := ⟨_, hcs⟩
    obtain ⟨q, hq⟩ := Go.Deep.choose_lt (fun i (hi : i < len) => arg_ints (hx i (by omega)).2)
    refine ⟨(List.range len).map q, by simp; omega, fun y hy => ?_, some a, sc0, by rw [hsc]; simp, fun j hj => ?_⟩
    · obtain ⟨j, hj, rfl⟩ := List.mem_map.1 hy
      exact (hq j (List.mem_range.1 hj)).1
    · have hj' : j < len := by simpa using hj
      have hn : rw_ ((List.range len).map q) j = q j := by simp [rw_, List.getD, hj']
      rw [hn]
      obtain ⟨-, sa, sc, e1, hI⟩ := hq j hj'
      obtain ⟨b, off, rfl⟩ := plain_spot (hx 0 (by omega)).1
      have h1 := (hx j (by omega)).1
      rw [Go.WideShapes.add_plain] at h1
      exact ⟨b, off, sa, sc, rfl, World.block_lt_of_cell? W _ h1, by rw [h1, e1], hI⟩
theorem arg_flags {v : Value} {x : DataW H × List MemPlace} (h4 : DataW.trod enc Try.prog W base (fun _ => true) held fuel 71 [v] = some x) :
    ∃ F : List Bool, F.length ≤ maxLen ∧ ∃ sa sc, v = .slice sa F.length sc ∧ FlagsAt W sa F := by
  rcases Go.Deep.open_slice1 Try.underlying71 (by kernel_rfl) h4 with ⟨hcs, _⟩ | ⟨a, len, cap, m, n, V, D, Pl, hcs, hb, hl, hm, hmm, _, hx⟩
  · simp only [List.cons.injEq, and_true] at hcs
    exact ⟨[], by simp, none, 0, hcs, fun j hj => absurd hj (by simp)⟩
  · simp only [List.cons.injEq, and_true] at hcs
    simp only [if_true] at hmm
    subst hmm
    obtain ⟨sc0, hsc⟩ : ∃ sc, v = .slice (some a) len sc := ⟨_, hcs⟩
    obtain ⟨q, hq⟩ := Go.Deep.choose_lt (α := Bool) (p := fun i f => V i = .bool f) (fun i (hi : i < len) => by
      obtain ⟨f, e, -⟩ := DataW.trod_bool Try.underlying4 (hx i (by omega)).2
      exact ⟨f, by simpa using e⟩)
    refine ⟨(List.range len).map q, by simp; omega, some a, sc0, by rw [hsc]; simp, fun j hj => ?_⟩
    have hj' : j < len := by simpa using hj
    obtain ⟨b, off, rfl⟩ := plain_spot (hx 0 (by omega)).1
    have h1 := (hx j (by omega)).1
    rw [Go.WideShapes.add_plain] at h1
    refine ⟨b, off, rfl, World.block_lt_of_cell? W _ h1, ?_⟩
    rw [h1, hq j hj']
    simp [List.getD, hj']
end
end Go.Proofs.Ytlkcdcdgpklpoaa
