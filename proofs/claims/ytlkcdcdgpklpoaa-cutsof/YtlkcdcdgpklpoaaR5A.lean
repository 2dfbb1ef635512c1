/-
  Lists of nodes in memory; what an argument of the type []Re holds; whether a list of nodes is one pattern, as a plain function.
-/
import Derived.Test.YtlkcdcdgpklpoaaC4A
import Derived.Test.YtlkcdcdgpklpoaaN3C
import Derived.Deep.SlicePairs
namespace Go.Proofs.Ytlkcdcdgpklpoaa
open Go.ChangeShapes Go.WideShapes Go.ChangeAt Go.WideMaps Go.WideElems Go.RowKit
abbrev Nd := Int × List Int
/-- The node at a place. -/
def nd (P : List Nd) (j : Nat) : Nd := P.getD j (0, [])
/-- A list of nodes lies where a slice of that length begins. -/
def ResAt (w : World) (ao : Option Addr) (P : List Nd) : Prop :=
  ∀ j, j < P.length → ∃ b off sa sc, ao = some ⟨b, off, none⟩ ∧ b < w.heap.size ∧ w.cell? ⟨b, off + j * 2, none⟩ = some (.int .i64 (nd P j).1) ∧ w.cell? ⟨b, off + j * 2 + 1, none⟩ = some (.slice sa (nd P j).2.length sc) ∧ IntsAt w sa (nd P j).2
theorem ResAt.keepB {w w' : World} {ao : Option Addr} {P : List Nd} (h : ResAt w ao P) (hb : Below w.heap.size w w') : ResAt w' ao P := fun j hj => by
  obtain ⟨b, off, sa, sc, h1, h2, h3, h4, h5⟩ := h j hj
  exact ⟨b, off, sa, sc, h1, Nat.lt_of_lt_of_le h2 hb.size, (hb.cell (p := ⟨b, off + j * 2, none⟩) h2).trans h3, (hb.cell (p := ⟨b, off + j * 2 + 1, none⟩) h2).trans h4, h5.keepB hb⟩
/-- How many values a list of nodes holds. -/
def szP (P : List Nd) : Nat := P.length + (P.map fun x => x.2.length).sum
def szK (P : List Nd) (k : Nat) : Nat := ((P.take k).map fun x => x.2.length).sum
theorem take_snocN (P : List Nd) (k : Nat) (h : k < P.length) : P.take (k + 1) = P.take k ++ [nd P k] := by rw [List.take_add_one]; simp [nd, List.getD, h]
theorem szK_step (P : List Nd) (k : Nat) (h : k < P.length) : szK P (k + 1) = szK P k + (nd P k).2.length := by simp [szK, take_snocN P k h]
theorem szK_all (P : List Nd) : szK P P.length = (P.map fun x => x.2.length).sum := by simp [szK]
theorem szK_mono (P : List Nd) (k : Nat) : szK P k ≤ szK P P.length := by
  rw [szK_all]
  conv => rhs; rw [← List.take_append_drop k P, List.map_append, List.sum_append]
  simp [szK]
theorem nd_len (P : List Nd) (k : Nat) (h : k < P.length) : (nd P k).2.length ≤ szP P := by
  have h1 := szK_step P k h
  have h2 := szK_mono P (k + 1)
  rw [szK_all] at h2
  unfold szP
  omega
/-- How many parts a node has; -1: it is none. -/
def arity (op : Int) : Int := if op = 1 ∨ op = 2 then 0 else if op = 6 ∨ op = 7 then 1 else if op = 3 ∨ op = 4 ∨ op = 5 then 2 else -1
def nodeB (x : Nd) : Bool := decide (0 ≤ arity x.1) && (decide (x.1 = 2) || x.2.isEmpty) && (goodS x.2 && allG x.2)
/-- How many are on the pile behind the first k nodes. -/
def pileK (P : List Nd) : Nat → Option Int
  | 0 => some 0
  | k + 1 => (pileK P k).bind fun n => if nodeB (nd P k) = true ∧ arity (nd P k).1 ≤ n then some (n + 1 - arity (nd P k).1) else none
theorem pileK_none {P : List Nd} {k : Nat} (h : pileK P k = none) : ∀ m, pileK P (k + m) = none
  | 0 => h
  | m + 1 => by rw [show k + (m + 1) = (k + m) + 1 by omega, pileK, pileK_none h m]; rfl
theorem pileK_yes {P : List Nd} {k : Nat} {n : Int} (h : pileK P k = some n) (h1 : nodeB (nd P k) = true) (h2 : arity (nd P k).1 ≤ n) : pileK P (k + 1) = some (n + 1 - arity (nd P k).1) := by
  rw [pileK, h]
  simp [h1, h2]
theorem pileK_no {P : List Nd} {k : Nat} {n : Int} (hk : k < P.length) (h : pileK P k = some n) (h1 : ¬ (nodeB (nd P k) = true ∧ arity (nd P k).1 ≤ n)) : pileK P P.length = none := by
  have : pileK P (k + 1) = none := by
    rw [pileK, h]
    simp only [Option.bind_some, if_neg h1]
  have := pileK_none this (P.length - (k + 1))
  rwa [show k + 1 + (P.length - (k + 1)) = P.length by omega] at this
theorem arity_bd (op : Int) : -1 ≤ arity op ∧ arity op ≤ 2 := by
  unfold arity
  repeat' split
  all_goals omega
theorem pileK_bd {P : List Nd} : ∀ {k : Nat} {n : Int}, pileK P k = some n → 0 ≤ n ∧ n ≤ k
  | 0, n, h => by simp only [pileK, Option.some.injEq] at h; omega
  | k + 1, n, h => by
    rw [pileK] at h
    obtain ⟨m, hm, h2⟩ := Option.bind_eq_some_iff.1 h
    have ih := pileK_bd hm
    split at h2
    · rename_i hc
      simp only [Option.some.injEq] at h2
      have := arity_bd (nd P k).1
      have hn : 0 ≤ arity (nd P k).1 := by
        have := hc.1
        simp only [nodeB, Bool.and_eq_true, decide_eq_true_eq] at this
        exact this.1.1
      push_cast
      omega
    · cases h2
def oneP (P : List Nd) : Bool := decide (pileK P P.length = some 1)
def goodP (P : List Nd) : Bool := decide (P.length ≤ 40) && oneP P
theorem argRe_of {H : Type} {enc : TypeId × Value → H} {W : World} {a : Option Addr} {len cap : Nat} {x : DataW H × List MemPlace} {base : Nat} {held : Bool} {fuel : Nat}
    (hf : DataW.trod enc Try.prog W base (fun _ => true) held fuel 47 (Value.cells (.slice a len cap)).toList = some x) : ∃ P : List Nd, P.length = len ∧ ResAt W a P ∧ len ≤ maxLen ∧ ∀ y ∈ P, y.2.length ≤ maxLen := by
  have hf' : DataW.trod enc Try.prog W base (fun _ => true) held fuel 47 [.slice a len cap] = some x := hf
  rcases Go.Deep.open_slice_pairs Try.underlying47 Try.underlying112 (by kernel_rfl) rfl rfl (by kernel_rfl) (by kernel_rfl) hf' with ⟨hcs, _⟩ | ⟨a', len', cap', m, n, V0, V1, D0, D1, P0, P1, hcs, hb, hl, hm, hmm, _, hx⟩
  · simp only [List.cons.injEq, Value.slice.injEq, and_true] at hcs
    obtain ⟨rfl, rfl, rfl⟩ := hcs
    exact ⟨[], rfl, fun j hj => absurd hj (by simp), by unfold maxLen; omega, fun y hy => by cases hy⟩
  · simp only [List.cons.injEq, Value.slice.injEq, and_true] at hcs
    obtain ⟨rfl, rfl, rfl⟩ := hcs
    simp only [if_true] at hmm
    subst hmm
    have each : ∀ i, i < len → ∃ q : Nd, q.2.length ≤ maxLen ∧ V0 i = .int .i64 q.1 ∧ ∃ sa sc, V1 i = .slice sa q.2.length sc ∧ IntsAt W sa q.2 := fun i hi => by
      obtain ⟨-, -, h3, h4⟩ := hx i (by omega)
      obtain ⟨z, e0, -, -⟩ := DataW.trod_int Try.underlying3 h3
      rcases open_ints Try.underlying26 Try.underlying3 (by kernel_rfl) h4 with ⟨hcs, _⟩ | ⟨y, l, c, zs, hcs, _, hl', hm', hz, _, hcell, hwz⟩
      · simp only [List.cons.injEq, and_true] at hcs e0
        exact ⟨(z, []), by simp, e0, none, 0, hcs, fun j hj => absurd hj (by simp)⟩
      · simp only [List.cons.injEq, and_true] at hcs e0
        have hz' : zs.length = c := by simpa using hz
        refine ⟨(z, zs.take l), by simp; omega, e0, some y, c, by rw [hcs]; simp; omega, fun j hj => ?_⟩
        have hj' : j < l := by simp at hj; omega
        obtain ⟨b, off, rfl, hc⟩ := ints_at hcell (by omega)
        have hcj := hc j (by omega)
        refine ⟨b, off, rfl, World.block_lt_of_cell? W _ hcj, ?_⟩
        rw [hcj]
        simp [List.getD, hj', show j < zs.length by omega]
    obtain ⟨q, hq⟩ := Go.Deep.choose_lt each
    refine ⟨(List.range len).map q, by simp, fun j hj => ?_, by omega, fun y hy => ?_⟩
    · have hj' : j < len := by simpa using hj
      have hn : nd ((List.range len).map q) j = q j := by simp [nd, List.getD, hj']
      rw [hn]
      obtain ⟨-, e0, sa, sc, e1, hI⟩ := hq j hj'
      obtain ⟨h1, h2, -, -⟩ := hx j (by omega)
      obtain ⟨h01, -, -, -⟩ := hx 0 (by omega)
      obtain ⟨b, off, spot⟩ := a'
      have hspot : spot = none := by simpa [Addr.add] using World.cell?_spot h01
      subst hspot
      rw [Go.WideShapes.add_plain] at h1 h2
      refine ⟨b, off, sa, sc, rfl, World.block_lt_of_cell? W _ h1, by rw [h1, e0], ?_, hI⟩
      rw [Nat.add_assoc, h2, e1]
    · obtain ⟨j, hj, rfl⟩ := List.mem_map.1 hy
      exact (hq j (List.mem_range.1 hj)).1
end Go.Proofs.Ytlkcdcdgpklpoaa
