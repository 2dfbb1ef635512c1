/-
  A trie in memory: its states five cells each, its edges a map by pairs of numbers.
-/
import Derived.Test.YtdhppigjlldfmaaRows
import Derived.Test.YtdhppigjlldfmaaM6H
import Derived.Maps.OwnSet
import Derived.Maps.AppendAt
import Derived.DeepKeys4
import Derived.Lib.Hide
import Derived.WalkKit
import Derived.ProofKit
namespace Go.Proofs.Ytdhppigjlldfmaa
open Go.ChangeShapes Go.WideShapes Go.ChangeAt Go.RowKit Go.Maps
theorem edgeOut : laidOutB Try.prog = true := by kernel_rfl
theorem edgeLaw : Keyed Try.prog 73 :=
  Keyed.of_law (deep_law_laid edgeOut (m := 3) (by decide) (of_decide_eq_true (by kernel_rfl)) (by kernel_rfl) (by kernel_rfl))
theorem zeroI (w : World) : (zeroValue 3).run Try.prog w = .ok (.int .i64 0) w := by kernel_rfl
/-- An edge. -/
def edgeV (f b : Int) : Value := .agg #[.int .i64 f, .int .i64 b]
def wf64 (x : Int) : Prop := (Lit.int .i64 x).wf = true
theorem edgeUnder : Try.prog.underlying 73 = some (.struct #[⟨ "from", 3, 0, false, "", "loop.example/g00692/impl", 0⟩, ⟨ "by", 3, 1, false, "", "loop.example/g00692/impl", 8⟩]) := by kernel_rfl
theorem edge_key (f b : Int) (hf : wf64 f) (hb : wf64 b) : ∃ l, keyOf Try.prog 73 (edgeV f b) = some l := by
  have h1 : Try.prog.keyType 73 = true := by kernel_rfl
  have h2 : (edgeV f b).formed Try.prog 73 = true := by
    have hc : Try.prog.cellsOf 73 = 2 := by kernel_rfl
    simp [edgeV, Value.formed, hc]
  have h3 : Try.prog.cellsOf 3 = 1 := by kernel_rfl
  have h4 : Try.prog.cellsOf 73 = 2 := by kernel_rfl
  obtain ⟨n, hn⟩ : ∃ n, Try.prog.types.size = n + 1 := ⟨Try.prog.types.size - 1, by have : 0 < Try.prog.types.size := of_decide_eq_true (by kernel_rfl); omega⟩
  unfold wf64 at hf hb
  refine ⟨.string (keyBytes [.int .i64 f, .int .i64 b]), ?_⟩
  unfold keyOf
  rw [edgeUnder]
  dsimp only
  rw [h1, h2, hn]
  simp [Program.keyLits, edgeV, Value.cells, h3, h4, Try.underlying3, hf, hb]
theorem edge_apart {f b f' b' : Int} {l : Lit} (h : keyOf Try.prog 73 (edgeV f b) = some l) (h' : keyOf Try.prog 73 (edgeV f' b') = some l) : f = f' ∧ b = b' := by
  have := edgeLaw.inj h h'
  simpa [edgeV] using this
/-- Where edges lead. -/
abbrev Ed := Int → Int → Option Nat
def upE (E : Ed) (f b : Int) (j : Nat) : Ed := fun f' b' => if f' = f ∧ b' = b then some j else E f' b'
def noE : Ed := fun _ _ => none
/-- Block m is a map from edges to numbers. -/
def EdgesAt (w : World) (m n : Nat) (E : Ed) : Prop :=
  ∃ D : DataW Unit, w.ownsMap Try.prog 73 (plainElem Try.prog 3) m n D ∧ ∀ f b l, keyOf Try.prog 73 (edgeV f b) = some l →
    (E f b = none → Maps.has D l = false) ∧ ∀ j : Nat, E f b = some j → Maps.has D l = true ∧ ∀ z, D.atKey l z = .lit (.int .i64 j)
theorem edges_made (w : World) : EdgesAt (w.alloc (.map #[] 0)) w.heap.size 0 noE :=
  ⟨_, World.ownsMap_made _ _ _ _, fun f b l _ => ⟨fun _ => rfl, fun j hj => by cases hj⟩⟩
theorem EdgesAt.kept {w w' : World} {m n : Nat} {E : Ed} {row : Option Nat} (h : EdgesAt w m n E) (hg : w.grownBy w' row) (hne : some m ≠ row) : EdgesAt w' m n E := by
  obtain ⟨D, h1, h2⟩ := h
  exact ⟨D, h1.kept hg hne, h2⟩
theorem EdgesAt.lt {w : World} {m n : Nat} {E : Ed} (h : EdgesAt w m n E) : m < w.heap.size := h.choose_spec.1.lt
theorem EdgesAt.mono {w : World} {m n n' : Nat} {E : Ed} (h : EdgesAt w m n E) (hn : n ≤ n') : EdgesAt w m n' E := by
  obtain ⟨D, h1, h2⟩ := h
  exact ⟨D, h1.mono hn, h2⟩
theorem EdgesAt.isMap {w : World} {m n : Nat} {E : Ed} (h : EdgesAt w m n E) : ∃ es c, w.heap[m]? = some (.map es c) := by
  obtain ⟨D, ⟨es, c, hb, -⟩, -⟩ := h
  exact ⟨es, c, hb⟩
theorem EdgesAt.setCell {w : World} {m n : Nat} {E : Ed} (h : EdgesAt w m n E) {a : Addr} (ha : m ≠ a.block) (u : Value) : EdgesAt (w.setCell a u) m n E := by
  obtain ⟨D, h1, h2⟩ := h
  exact ⟨D, h1.setCell ha u, h2⟩
theorem EdgesAt.keepB {w w' : World} {m n : Nat} {E : Ed} (h : EdgesAt w m n E) (hb : Below w.heap.size w w') : EdgesAt w' m n E := by
  obtain ⟨D, ⟨es, c, h1, h3⟩, h2⟩ := h
  exact ⟨D, ⟨es, c, (hb.block m (Array.getElem?_eq_some_iff.1 h1).1).trans h1, h3⟩, h2⟩
/-- A look at an edge. -/
theorem EdgesAt.look {w : World} {m n : Nat} {E : Ed} (h : EdgesAt w m n E) (f b : Int) (hf : wf64 f) (hb : wf64 b) :
    (Instr.lookup 69 (.map (some m)) (edgeV f b) true).run Try.prog w = .ok (match E f b with | some j => .tuple #[.int .i64 (j : Int), .bool true] | none => .tuple #[.int .i64 0, .bool false]) w := by
  obtain ⟨D, h1, h2⟩ := h
  obtain ⟨l, hl⟩ := edge_key f b hf hb
  obtain ⟨e1, e2⟩ := h2 f b l hl
  obtain ⟨v, ps, hr, hv⟩ := h1.look_ok edgeLaw (t := 69) (e := 3) (by kernel_rfl) (zeroI w) (plainElem_int Try.underlying3 (by decide)) hl
  rw [hr]
  obtain ⟨c, rfl, hc, -⟩ := plainElem_int_inv Try.underlying3 hv
  simp only [Prod.mk.injEq] at hc
  cases hE : E f b with
  | none =>
    have e := e1 hE
    rw [atKey_of_not_has e] at hc
    have : c = 0 := by simpa using hc.1.symm
    subst this
    rw [e]
  | some j =>
    obtain ⟨e, e'⟩ := e2 j hE
    rw [e'] at hc
    have : c = j := by simpa using hc.1.symm
    subst this
    rw [e]
theorem EdgesAt.yes {w : World} {m n : Nat} {E : Ed} (h : EdgesAt w m n E) {f b : Int} (hf : wf64 f) (hb : wf64 b) {j : Nat} (hj : E f b = some j) :
    (Instr.lookup 69 (.map (some m)) (.agg #[.int .i64 f, .int .i64 b]) true).run Try.prog w = .ok (.tuple #[.int .i64 (j : Int), .bool true]) w := by
  have := h.look f b hf hb
  rwa [hj] at this
theorem EdgesAt.no {w : World} {m n : Nat} {E : Ed} (h : EdgesAt w m n E) {f b : Int} (hf : wf64 f) (hb : wf64 b) (hj : E f b = none) :
    (Instr.lookup 69 (.map (some m)) (.agg #[.int .i64 f, .int .i64 b]) true).run Try.prog w = .ok (.tuple #[.int .i64 0, .bool false]) w := by
  have := h.look f b hf hb
  rwa [hj] at this
/-- A number laid at an edge. -/
theorem EdgesAt.store {w : World} {m n : Nat} {E : Ed} (h : EdgesAt w m n E) (f b : Int) (hf : wf64 f) (hb : wf64 b) (j : Nat) (hj : j ≤ 1000000) (hn : n ≤ 1000000) :
    ∃ w', (Instr.mapUpdate 69 (.map (some m)) (edgeV f b) (.int .i64 (j : Int))).run Try.prog w = .ok () w' ∧ EdgesAt w' m (n + 1) (upE E f b j) ∧ w.mapTurned w' m := by
  obtain ⟨D, h1, h2⟩ := h
  obtain ⟨l, hl⟩ := edge_key f b hf hb
  have wj : (Lit.int .i64 (j : Int)).wf = true := WalkArith.wf_i64 (by omega)
  obtain ⟨w', r1, r2, r3⟩ := h1.store edgeLaw (t := 69) (e := 3) (by kernel_rfl) (by unfold maxLen; omega) hl (plainElem_int Try.underlying3 wj)
  refine ⟨w', r1, ⟨_, r2, fun f' b' l' hl' => ?_⟩, r3⟩
  unfold upE
  by_cases e : f' = f ∧ b' = b
  · obtain ⟨rfl, rfl⟩ := e
    rw [hl] at hl'
    cases hl'
    rw [if_pos ⟨rfl, rfl⟩]
    refine ⟨fun h => (by cases h), fun j' hj' => ?_⟩
    cases hj'
    exact ⟨has_put_same h1.isMap (edgeLaw.key hl) _, fun z => atKey_put_same h1.isMap (edgeLaw.key hl) _ z⟩
  · have ne : l' ≠ l := fun e' => e (by subst e'; exact edge_apart hl' hl)
    rw [if_neg e]
    obtain ⟨k1, k2⟩ := h2 f' b' l' hl'
    refine ⟨fun h => (has_put_other ne _).trans (k1 h), fun j' hj' => ?_⟩
    obtain ⟨k3, k4⟩ := k2 j' hj'
    exact ⟨(has_put_other ne _).trans k3, fun z => (atKey_put_other ne _ z).trans (k4 z)⟩
/-- A state: the edge to it, how long its list is, where it fails to, what ends there. -/
structure Sq where
  f : Int
  b : Int
  l : Int
  q : Int
  e : Value
def fl5 : List Sq → List Value
  | [] => []
  | s :: r => .int .i64 s.f :: .int .i64 s.b :: .int .i64 s.l :: .int .i64 s.q :: s.e :: fl5 r
theorem fl5_len (Q : List Sq) : (fl5 Q).length = Q.length * 5 := by
  induction Q with
  | nil => rfl
  | cons q r ih => simp [fl5, ih]; omega
theorem fl5_append (A B : List Sq) : fl5 (A ++ B) = fl5 A ++ fl5 B := by
  induction A with
  | nil => rfl
  | cons q r ih => simp [fl5, ih]
def sq (Q : List Sq) (j : Nat) : Sq := Q.getD j ⟨0, 0, 0, 0, .slice none 0 0⟩
theorem fl5_at : ∀ (Q : List Sq) (j : Nat), j < Q.length → (fl5 Q)[j * 5]? = some (.int .i64 (sq Q j).f) ∧ (fl5 Q)[j * 5 + 1]? = some (.int .i64 (sq Q j).b) ∧ (fl5 Q)[j * 5 + 2]? = some (.int .i64 (sq Q j).l) ∧ (fl5 Q)[j * 5 + 3]? = some (.int .i64 (sq Q j).q) ∧ (fl5 Q)[j * 5 + 4]? = some (sq Q j).e
  | [], j, h => by simp at h
  | q :: r, 0, _ => ⟨rfl, rfl, rfl, rfl, rfl⟩
  | q :: r, j + 1, h => by
    have := fl5_at r j (by simp at h; omega)
    rw [show (j + 1) * 5 = j * 5 + 1 + 1 + 1 + 1 + 1 by omega]
    simpa [fl5, sq] using this
theorem sq_old (A B : List Sq) (j : Nat) (h : j < A.length) : sq (A ++ B) j = sq A j := by simp [sq, List.getD, List.getElem?_append_left h]
theorem sq_new (A : List Sq) (x : Sq) : sq (A ++ [x]) A.length = x := by simp [sq, List.getD]
/-- A trie: its struct in block tb, its states in a row, its edges in a map, all from block base on. -/
def TrieAt (w : World) (base tb : Nat) (Q : List Sq) (E : Ed) : Prop :=
  ∃ v m, base ≤ tb ∧ base ≤ m ∧ w.heap[tb]? = some (.cells #[v, .map (some m)] 71) ∧ w.ownsRow base 75 5 v Q.length (fl5 Q) ∧ EdgesAt w m Q.length E
theorem TrieAt.keepB {w w' : World} {base tb : Nat} {Q : List Sq} {E : Ed} (h : TrieAt w base tb Q E) (hb : Below w.heap.size w w') : TrieAt w' base tb Q E := by
  obtain ⟨v, m, h1, h2, h3, h4, h5⟩ := h
  exact ⟨v, m, h1, h2, (hb.block tb (Array.getElem?_eq_some_iff.1 h3).1).trans h3, World.ownsRow.keepB h4 hb, h5.keepB hb⟩
theorem TrieAt.lt {w : World} {base tb : Nat} {Q : List Sq} {E : Ed} (h : TrieAt w base tb Q E) : base ≤ tb ∧ tb < w.heap.size := by
  obtain ⟨v, m, h1, h2, h3, h4, h5⟩ := h
  exact ⟨h1, (Array.getElem?_eq_some_iff.1 h3).1⟩
/-- The cells of a trie, written out. -/
theorem TrieAt.form {w : World} {base tb : Nat} {Q : List Sq} {E : Ed} (h : TrieAt w base tb Q E) (h0 : 0 < Q.length) :
    ∃ g cap m, base ≤ g ∧ g < w.heap.size ∧ w.heap[tb]? = some (.cells #[.slice (some ⟨g, 0, none⟩) Q.length cap, .map (some m)] 71) ∧ EdgesAt w m Q.length E ∧
      ∀ j, j < Q.length → w.cell? ⟨g, j * 5, none⟩ = some (.int .i64 (sq Q j).f) ∧ w.cell? ⟨g, j * 5 + 1, none⟩ = some (.int .i64 (sq Q j).b) ∧ w.cell? ⟨g, j * 5 + 2, none⟩ = some (.int .i64 (sq Q j).l) ∧ w.cell? ⟨g, j * 5 + 3, none⟩ = some (.int .i64 (sq Q j).q) ∧ w.cell? ⟨g, j * 5 + 4, none⟩ = some (sq Q j).e := by
  obtain ⟨v, m, h1, h2, h3, h4, h5⟩ := h
  rcases h4.2 with ⟨rfl, h⟩ | ⟨g, cap, cur, rfl, k1, k2, k3, -⟩
  · omega
  · refine ⟨g, cap, m, k1, (Array.getElem?_eq_some_iff.1 k2).1, h3, h5, fun j hj => ?_⟩
    obtain ⟨a0, a1, a2, a3, a4⟩ := fl5_at Q j hj
    exact ⟨(World.ownsRow.cellAt h4 _ (by omega)).trans a0, (World.ownsRow.cellAt h4 _ (by omega)).trans a1, (World.ownsRow.cellAt h4 _ (by omega)).trans a2, (World.ownsRow.cellAt h4 _ (by omega)).trans a3, (World.ownsRow.cellAt h4 _ (by omega)).trans a4⟩
theorem TrieAt.form' {w : World} {base tb : Nat} {Q : List Sq} {E : Ed} (h : TrieAt w base tb Q E) (h0 : 0 < Q.length) :
    ∃ g cap m, base ≤ g ∧ g < w.heap.size ∧ w.heap[tb]? = some (.cells #[.slice (some ⟨g, 0, none⟩) Q.length cap, .map (some m)] 71) ∧ EdgesAt w m Q.length E ∧
      (∀ j, j < Q.length → w.cell? ⟨g, j * 5, none⟩ = some (.int .i64 (sq Q j).f) ∧ w.cell? ⟨g, j * 5 + 1, none⟩ = some (.int .i64 (sq Q j).b) ∧ w.cell? ⟨g, j * 5 + 2, none⟩ = some (.int .i64 (sq Q j).l) ∧ w.cell? ⟨g, j * 5 + 3, none⟩ = some (.int .i64 (sq Q j).q) ∧ w.cell? ⟨g, j * 5 + 4, none⟩ = some (sq Q j).e) ∧
      w.ownsRow base 75 5 (.slice (some ⟨g, 0, none⟩) Q.length cap) Q.length (fl5 Q) ∧ base ≤ m := by
  obtain ⟨v, m, h1, h2, h3, h4, h5⟩ := h
  rcases h4.2 with ⟨rfl, h⟩ | ⟨g, cap, cur, rfl, k1, k2, k3, -⟩
  · omega
  · refine ⟨g, cap, m, k1, (Array.getElem?_eq_some_iff.1 k2).1, h3, h5, fun j hj => ?_, h4, h2⟩
    obtain ⟨a0, a1, a2, a3, a4⟩ := fl5_at Q j hj
    exact ⟨(World.ownsRow.cellAt h4 _ (by omega)).trans a0, (World.ownsRow.cellAt h4 _ (by omega)).trans a1, (World.ownsRow.cellAt h4 _ (by omega)).trans a2, (World.ownsRow.cellAt h4 _ (by omega)).trans a3, (World.ownsRow.cellAt h4 _ (by omega)).trans a4⟩
end Go.Proofs.Ytdhppigjlldfmaa
