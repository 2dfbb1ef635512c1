/-
  Two lists of numbers in rows of their own; feeding and flushing as plain functions, step by step.
-/
import Derived.Test.YtklgagonbehpeaaDoorD2One
import Derived.Test.YtklgagonbehpeaaDoorLst
import Derived.Maps.AppendAt
namespace Go.Proofs.YtklgagonbehpeaaDoor
open Go.ChangeShapes Go.WideShapes Go.ChangeAt Go.RowKit
/-- Two lists in rows of their own. -/
structure Two (B : Nat) (w : World) (v1 : Value) (L1 : List Int) (v2 : Value) (L2 : List Int) : Prop where
  a : w.ownsRow B 3 1 v1 L1.length (ints L1)
  b : w.ownsRow B 3 1 v2 L2.length (ints L2)
  far : v1.ownBlock = v2.ownBlock → v1.ownBlock = none
theorem Two.nil (B : Nat) (w : World) : Two B w (.slice none 0 0) [] (.slice none 0 0) [] := ⟨World.ownsRow_nil _ _ _ _, World.ownsRow_nil _ _ _ _, fun _ => rfl⟩
theorem Two.below {B : Nat} {w w' : World} {v1 v2 : Value} {L1 L2 : List Int} (T : Two B w v1 L1 v2 L2) (hb : Below w.heap.size w w') : Two B w' v1 L1 v2 L2 := ⟨ownsRow_below T.a hb, ownsRow_below T.b hb, T.far⟩
theorem Two.alloc {B : Nat} {w : World} {v1 v2 : Value} {L1 L2 : List Int} (T : Two B w v1 L1 v2 L2) (o : Obj) : Two B (w.alloc o) v1 L1 v2 L2 := ⟨T.a.alloc o, T.b.alloc o, T.far⟩
theorem Two.swap {B : Nat} {w : World} {v1 v2 : Value} {L1 L2 : List Int} (T : Two B w v1 L1 v2 L2) : Two B w v2 L2 v1 L1 := ⟨T.b, T.a, fun h => by rw [h]; exact T.far h.symm⟩
theorem Two.push {B : Nat} {w w' : World} {v1 v1' v2 : Value} {L1 L2 : List Int} {M : List Int} {n : Nat} (T : Two B w v1 L1 v2 L2) (ho : w'.ownsRow B 3 1 v1' n (ints L1 ++ ints M)) (hn : n = L1.length + M.length) (hg : w.grownBy w' v1.ownBlock)
    (hat : v1'.ownBlock = v1.ownBlock ∨ v1'.ownBlock = some w.heap.size) : Two B w' v1' (L1 ++ M) v2 L2 := by
  subst hn
  refine ⟨?_, T.b.kept hg ?_, fun h => ?_⟩
  · rw [List.length_append]; simpa [ints] using ho
  · by_cases h : v1.ownBlock = v2.ownBlock
    · exact .inl (by rw [← h]; exact T.far h)
    · exact .inr (Ne.symm h)
  · rcases hat with h1 | h1
    · rw [h1] at h ⊢; exact T.far h
    · exfalso
      have := (T.b.lt _ (by rw [← h, h1])).2
      omega
theorem Two.grown {B : Nat} {w w' : World} {v1 v2 : Value} {L1 L2 : List Int} {w0 : World} (T : Two B w v1 L1 v2 L2) (hb : Below B w0 w) (hg : w.grownBy w' v1.ownBlock) (hB : B ≤ w.heap.size) : Below B w0 w' :=
  Below.grown hb hg hB (fun g h => (T.a.lt g h).1)
theorem drop_at (s : ByteArray) (k : Nat) (h : k < s.size) : s.data.toList.drop k = s[k] :: s.data.toList.drop (k + 1) := by
  have hl : k < s.data.toList.length := by simpa using h
  rw [List.drop_eq_getElem_cons hl]
  have : s.data.toList[k]? = some s[k] := byt_list s k h
  rw [List.getElem?_eq_getElem hl] at this
  rw [Option.some.inj this]
/-- What is behind what has been told. -/
def feedT (A B : List Int) (G : List Int × List Int × Int × Int) : List Int × List Int × Int × Int := (A ++ G.1, B ++ G.2.1, G.2.2.1, G.2.2.2)
theorem feedT_skip (A B : List Int) (sh lo : Int) (b : UInt8) (t : List UInt8) (h : (b.toNat : Int) = 14 ∨ (b.toNat : Int) = 15) : feedT A B (feedB 5 (b :: t) sh lo) = feedT A B (feedB 5 t (15 - b.toNat) (lo + 1)) := by
  rw [feedB, if_pos ⟨rfl, h⟩]
theorem feedT_shift (A B : List Int) (sh lo : Int) (b : UInt8) (t : List UInt8) (h : ¬ ((b.toNat : Int) = 14 ∨ (b.toNat : Int) = 15)) : feedT A B (feedB 5 (b :: t) sh lo) = feedT (A ++ [shiftedN sh b.toNat]) (B ++ [lo + 1]) (feedB 5 t sh 0) := by
  rw [feedB, if_neg (fun x => h x.2), if_pos rfl]; simp [feedT]
theorem feedT_latin (A B : List Int) (sh lo : Int) (b : UInt8) (t : List UInt8) : feedT A B (feedB 4 (b :: t) sh lo) = feedT (A ++ [(b.toNat : Int)]) (B ++ [lo + 1]) (feedB 4 t sh 0) := by
  rw [feedB, if_neg (fun x => by cases x.1), if_neg (by decide)]; simp [feedT]
theorem feedB_len (en : Int) : ∀ (t : List UInt8) (sh lo : Int), (feedB en t sh lo).1.length ≤ t.length ∧ (feedB en t sh lo).2.1.length = (feedB en t sh lo).1.length
  | [], sh, lo => ⟨Nat.le_refl _, rfl⟩
  | b :: t, sh, lo => by
    unfold feedB
    split
    · have := feedB_len en t (15 - b.toNat) (lo + 1); simp only [List.length_cons]; omega
    · have := feedB_len en t sh 0; simp only [List.length_cons]; omega
/-- A decoder that lies in block D. -/
structure DecAt (w : World) (D : Nat) (en sh lo : Int) (held : ByteArray) : Prop where
  c0 : w.cell? ⟨D, 0, none⟩ = some (.int .i64 en)
  c1 : w.cell? ⟨D, 1, none⟩ = some (.int .i64 sh)
  c2 : w.cell? ⟨D, 2, none⟩ = some (.int .i64 lo)
  c3 : w.cell? ⟨D, 3, none⟩ = some (.string held)
  fz : ∀ j, w.frozen? ⟨D, j, none⟩ = false
  lt : D < w.heap.size
theorem DecAt.grown {w w' : World} {D : Nat} {en sh lo : Int} {held : ByteArray} {row : Option Nat} (h : DecAt w D en sh lo held) (hg : w.grownBy w' row) (hr : row ≠ some D) : DecAt w' D en sh lo held := by
  have blk : w'.heap[D]? = w.heap[D]? := hg.block D h.lt (fun e => hr e.symm)
  have cc : ∀ o, w'.cell? ⟨D, o, none⟩ = w.cell? ⟨D, o, none⟩ := fun o => World.cell?_of_block (a := ⟨D, o, none⟩) blk
  exact ⟨(cc 0).trans h.c0, (cc 1).trans h.c1, (cc 2).trans h.c2, (cc 3).trans h.c3, fun j => (World.frozen?_of_block (a := ⟨D, j, none⟩) blk).trans (h.fz j), Nat.lt_of_lt_of_le h.lt hg.size⟩
theorem DecAt.below {w w' : World} {D : Nat} {en sh lo : Int} {held : ByteArray} (h : DecAt w D en sh lo held) (hb : Below w.heap.size w w') : DecAt w' D en sh lo held :=
  h.grown (row := none) ⟨hb.os, hb.tape, hb.output, hb.size, fun k hk _ => hb.block k hk⟩ (fun e => by cases e)
theorem DecAt.alloc {w : World} {D : Nat} {en sh lo : Int} {held : ByteArray} (h : DecAt w D en sh lo held) (o : Obj) : DecAt (w.alloc o) D en sh lo held := h.grown (row := none) (World.grownBy_alloc w o none) (fun e => by cases e)
theorem DecAt.new (w : World) (en sh lo : Int) (held : ByteArray) (t : TypeId) (D : Nat) (hD : D = w.heap.size) : DecAt (w.alloc (.cells #[.int .i64 en, .int .i64 sh, .int .i64 lo, .string held] t)) D en sh lo held := by
  subst hD
  have hh := heap_alloc_new w (.cells #[.int .i64 en, .int .i64 sh, .int .i64 lo, .string held] t)
  refine ⟨?_, ?_, ?_, ?_, fun j => ?_, by simp⟩
  · rw [cell_of_row _ _ _ _ _ _ hh]; rfl
  · rw [cell_of_row _ _ _ _ _ _ hh]; rfl
  · rw [cell_of_row _ _ _ _ _ _ hh]; rfl
  · rw [cell_of_row _ _ _ _ _ _ hh]; rfl
  · unfold World.frozen?; simp only [hh]; simp
theorem sc_other' (w : World) (b b' o o' : Nat) (v : Value) (h : b ≠ b' ∨ o ≠ o') : (w.setCell ⟨b, o, none⟩ v).cell? ⟨b', o', none⟩ = w.cell? ⟨b', o', none⟩ := by
  apply World.cell?_setCell_other
  intro e
  simp only [Addr.mk.injEq] at e
  omega
theorem DecAt.set1 {w : World} {D : Nat} {en sh lo : Int} {held : ByteArray} (h : DecAt w D en sh lo held) (x : Int) : DecAt (w.setCell ⟨D, 1, none⟩ (.int .i64 x)) D en x lo held :=
  ⟨(sc_other' _ _ _ _ _ _ (by omega)).trans h.c0, World.cell?_setCell_same _ _ _ h.c1, (sc_other' _ _ _ _ _ _ (by omega)).trans h.c2, (sc_other' _ _ _ _ _ _ (by omega)).trans h.c3, fun j => by rw [World.frozen?_setCell]; exact h.fz j, by rw [World.size_setCell]; exact h.lt⟩
theorem DecAt.set2 {w : World} {D : Nat} {en sh lo : Int} {held : ByteArray} (h : DecAt w D en sh lo held) (x : Int) : DecAt (w.setCell ⟨D, 2, none⟩ (.int .i64 x)) D en sh x held :=
  ⟨(sc_other' _ _ _ _ _ _ (by omega)).trans h.c0, (sc_other' _ _ _ _ _ _ (by omega)).trans h.c1, World.cell?_setCell_same _ _ _ h.c2, (sc_other' _ _ _ _ _ _ (by omega)).trans h.c3, fun j => by rw [World.frozen?_setCell]; exact h.fz j, by rw [World.size_setCell]; exact h.lt⟩
theorem DecAt.set3 {w : World} {D : Nat} {en sh lo : Int} {held : ByteArray} (h : DecAt w D en sh lo held) (x : ByteArray) : DecAt (w.setCell ⟨D, 3, none⟩ (.string x)) D en sh lo x :=
  ⟨(sc_other' _ _ _ _ _ _ (by omega)).trans h.c0, (sc_other' _ _ _ _ _ _ (by omega)).trans h.c1, (sc_other' _ _ _ _ _ _ (by omega)).trans h.c2, World.cell?_setCell_same _ _ _ h.c3, fun j => by rw [World.frozen?_setCell]; exact h.fz j, by rw [World.size_setCell]; exact h.lt⟩
theorem grown_set (w : World) (b i : Nat) (v : Value) : w.grownBy (w.setCell ⟨b, i, none⟩ v) (some b) :=
  ⟨rfl, rfl, rfl, by simp, fun k _ hk => Below.heap_setCell _ _ _ _ (fun e => hk (by rw [e]))⟩
/-- The whole state of feeding: a decoder in block D, what is told in block D + 1, two lists behind. -/
structure Fed (D : Nat) (w : World) (en sh lo : Int) (held : ByteArray) (v1 : Value) (L1 : List Int) (v2 : Value) (L2 : List Int) : Prop where
  d : DecAt w D en sh lo held
  r : DecAt w (D + 1) 0 0 0 ⟨#[]⟩
  t : Two (D + 2) w v1 L1 v2 L2
theorem Fed.below {D : Nat} {w w' : World} {en sh lo : Int} {held : ByteArray} {v1 v2 : Value} {L1 L2 : List Int} (h : Fed D w en sh lo held v1 L1 v2 L2) (hb : Below w.heap.size w w') : Fed D w' en sh lo held v1 L1 v2 L2 := ⟨h.d.below hb, h.r.below hb, h.t.below hb⟩
theorem Fed.alloc {D : Nat} {w : World} {en sh lo : Int} {held : ByteArray} {v1 v2 : Value} {L1 L2 : List Int} (h : Fed D w en sh lo held v1 L1 v2 L2) (o : Obj) : Fed D (w.alloc o) en sh lo held v1 L1 v2 L2 := ⟨h.d.alloc o, h.r.alloc o, h.t.alloc o⟩
theorem Two.set {B : Nat} {w : World} {v1 v2 : Value} {L1 L2 : List Int} (T : Two B w v1 L1 v2 L2) (b i : Nat) (v : Value) (hb : b < B) : Two B (w.setCell ⟨b, i, none⟩ v) v1 L1 v2 L2 := by
  have far : ∀ {u : Value} {L : List Int}, w.ownsRow B 3 1 u L.length (ints L) → u.ownBlock = none ∨ u.ownBlock ≠ some b := fun {u L} h => by
    cases hu : u.ownBlock with
    | none => exact .inl rfl
    | some g => exact .inr (fun e => by have := Option.some.inj e; have := (h.lt g hu).1; omega)
  exact ⟨T.a.kept (grown_set w b i v) (far T.a), T.b.kept (grown_set w b i v) (far T.b), T.far⟩
theorem Fed.set1 {D : Nat} {w : World} {en sh lo : Int} {held : ByteArray} {v1 v2 : Value} {L1 L2 : List Int} (h : Fed D w en sh lo held v1 L1 v2 L2) (x : Int) : Fed D (w.setCell ⟨D, 1, none⟩ (.int .i64 x)) en x lo held v1 L1 v2 L2 :=
  ⟨h.d.set1 x, h.r.grown (grown_set _ _ _ _) (fun e => by cases e), h.t.set _ _ _ (by omega)⟩
theorem Fed.set2 {D : Nat} {w : World} {en sh lo : Int} {held : ByteArray} {v1 v2 : Value} {L1 L2 : List Int} (h : Fed D w en sh lo held v1 L1 v2 L2) (x : Int) : Fed D (w.setCell ⟨D, 2, none⟩ (.int .i64 x)) en sh x held v1 L1 v2 L2 :=
  ⟨h.d.set2 x, h.r.grown (grown_set _ _ _ _) (fun e => by cases e), h.t.set _ _ _ (by omega)⟩
theorem Fed.set3 {D : Nat} {w : World} {en sh lo : Int} {held : ByteArray} {v1 v2 : Value} {L1 L2 : List Int} (h : Fed D w en sh lo held v1 L1 v2 L2) (x : ByteArray) : Fed D (w.setCell ⟨D, 3, none⟩ (.string x)) en sh lo x v1 L1 v2 L2 :=
  ⟨h.d.set3 x, h.r.grown (grown_set _ _ _ _) (fun e => by cases e), h.t.set _ _ _ (by omega)⟩
theorem Fed.push {D : Nat} {w w' : World} {en sh lo : Int} {held : ByteArray} {v1 v1' v2 : Value} {L1 L2 : List Int} {M : List Int} {n : Nat} (h : Fed D w en sh lo held v1 L1 v2 L2) (ho : w'.ownsRow (D + 2) 3 1 v1' n (ints L1 ++ ints M)) (hn : n = L1.length + M.length) (hg : w.grownBy w' v1.ownBlock)
    (hat : v1'.ownBlock = v1.ownBlock ∨ v1'.ownBlock = some w.heap.size) : Fed D w' en sh lo held v1' (L1 ++ M) v2 L2 :=
  ⟨h.d.grown hg (fun e => by have := (h.t.a.lt D e).1; omega), h.r.grown hg (fun e => by have := (h.t.a.lt _ e).1; omega), h.t.push ho hn hg hat⟩
theorem Fed.push2 {D : Nat} {w w' : World} {en sh lo : Int} {held : ByteArray} {v1 v2 v2' : Value} {L1 L2 : List Int} {M : List Int} {n : Nat} (h : Fed D w en sh lo held v1 L1 v2 L2) (ho : w'.ownsRow (D + 2) 3 1 v2' n (ints L2 ++ ints M)) (hn : n = L2.length + M.length) (hg : w.grownBy w' v2.ownBlock)
    (hat : v2'.ownBlock = v2.ownBlock ∨ v2'.ownBlock = some w.heap.size) : Fed D w' en sh lo held v1 L1 v2' (L2 ++ M) :=
  ⟨h.d.grown hg (fun e => by have := (h.t.b.lt D e).1; omega), h.r.grown hg (fun e => by have := (h.t.b.lt _ e).1; omega), (h.t.swap.push ho hn hg hat).swap⟩
theorem Below.grown_row {w0 w w' : World} {v : Value} {B n : Nat} {xs : List Value} {D : Nat} (hb : Below D w0 w) (ho : w.ownsRow B 3 1 v n xs) (hg : w.grownBy w' v.ownBlock) (hB : D ≤ w.heap.size) (hBD : D ≤ B) : Below D w0 w' :=
  Below.grown hb hg hB (fun g h => by have := (ho.lt g h).1; omega)
theorem ownsRow_lower {w : World} {B B' : Nat} {e : TypeId} {size : Nat} {v : Value} {n : Nat} {xs : List Value} (h : w.ownsRow B e size v n xs) (hB : B' ≤ B) : w.ownsRow B' e size v n xs := by
  refine ⟨h.1, ?_⟩
  rcases h.2 with h2 | ⟨g, cap, cur, h1, h2, h3⟩
  · exact .inl h2
  · exact .inr ⟨g, cap, cur, h1, by omega, h3⟩
theorem Two.lower {B B' : Nat} {w : World} {v1 v2 : Value} {L1 L2 : List Int} (T : Two B w v1 L1 v2 L2) (hB : B' ≤ B) : Two B' w v1 L1 v2 L2 := ⟨ownsRow_lower T.a hB, ownsRow_lower T.b hB, T.far⟩
theorem below_set {D : Nat} {w0 w : World} (hb : Below D w0 w) (b i : Nat) (v : Value) (hD : D ≤ b) (hl : D ≤ w.heap.size) : Below D w0 (w.setCell ⟨b, i, none⟩ v) := Below.grown hb (grown_set w b i v) hl (fun g h => by have := Option.some.inj h; omega)
/-- What is told: the decoder is laid into block D + 1. -/
theorem Fed.out {D : Nat} {w0 w : World} {en sh lo : Int} {held : ByteArray} {v1 v2 : Value} {L1 L2 : List Int} (h : Fed D w en sh lo held v1 L1 v2 L2) (hb : Below D w0 w) (a b c d : Value) :
    Two D ((((w.setCell ⟨D + 1, 0, none⟩ a).setCell ⟨D + 1, 1, none⟩ b).setCell ⟨D + 1, 2, none⟩ c).setCell ⟨D + 1, 3, none⟩ d) v1 L1 v2 L2 ∧ Below D w0 ((((w.setCell ⟨D + 1, 0, none⟩ a).setCell ⟨D + 1, 1, none⟩ b).setCell ⟨D + 1, 2, none⟩ c).setCell ⟨D + 1, 3, none⟩ d) := by
  have hl := h.d.lt
  exact ⟨((((h.t.set _ _ _ (by omega)).set _ _ _ (by omega)).set _ _ _ (by omega)).set _ _ _ (by omega)).lower (by omega),
    below_set (below_set (below_set (below_set hb _ _ _ (by omega) (by omega)) _ _ _ (by omega) (by simp; omega)) _ _ _ (by omega) (by simp; omega)) _ _ _ (by omega) (by simp; omega)⟩
end Go.Proofs.YtklgagonbehpeaaDoor
