/-
  A machine of states among the laws' arguments; its size, its copy, its comparison; whether it is good, as a plain function.
-/
import Derived.Test.YthhmijobfbjkiaaM6C
import Derived.Lib.Hide
namespace Go.Proofs.Ythhmijobfbjkiaa
open Go.ChangeShapes Go.WideShapes Go.ChangeAt Go.WideMaps Go.WideElems Go.RowKit
/-- A machine of states as a value. -/
def dfaV (a b e : Option Addr) (n m l ca cb ce : Nat) : Value := .agg #[.slice a n ca, .slice b m cb, .slice e l ce]
section
variable {H : Type} {enc : TypeId × Value → H} {w : World} {base : Nat} {held : Bool}
end
/-- How many values a machine holds. -/
def szD (C : List Int) (R : Rw) (F : List Bool) : Nat := C.length + szR R + F.length
/-- A machine of states in memory of its own. -/
def OwnD (w : World) (base : Nat) (v0 v1 v2 : Value) (C : List Int) (n : Nat) (f : Nat → List Int) (F : List Bool) : Prop :=
  w.ownsRow base 3 1 v0 C.length (ints C) ∧ w.ownsRow base 4 1 v2 F.length (flags F) ∧ ∃ Q : List Value, Q.length = n ∧ w.ownsRow base 23 1 v1 n Q ∧ (∀ j, j < n → w.ownsRow base 3 1 (vd Q j) (f j).length (ints (f j))) ∧
    (∀ i j, i < n → j < n → i ≠ j → (vd Q i).ownBlock = none ∨ (vd Q i).ownBlock ≠ (vd Q j).ownBlock) ∧ ∀ j, j < n → v0.ownBlock = none ∨ v0.ownBlock ≠ (vd Q j).ownBlock
theorem OwnD.rows {w : World} {base : Nat} {v0 v1 v2 : Value} {C : List Int} {n : Nat} {f : Nat → List Int} {F : List Bool} (h : OwnD w base v0 v1 v2 C n f F) : OwnR w base v1 n n f := by
  obtain ⟨-, -, Q, h1, h2, h3, h4, -⟩ := h
  exact ⟨Q, h1, h2, h3, h4⟩
theorem OwnD.mk {w : World} {base b1 : Nat} {v0 v1 v2 : Value} {C : List Int} {n : Nat} {f : Nat → List Int} {F : List Bool} (h0 : w.ownsRow base 3 1 v0 C.length (ints C)) (hlt : ∀ g, v0.ownBlock = some g → g < b1) (h1 : OwnR w b1 v1 n n f) (hb : base ≤ b1) (h2 : w.ownsRow base 4 1 v2 F.length (flags F)) : OwnD w base v0 v1 v2 C n f F := by
  obtain ⟨Q, q1, q2, q3, q4⟩ := h1
  refine ⟨h0, h2, Q, q1, own_mono q2 hb, fun j hj => own_mono (q3 j hj) hb, q4, fun j hj => ?_⟩
  cases hv : v0.ownBlock with
  | none => exact .inl rfl
  | some g =>
    refine .inr fun e => ?_
    have h5 := hlt g hv
    have h6 := (World.ownsRow.lt (q3 j hj) g e.symm).1
    omega
theorem OwnD.keepB {w w' : World} {base : Nat} {v0 v1 v2 : Value} {C : List Int} {n : Nat} {f : Nat → List Int} {F : List Bool} (h : OwnD w base v0 v1 v2 C n f F) (hb : Below w.heap.size w w') : OwnD w' base v0 v1 v2 C n f F := by
  obtain ⟨h0, h2, Q, q1, q2, q3, q4, q5⟩ := h
  exact ⟨World.ownsRow.keepB h0 hb, World.ownsRow.keepB h2 hb, Q, q1, World.ownsRow.keepB q2 hb, fun j hj => World.ownsRow.keepB (q3 j hj) hb, q4, q5⟩
theorem OwnD.kept {w w' : World} {base : Nat} {v0 v1 v2 : Value} {C : List Int} {n : Nat} {f : Nat → List Int} {F : List Bool} (h : OwnD w base v0 v1 v2 C n f F) {row : Option Nat} (hg : w.grownBy w' row) (hr' : ∀ g, row = some g → g < base) : OwnD w' base v0 v1 v2 C n f F := by
  obtain ⟨h0, h2, Q, q1, q2, q3, q4, q5⟩ := h
  exact ⟨World.ownsRow.kept h0 hg (own_ne' h0 hr'), World.ownsRow.kept h2 hg (own_ne' h2 hr'), Q, q1, World.ownsRow.kept q2 hg (own_ne' q2 hr'), fun j hj => World.ownsRow.kept (q3 j hj) hg (own_ne' (q3 j hj) hr'), q4, q5⟩
theorem OwnD.mono {w : World} {base base' : Nat} {v0 v1 v2 : Value} {C : List Int} {n : Nat} {f : Nat → List Int} {F : List Bool} (h : OwnD w base v0 v1 v2 C n f F) (hb : base' ≤ base) : OwnD w base' v0 v1 v2 C n f F := by
  obtain ⟨h0, h2, Q, q1, q2, q3, q4, q5⟩ := h
  exact ⟨own_mono h0 hb, own_mono h2 hb, Q, q1, own_mono q2 hb, fun j hj => own_mono (q3 j hj) hb, q4, q5⟩
/-- .. where it lies. -/
theorem OwnD.form {w : World} {base : Nat} {v0 v1 v2 : Value} {C : List Int} {R : Rw} {F : List Bool} (h : OwnD w base v0 v1 v2 C R.length (rw_ R) F) :
    ∃ a b e ca cb ce, v0 = .slice a C.length ca ∧ v1 = .slice b R.length cb ∧ v2 = .slice e F.length ce ∧ IntsAt w a C ∧ RowsAt w b R ∧ FlagsAt w e F := by
  obtain ⟨b, cb, e1, i1⟩ := OwnR.rows h.rows
  obtain ⟨-, a, ca, e0, i0⟩ := ints_of_own h.1
  obtain ⟨-, e, ce, e2, i2⟩ := flags_of_own h.2.1
  exact ⟨a, b, e, ca, cb, ce, e0, e1, e2, i0, i1, i2⟩
theorem blk_same {w : World} {b : Nat} {cs : Array Value} {t : TypeId} (h : w.heap[b]? = some (.cells cs t)) (o : Nat) (v : Value) : (w.setCell ⟨b, o, none⟩ v).heap[b]? = some (.cells (cs.setIfInBounds o v) t) := by
  simp [World.setCell, Array.getElem?_modify, h]
theorem blk_oth (w : World) (b o b' : Nat) (v : Value) (h : b ≠ b') : (w.setCell ⟨b, o, none⟩ v).heap[b']? = w.heap[b']? := by
  simp [World.setCell, Array.getElem?_modify, h]
end Go.Proofs.Ythhmijobfbjkiaa
