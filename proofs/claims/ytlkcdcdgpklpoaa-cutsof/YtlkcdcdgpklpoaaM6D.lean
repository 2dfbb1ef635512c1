/-
  A machine of states among the laws' arguments; its size, its copy, its comparison; whether it is good, as a plain function.
-/
import Derived.Test.YtlkcdcdgpklpoaaM6C
import Derived.Lib.Hide
namespace Go.Proofs.Ytlkcdcdgpklpoaa
open Go.ChangeShapes Go.WideShapes Go.ChangeAt Go.WideMaps Go.WideElems Go.RowKit
/-- A machine of states as a value. -/
def dfaV (a b e : Option Addr) (n m l ca cb ce : Nat) : Value := .agg #[.slice a n ca, .slice b m cb, .slice e l ce]
section
variable {H : Type} {enc : TypeId × Value → H} {w : World} {base : Nat} {held : Bool}
end
/-- How many values a machine holds. -/
def szD (C : List Int) (R : Rw) (F : List Bool) : Nat := C.length + szR R + F.length
set_option maxRecDepth 100000 in
set_option maxHeartbeats 2000000 in
theorem eqDfa_any (C : List Int) (R : Rw) (F : List Bool) (a b e a' b' e' : Option Addr) (ca cb ce ca' cb' ce' : Nat) (w : World) (hl : szD C R F ≤ 1048576) (hA : IntsAt w a C) (hB : RowsAt w b R) (hE : FlagsAt w e F) (hA' : IntsAt w a' C) (hB' : RowsAt w b' R) (hE' : FlagsAt w e' F) :
    Calls Try.prog 44 #[.agg #[.slice a C.length ca, .slice b R.length cb, .slice e F.length ce], .agg #[.slice a' C.length ca', .slice b' R.length cb', .slice e' F.length ce']] w fun r w' => r = .returned (.bool true) ∧ Below w.heap.size w w' := by
  have HA : Hid _ := hA
  have HB : Hid _ := hB
  have HE : Hid _ := hE
  have HA' : Hid _ := hA'
  have HB' : Hid _ := hB'
  have HE' : Hid _ := hE'
  have hlC : C.length ≤ 1048576 := by unfold szD at hl; omega
  have hlF : F.length ≤ 1048576 := by unfold szD at hl; omega
  have HLR : Hid (szR R ≤ 1048576) := by unfold szD at hl; exact (by omega : szR R ≤ 1048576)
  have A2 : ∀ o p, Below w.heap.size w ((w.alloc o).alloc p) := fun o p => ((Below.refl _ _).alloc (Nat.le_refl _) o).alloc (by simp) p
  clear hA hB hE hA' hB' hE' hl
  go_enter Try.func44, Try.ntmps44
  go_wp2_with fail
  refine (eq_any C _ _ _ _ _ hlC (IntsAt.keepB HA.out (A2 _ _)) (IntsAt.keepB HA'.out (A2 _ _))).mono ?_
  rintro r w1 ⟨rfl, b1⟩
  have hb2 : w1.heap[w.heap.size]? = some (.cells #[.slice a C.length ca, .slice b R.length cb, .slice e F.length ce] 73) := (b1.block w.heap.size (by simp; omega)).trans ((heap_prev _ _ _ (by simp)).trans (heap_last2 _ _ _ rfl))
  have hb3 : w1.heap[w.heap.size + 1]? = some (.cells #[.slice a' C.length ca', .slice b' R.length cb', .slice e' F.length ce'] 73) := (b1.block (w.heap.size + 1) (by simp)).trans (heap_last2 _ _ _ (by simp))
  have c1 : w1.cell? ⟨w.heap.size, 1, none⟩ = some (.slice b R.length cb) := cell_of hb2 1
  have c2 : w1.cell? ⟨w.heap.size, 2, none⟩ = some (.slice e F.length ce) := cell_of hb2 2
  have d1 : w1.cell? ⟨w.heap.size + 1, 1, none⟩ = some (.slice b' R.length cb') := cell_of hb3 1
  have d2 : w1.cell? ⟨w.heap.size + 1, 2, none⟩ = some (.slice e' F.length ce') := cell_of hb3 2
  have hs1 : w.heap.size + 2 ≤ w1.heap.size := Nat.le_trans (by simp) b1.size
  have B1 : Hid (Below w.heap.size w w1) := (A2 _ _).trans (b1.mono (A2 _ _).size)
  clear b1 hb2 hb3 A2
  go_wp2_with fail
  refine (eqIntSS_any R _ _ _ _ _ HLR.out (RowsAt.keepB HB.out B1.out) (RowsAt.keepB HB'.out B1.out)).mono ?_
  rintro r w2 ⟨rfl, b2⟩
  have e2 : w2.cell? ⟨w.heap.size, 2, none⟩ = some (.slice e F.length ce) := (b2.cell (p := ⟨w.heap.size, 2, none⟩) (show w.heap.size < w1.heap.size by omega)).trans c2
  have f2 : w2.cell? ⟨w.heap.size + 1, 2, none⟩ = some (.slice e' F.length ce') := (b2.cell (p := ⟨w.heap.size + 1, 2, none⟩) (show w.heap.size + 1 < w1.heap.size by omega)).trans d2
  have B2 : Hid (Below w.heap.size w w2) := B1.out.trans (b2.mono B1.out.size)
  clear b2 c1 c2 d1 d2
  go_wp2_with fail
  refine (eqBoolS_any F _ _ _ _ _ hlF (FlagsAt.keepB HE.out B2.out) (FlagsAt.keepB HE'.out B2.out)).mono ?_
  rintro r w3 ⟨rfl, b3⟩
  have B3 : Hid (Below w.heap.size w w3) := B2.out.trans (b3.mono B2.out.size)
  clear b3
  go_wp2
  go_ret
  exact ⟨rfl, B3.out⟩
/-- A machine of states in memory of its own. -/
def OwnD (w : World) (base : Nat) (v0 v1 v2 : Value) (C : List Int) (n : Nat) (f : Nat → List Int) (F : List Bool) : Prop :=
  w.ownsRow base 3 1 v0 C.length (ints C) ∧ w.ownsRow base 4 1 v2 F.length (flags F) ∧ ∃ Q : List Value, Q.length = n ∧ w.ownsRow base 26 1 v1 n Q ∧ (∀ j, j < n → w.ownsRow base 3 1 (vd Q j) (f j).length (ints (f j))) ∧
    (∀ i j, i < n → j < n → i ≠ j → (vd Q i).ownBlock = none ∨ (vd Q i).ownBlock ≠ (vd Q j).ownBlock) ∧ ∀ j, j < n → v0.ownBlock = none ∨ v0.ownBlock ≠ (vd Q j).ownBlock
theorem OwnD.rows {w : World} {base : Nat} {v0 v1 v2 : Value} {C : List Int} {n : Nat} {f : Nat → List Int} {F : List Bool} (h : OwnD w base v0 v1 v2 C n f F) : OwnR w base v1 n n f := by
  obtain ⟨-, -, Q, h1, h2, h3, h4, -⟩ := h
  exact ⟨Q, h1, h2, h3, h4⟩
theorem OwnD.mk {w : World} {base b1 : Nat} {v0 v1 v2 : Value} {C : List Int} {n : Nat} {f : Nat → List Int} {F : List Bool} (h0 : w.ownsRow base 3 1 v0 C.length (ints C)) (hlt : ∀ g, v0.ownBlock = some g → g < b1) (h1 : OwnR w b1 v1 n n f) (hb : base ≤ b1) (h2 : w.ownsRow base 4 1 v2 F.length (flags F)) : OwnD w base v0 v1 v2 C n f F := by
  obtain ⟨Q, q1, q2, q3, q4⟩ := h1
  refine ⟨h0, h2, Q, q1, own_mono q2 hb, fun j hj => own_mono (q3 j hj) hb, q4, fun j hj => ?_⟩
  cases hv : v0.ownBlock with
  | none => exact .inl rfl
  | some g =>
    refine .inr fun e => ?_
    have h5 := hlt g hv
    have h6 := (World.ownsRow.lt (q3 j hj) g e.symm).1
    omega
theorem OwnD.keepB {w w' : World} {base : Nat} {v0 v1 v2 : Value} {C : List Int} {n : Nat} {f : Nat → List Int} {F : List Bool} (h : OwnD w base v0 v1 v2 C n f F) (hb : Below w.heap.size w w') : OwnD w' base v0 v1 v2 C n f F := by
  obtain ⟨h0, h2, Q, q1, q2, q3, q4, q5⟩ := h
  exact ⟨World.ownsRow.keepB h0 hb, World.ownsRow.keepB h2 hb, Q, q1, World.ownsRow.keepB q2 hb, fun j hj => World.ownsRow.keepB (q3 j hj) hb, q4, q5⟩
theorem OwnD.kept {w w' : World} {base : Nat} {v0 v1 v2 : Value} {C : List Int} {n : Nat} {f : Nat → List Int} {F : List Bool} (h : OwnD w base v0 v1 v2 C n f F) {row : Option Nat} (hg : w.grownBy w' row) (hr' : ∀ g, row = some g → g < base) : OwnD w' base v0 v1 v2 C n f F := by
  obtain ⟨h0, h2, Q, q1, q2, q3, q4, q5⟩ := h
  exact ⟨World.ownsRow.kept h0 hg (own_ne' h0 hr'), World.ownsRow.kept h2 hg (own_ne' h2 hr'), Q, q1, World.ownsRow.kept q2 hg (own_ne' q2 hr'), fun j hj => World.ownsRow.kept (q3 j hj) hg (own_ne' (q3 j hj) hr'), q4, q5⟩
theorem OwnD.mono {w : World} {base base' : Nat} {v0 v1 v2 : Value} {C : List Int} {n : Nat} {f : Nat → List Int} {F : List Bool} (h : OwnD w base v0 v1 v2 C n f F) (hb : base' ≤ base) : OwnD w base' v0 v1 v2 C n f F := by
  obtain ⟨h0, h2, Q, q1, q2, q3, q4, q5⟩ := h
  exact ⟨own_mono h0 hb, own_mono h2 hb, Q, q1, own_mono q2 hb, fun j hj => own_mono (q3 j hj) hb, q4, q5⟩
/-- .. where it lies. -/
theorem OwnD.form {w : World} {base : Nat} {v0 v1 v2 : Value} {C : List Int} {R : Rw} {F : List Bool} (h : OwnD w base v0 v1 v2 C R.length (rw_ R) F) :
    ∃ a b e ca cb ce, v0 = .slice a C.length ca ∧ v1 = .slice b R.length cb ∧ v2 = .slice e F.length ce ∧ IntsAt w a C ∧ RowsAt w b R ∧ FlagsAt w e F := by
  obtain ⟨b, cb, e1, i1⟩ := OwnR.rows h.rows
  obtain ⟨-, a, ca, e0, i0⟩ := ints_of_own h.1
  obtain ⟨-, e, ce, e2, i2⟩ := flags_of_own h.2.1
  exact ⟨a, b, e, ca, cb, ce, e0, e1, e2, i0, i1, i2⟩
theorem blk_same {w : World} {b : Nat} {cs : Array Value} {t : TypeId} (h : w.heap[b]? = some (.cells cs t)) (o : Nat) (v : Value) : (w.setCell ⟨b, o, none⟩ v).heap[b]? = some (.cells (cs.setIfInBounds o v) t) := by
  simp [World.setCell, Array.getElem?_modify, h]
theorem blk_oth (w : World) (b o b' : Nat) (v : Value) (h : b ≠ b') : (w.setCell ⟨b, o, none⟩ v).heap[b']? = w.heap[b']? := by
  simp [World.setCell, Array.getElem?_modify, h]
end Go.Proofs.Ytlkcdcdgpklpoaa
