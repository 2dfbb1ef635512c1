/-
  A machine of states among the laws' arguments; its size, its copy, its comparison; whether it is good, as a plain function.
-/
import Derived.Test.YtnlccplpcbdmnaaM6C
import Derived.Lib.Hide
namespace Go.Proofs.Ytnlccplpcbdmnaa
open Go.ChangeShapes Go.WideShapes Go.ChangeAt Go.WideMaps Go.WideElems Go.RowKit
/-- A machine of states as a value. -/
def dfaV (a b e : Option Addr) (n m l ca cb ce : Nat) : Value := .agg #[.slice a n ca, .slice b m cb, .slice e l ce]
theorem Try.cellsDfa : Try.prog.cellsOf 26 = 3 := by kernel_rfl
section
variable {H : Type} {enc : TypeId × Value → H} {w : World} {base : Nat} {held : Bool}
set_option maxRecDepth 100000 in
theorem open_dfa {r : Reach} {b0 : Nat} {v : Value} {d : DataW H} {p : List MemPlace} (hv : Value.okWide Try.prog w r b0 26 v) (h : DataW.Trod enc Try.prog w base (fun _ => true) held 26 v d p) :
    ∃ (C : List Int) (R : Rw) (F : List Bool) (a b e : Option Addr) (ca cb ce : Nat), v = dfaV a b e C.length R.length F.length ca cb ce ∧ IntsAt w a C ∧ RowsAt w b R ∧ FlagsAt w e F ∧
      C.length ≤ maxLen ∧ R.length ≤ maxLen ∧ (∀ y ∈ R, y.length ≤ maxLen) ∧ F.length ≤ maxLen := by
  obtain ⟨c0, c1, c2, y0, y1, y2, m, rfl, rfl, rfl, hy0, hy1, hy2⟩ := Joins.open_agg3 Try.underlying26 (by kernel_rfl) Try.cellsDfa hv h
  obtain ⟨C, hC, a, ca, rfl, iC⟩ := arg_ints hy0
  obtain ⟨R, hR, hRR, b, cb, rfl, iR⟩ := arg_rows hy1
  obtain ⟨F, hF, e, ce, rfl, iF⟩ := arg_flags hy2
  exact ⟨C, R, F, a, b, e, ca, cb, ce, rfl, iC, iR, iF, hC, hR, hRR, hF⟩
end
/-- How many values a machine holds. -/
def szD (C : List Int) (R : Rw) (F : List Bool) : Nat := C.length + szR R + F.length
set_option maxRecDepth 100000 in
set_option maxHeartbeats 2000000 in
theorem szDfa_any (C : List Int) (R : Rw) (F : List Bool) (a b e : Option Addr) (ca cb ce : Nat) (w : World) (hC : C.length ≤ maxLen) (hR : R.length ≤ maxLen) (hx : ∀ y ∈ R, y.length ≤ maxLen) (hF : F.length ≤ maxLen) (hB : RowsAt w b R) :
    Calls Try.prog 8 #[.agg #[.slice a C.length ca, .slice b R.length cb, .slice e F.length ce], .int .i64 1048576] w fun r w' => ((szD C R F ≤ 1048576 ∧ r = .returned (.int .i64 (1048576 - szD C R F))) ∨ (1048576 < szD C R F ∧ r = .returned (.int .i64 (-1)))) ∧ Below w.heap.size w w' := by
  have HB : Hid _ := hB
  have HR : Hid _ := hR
  have HX : Hid _ := hx
  have hC1 : C.length ≤ 9223372036854775807 := hC
  have hF1 : F.length ≤ 9223372036854775807 := hF
  clear hC hF hR hx hB
  by_cases h1 : (1048576 : Int) - C.length < 0
  · go_enter Try.func8, Try.ntmps8
    go_wp2_with (first | (go_at_call 27; go_in) | fail)
    go_ret
    exact ⟨.inr ⟨by unfold szD; omega, rfl⟩, by go_grown⟩
  · go_enter Try.func8, Try.ntmps8
    go_wp2_with (first | (go_at_call 27; go_in) | fail)
    refine (szIntSS_any R b cb _ _ (by omega) (by omega) HR.out HX.out (RowsAt.keepB HB.out (by go_grown))).mono ?_
    rintro r w2 ⟨hs, b2⟩
    have B2 : Hid (Below w.heap.size w w2) := (by go_grown : Below w.heap.size w _).trans (b2.mono (by simp))
    have c2 : w2.cell? ⟨w.heap.size, 2, none⟩ = some (.slice e F.length ce) := (b2.cell (p := ⟨w.heap.size, 2, none⟩) (by simp)).trans (cell_of (heap_last2 _ _ _ rfl) 2)
    clear b2
    rcases hs with ⟨hs, rfl⟩ | ⟨hs, rfl⟩
    · have h2 : ¬ (1048576 : Int) - C.length - szR R < 0 := by omega
      have hszr : (szR R : Int) ≤ 1048576 := by omega
      clear hs
      generalize hz : szR R = z at *
      by_cases h3 : (1048576 : Int) - C.length - z - F.length < 0
      · go_wp2_with (first | (go_at_call 29; go_in) | fail)
        go_ret
        exact ⟨.inr ⟨by unfold szD; omega, rfl⟩, B2.out⟩
      · go_wp2_with (first | (go_at_call 29; go_in) | fail)
        go_ret
        exact ⟨.inl ⟨by unfold szD; omega, congrArg (fun z : Int => Ending.returned (.int .i64 z)) (by unfold szD; push_cast; omega)⟩, B2.out⟩
    · go_wp2
      go_ret
      exact ⟨.inr ⟨by unfold szD; omega, rfl⟩, B2.out⟩
set_option maxRecDepth 100000 in
set_option maxHeartbeats 2000000 in
theorem eqDfa_any (C : List Int) (R : Rw) (F : List Bool) (a b e a' b' e' : Option Addr) (ca cb ce ca' cb' ce' : Nat) (w : World) (hl : szD C R F ≤ 1048576) (hA : IntsAt w a C) (hB : RowsAt w b R) (hE : FlagsAt w e F) (hA' : IntsAt w a' C) (hB' : RowsAt w b' R) (hE' : FlagsAt w e' F) :
    Calls Try.prog 12 #[.agg #[.slice a C.length ca, .slice b R.length cb, .slice e F.length ce], .agg #[.slice a' C.length ca', .slice b' R.length cb', .slice e' F.length ce']] w fun r w' => r = .returned (.bool true) ∧ Below w.heap.size w w' := by
  have HA : Hid _ := hA
  have HB : Hid _ := hB
  have HE : Hid _ := hE
  have HA' : Hid _ := hA'
  have HB' : Hid _ := hB'
  have HE' : Hid _ := hE'
  have hlC : C.length ≤ 1048576 := by unfold szD at hl; omega
  have hlF : F.length ≤ 1048576 := by unfold szD at hl; omega
  have HLR : Hid (szR R ≤ 1048576) := by unfold szD at hl; exact (by omega : szR R ≤ 1048576)
  have A2 : ∀ o p, Below w.heap.size w ((w.alloc o).alloc p) := fun o p => ((Below.refl _ _).alloc (Nat.le_refl _) o).alloc (by simp) p
  clear hA hB hE hA' hB' hE' hl
  go_enter Try.func12, Try.ntmps12
  go_wp2_with fail
  refine (eq_any C _ _ _ _ _ hlC (IntsAt.keepB HA.out (A2 _ _)) (IntsAt.keepB HA'.out (A2 _ _))).mono ?_
  rintro r w1 ⟨rfl, b1⟩
  have hb2 : w1.heap[w.heap.size]? = some (.cells #[.slice a C.length ca, .slice b R.length cb, .slice e F.length ce] 29) := (b1.block w.heap.size (by simp; omega)).trans ((heap_prev _ _ _ (by simp)).trans (heap_last2 _ _ _ rfl))
  have hb3 : w1.heap[w.heap.size + 1]? = some (.cells #[.slice a' C.length ca', .slice b' R.length cb', .slice e' F.length ce'] 29) := (b1.block (w.heap.size + 1) (by simp)).trans (heap_last2 _ _ _ (by simp))
  have c1 : w1.cell? ⟨w.heap.size, 1, none⟩ = some (.slice b R.length cb) := cell_of hb2 1
  have c2 : w1.cell? ⟨w.heap.size, 2, none⟩ = some (.slice e F.length ce) := cell_of hb2 2
  have d1 : w1.cell? ⟨w.heap.size + 1, 1, none⟩ = some (.slice b' R.length cb') := cell_of hb3 1
  have d2 : w1.cell? ⟨w.heap.size + 1, 2, none⟩ = some (.slice e' F.length ce') := cell_of hb3 2
  have hs1 : w.heap.size + 2 ≤ w1.heap.size := Nat.le_trans (by simp) b1.size
  have B1 : Hid (Below w.heap.size w w1) := (A2 _ _).trans (b1.mono (A2 _ _).size)
  clear b1 hb2 hb3 A2
  go_wp2_with fail
  refine (eqIntSS_any R _ _ _ _ _ HLR.out (RowsAt.keepB HB.out B1.out) (RowsAt.keepB HB'.out B1.out)).mono ?_
  rintro r w2 ⟨rfl, b2⟩
  have e2 : w2.cell? ⟨w.heap.size, 2, none⟩ = some (.slice e F.length ce) := (b2.cell (p := ⟨w.heap.size, 2, none⟩) (show w.heap.size < w1.heap.size by omega)).trans c2
  have f2 : w2.cell? ⟨w.heap.size + 1, 2, none⟩ = some (.slice e' F.length ce') := (b2.cell (p := ⟨w.heap.size + 1, 2, none⟩) (show w.heap.size + 1 < w1.heap.size by omega)).trans d2
  have B2 : Hid (Below w.heap.size w w2) := B1.out.trans (b2.mono B1.out.size)
  clear b2 c1 c2 d1 d2
  go_wp2_with fail
  refine (eqBoolS_any F _ _ _ _ _ hlF (FlagsAt.keepB HE.out B2.out) (FlagsAt.keepB HE'.out B2.out)).mono ?_
  rintro r w3 ⟨rfl, b3⟩
  have B3 : Hid (Below w.heap.size w w3) := B2.out.trans (b3.mono B2.out.size)
  clear b3
  go_wp2
  go_ret
  exact ⟨rfl, B3.out⟩
/-- A machine of states in memory of its own. -/
def OwnD (w : World) (base : Nat) (v0 v1 v2 : Value) (C : List Int) (n : Nat) (f : Nat → List Int) (F : List Bool) : Prop :=
  w.ownsRow base 3 1 v0 C.length (ints C) ∧ w.ownsRow base 4 1 v2 F.length (flags F) ∧ ∃ Q : List Value, Q.length = n ∧ w.ownsRow base 22 1 v1 n Q ∧ (∀ j, j < n → w.ownsRow base 3 1 (vd Q j) (f j).length (ints (f j))) ∧
    (∀ i j, i < n → j < n → i ≠ j → (vd Q i).ownBlock = none ∨ (vd Q i).ownBlock ≠ (vd Q j).ownBlock) ∧ ∀ j, j < n → v0.ownBlock = none ∨ v0.ownBlock ≠ (vd Q j).ownBlock
theorem OwnD.rows {w : World} {base : Nat} {v0 v1 v2 : Value} {C : List Int} {n : Nat} {f : Nat → List Int} {F : List Bool} (h : OwnD w base v0 v1 v2 C n f F) : OwnR w base v1 n n f := by
  obtain ⟨-, -, Q, h1, h2, h3, h4, -⟩ := h
  exact ⟨Q, h1, h2, h3, h4⟩
theorem OwnD.mk {w : World} {base b1 : Nat} {v0 v1 v2 : Value} {C : List Int} {n : Nat} {f : Nat → List Int} {F : List Bool} (h0 : w.ownsRow base 3 1 v0 C.length (ints C)) (hlt : ∀ g, v0.ownBlock = some g → g < b1) (h1 : OwnR w b1 v1 n n f) (hb : base ≤ b1) (h2 : w.ownsRow base 4 1 v2 F.length (flags F)) : OwnD w base v0 v1 v2 C n f F := by
  obtain ⟨Q, q1, q2, q3, q4⟩ := h1
  refine ⟨h0, h2, Q, q1, own_mono q2 hb, fun j hj => own_mono (q3 j hj) hb, q4, fun j hj => ?_⟩
  cases hv : v0.ownBlock with
  | none => exact .inl rfl
  | some g =>
    refine .inr fun e => ?_
    have h5 := hlt g hv
    have h6 := (World.ownsRow.lt (q3 j hj) g e.symm).1
    omega
theorem OwnD.keepB {w w' : World} {base : Nat} {v0 v1 v2 : Value} {C : List Int} {n : Nat} {f : Nat → List Int} {F : List Bool} (h : OwnD w base v0 v1 v2 C n f F) (hb : Below w.heap.size w w') : OwnD w' base v0 v1 v2 C n f F := by
  obtain ⟨h0, h2, Q, q1, q2, q3, q4, q5⟩ := h
  exact ⟨World.ownsRow.keepB h0 hb, World.ownsRow.keepB h2 hb, Q, q1, World.ownsRow.keepB q2 hb, fun j hj => World.ownsRow.keepB (q3 j hj) hb, q4, q5⟩
theorem OwnD.kept {w w' : World} {base : Nat} {v0 v1 v2 : Value} {C : List Int} {n : Nat} {f : Nat → List Int} {F : List Bool} (h : OwnD w base v0 v1 v2 C n f F) {row : Option Nat} (hg : w.grownBy w' row) (hr' : ∀ g, row = some g → g < base) : OwnD w' base v0 v1 v2 C n f F := by
  obtain ⟨h0, h2, Q, q1, q2, q3, q4, q5⟩ := h
  exact ⟨World.ownsRow.kept h0 hg (own_ne' h0 hr'), World.ownsRow.kept h2 hg (own_ne' h2 hr'), Q, q1, World.ownsRow.kept q2 hg (own_ne' q2 hr'), fun j hj => World.ownsRow.kept (q3 j hj) hg (own_ne' (q3 j hj) hr'), q4, q5⟩
theorem OwnD.mono {w : World} {base base' : Nat} {v0 v1 v2 : Value} {C : List Int} {n : Nat} {f : Nat → List Int} {F : List Bool} (h : OwnD w base v0 v1 v2 C n f F) (hb : base' ≤ base) : OwnD w base' v0 v1 v2 C n f F := by
  obtain ⟨h0, h2, Q, q1, q2, q3, q4, q5⟩ := h
  exact ⟨own_mono h0 hb, own_mono h2 hb, Q, q1, own_mono q2 hb, fun j hj => own_mono (q3 j hj) hb, q4, q5⟩
/-- .. where it lies. -/
theorem OwnD.form {w : World} {base : Nat} {v0 v1 v2 : Value} {C : List Int} {R : Rw} {F : List Bool} (h : OwnD w base v0 v1 v2 C R.length (rw_ R) F) :
    ∃ a b e ca cb ce, v0 = .slice a C.length ca ∧ v1 = .slice b R.length cb ∧ v2 = .slice e F.length ce ∧ IntsAt w a C ∧ RowsAt w b R ∧ FlagsAt w e F := by
  obtain ⟨b, cb, e1, i1⟩ := OwnR.rows h.rows
  obtain ⟨-, a, ca, e0, i0⟩ := ints_of_own h.1
  obtain ⟨-, e, ce, e2, i2⟩ := flags_of_own h.2.1
  exact ⟨a, b, e, ca, cb, ce, e0, e1, e2, i0, i1, i2⟩
theorem blk_same {w : World} {b : Nat} {cs : Array Value} {t : TypeId} (h : w.heap[b]? = some (.cells cs t)) (o : Nat) (v : Value) : (w.setCell ⟨b, o, none⟩ v).heap[b]? = some (.cells (cs.setIfInBounds o v) t) := by
  simp [World.setCell, Array.getElem?_modify, h]
theorem blk_oth (w : World) (b o b' : Nat) (v : Value) (h : b ≠ b') : (w.setCell ⟨b, o, none⟩ v).heap[b']? = w.heap[b']? := by
  simp [World.setCell, Array.getElem?_modify, h]
set_option maxRecDepth 100000 in
set_option maxHeartbeats 4000000 in
theorem toDfa_any (C : List Int) (R : Rw) (F : List Bool) (a b e : Option Addr) (ca cb ce : Nat) (w : World) (hl : szD C R F ≤ 1048576) (hA : IntsAt w a C) (hB : RowsAt w b R) (hE : FlagsAt w e F) :
    Calls Try.prog 10 #[.agg #[.slice a C.length ca, .slice b R.length cb, .slice e F.length ce]] w fun r w' => ∃ v0 v1 v2, r = .returned (.agg #[v0, v1, v2]) ∧ OwnD w' w.heap.size v0 v1 v2 C R.length (rw_ R) F ∧ Below w.heap.size w w' := by
  have HA : Hid _ := hA
  have HB : Hid _ := hB
  have HE : Hid _ := hE
  have hlC : C.length ≤ 1048576 := by unfold szD at hl; omega
  have hlF : F.length ≤ 1048576 := by unfold szD at hl; omega
  have HLR : Hid (szR R ≤ 1048576) := by unfold szD at hl; exact (by omega : szR R ≤ 1048576)
  clear hA hB hE hl
  go_enter Try.func10, Try.ntmps10
  go_wp2_with fail
  have A3 : ∀ o p q, Below w.heap.size w (((w.alloc o).alloc p).alloc q) := fun o p q => (((Below.refl _ _).alloc (Nat.le_refl _) o).alloc (by simp) p).alloc (by simp; omega) q
  refine (toI_any C a ca _ hlC (IntsAt.keepB HA.out (A3 _ _ _))).mono ?_
  rintro r w2 ⟨v0, rfl, o0, b2⟩
  have hs2 : w.heap.size + 1 + 1 < w2.heap.size := Nat.lt_of_lt_of_le (by simp) b2.size
  have hb0 : w2.heap[w.heap.size]? = some (.cells #[.slice a C.length ca, .slice b R.length cb, .slice e F.length ce] 26) := (b2.block w.heap.size (by simp; omega)).trans ((heap_prev _ _ _ (by simp; omega)).trans ((heap_prev _ _ _ (by simp)).trans (heap_last2 _ _ _ rfl)))
  have hb1 : w2.heap[w.heap.size + 1]? = some (.cells #[.slice none 0 0, .slice none 0 0, .slice none 0 0] 29) := (b2.block (w.heap.size + 1) (by simp)).trans ((heap_prev _ _ _ (by simp)).trans (heap_last2 _ _ _ (by simp)))
  have hb2 : w2.heap[w.heap.size + 1 + 1]? = some (.cells #[.slice none 0 0, .slice none 0 0, .slice none 0 0] 29) := (b2.block (w.heap.size + 1 + 1) (by simp)).trans (heap_last2 _ _ _ (by simp))
  have O0 : Hid (w2.ownsRow (w.heap.size + 1 + 1 + 1) 3 1 v0 C.length (ints C)) := own_mono o0 (by simp)
  have B2 : Hid (Below w.heap.size w w2) := (A3 _ _ _).trans (b2.mono (A3 _ _ _).size)
  obtain ⟨-, va, vca, rfl, -⟩ := ints_of_own o0
  clear b2 o0 A3
  have kb0 := (blk_oth w2 (w.heap.size + 1 + 1) 0 w.heap.size (.slice va C.length vca) (by omega)).trans hb0
  have kb1 := (blk_oth w2 (w.heap.size + 1 + 1) 0 (w.heap.size + 1) (.slice va C.length vca) (by omega)).trans hb1
  have kb2 : (w2.setCell ⟨w.heap.size + 1 + 1, 0, none⟩ (.slice va C.length vca)).heap[w.heap.size + 1 + 1]? = some (.cells #[.slice va C.length vca, .slice none 0 0, .slice none 0 0] 29) := blk_same hb2 0 _
  have c20 : w2.cell? ⟨w.heap.size + 1 + 1, 0, none⟩ = some (.slice none 0 0) := cell_of hb2 0
  have f20 : w2.frozen? ⟨w.heap.size + 1 + 1, 0, none⟩ = false := frozen_of_row w2 _ _ _ _ hb2
  have c01 : (w2.setCell ⟨w.heap.size + 1 + 1, 0, none⟩ (.slice va C.length vca)).cell? ⟨w.heap.size, 1, none⟩ = some (.slice b R.length cb) := cell_of kb0 1
  have P0 : Hid ((w2.setCell ⟨w.heap.size + 1 + 1, 0, none⟩ (.slice va C.length vca)).ownsRow (w.heap.size + 1 + 1 + 1) 3 1 (.slice va C.length vca) C.length (ints C)) := own_set O0.out (by omega) _ _
  have hsz2 : (w2.setCell ⟨w.heap.size + 1 + 1, 0, none⟩ (.slice va C.length vca)).heap.size = w2.heap.size := by simp [World.setCell]
  have K2 : Hid (Below w.heap.size w (w2.setCell ⟨w.heap.size + 1 + 1, 0, none⟩ (.slice va C.length vca))) := Below.grown B2.out (grown_set w2 _ _ _) B2.out.size (fun g e => by have := Option.some.inj e; omega)
  clear hb0 hb1 hb2 O0 B2
  go_wp2_with fail
  refine (toIntSS_any R b cb _ HLR.out (RowsAt.keepB HB.out K2.out)).mono ?_
  rintro r w3 ⟨v1, rfl, o1, b3⟩
  have hs3 : w2.heap.size ≤ w3.heap.size := by have := b3.size; omega
  have hb0 := (b3.block w.heap.size (by omega)).trans kb0
  have hb1 := (b3.block (w.heap.size + 1) (by omega)).trans kb1
  have hb2 := (b3.block (w.heap.size + 1 + 1) (by omega)).trans kb2
  have hlt0 : ∀ g, (Value.slice va C.length vca).ownBlock = some g → g < w2.heap.size := fun g e => by have := (World.ownsRow.lt P0.out g e).2; omega
  have HLT : Hid _ := hlt0
  have Q0 : Hid _ := World.ownsRow.keepB P0.out b3
  have Q1 : Hid (OwnR w3 w2.heap.size v1 R.length R.length (rw_ R)) := by rw [← hsz2]; exact o1
  have L3 : Hid (Below w.heap.size w w3) := K2.out.trans (b3.mono K2.out.size)
  obtain ⟨vb, vcb, rfl, -⟩ := OwnR.rows o1
  clear b3 o1 kb0 kb1 kb2 c20 f20 c01 P0 K2 hsz2 hlt0
  have kb0 := (blk_oth w3 (w.heap.size + 1 + 1) 1 w.heap.size (.slice vb R.length vcb) (by omega)).trans hb0
  have kb1 := (blk_oth w3 (w.heap.size + 1 + 1) 1 (w.heap.size + 1) (.slice vb R.length vcb) (by omega)).trans hb1
  have kb2 : (w3.setCell ⟨w.heap.size + 1 + 1, 1, none⟩ (.slice vb R.length vcb)).heap[w.heap.size + 1 + 1]? = some (.cells #[.slice va C.length vca, .slice vb R.length vcb, .slice none 0 0] 29) := blk_same hb2 1 _
  have c21 : w3.cell? ⟨w.heap.size + 1 + 1, 1, none⟩ = some (.slice none 0 0) := cell_of hb2 1
  have f21 : w3.frozen? ⟨w.heap.size + 1 + 1, 1, none⟩ = false := frozen_of_row w3 _ _ _ _ hb2
  have c02 : (w3.setCell ⟨w.heap.size + 1 + 1, 1, none⟩ (.slice vb R.length vcb)).cell? ⟨w.heap.size, 2, none⟩ = some (.slice e F.length ce) := cell_of kb0 2
  have P0 : Hid _ := own_set Q0.out (show w.heap.size + 1 + 1 < _ by omega) 1 (.slice vb R.length vcb)
  have P1 : Hid _ := OwnR.kept Q1.out (grown_set w3 (w.heap.size + 1 + 1) 1 (.slice vb R.length vcb)) (fun g e => by have := Option.some.inj e; omega)
  have hsz3 : (w3.setCell ⟨w.heap.size + 1 + 1, 1, none⟩ (.slice vb R.length vcb)).heap.size = w3.heap.size := by simp [World.setCell]
  have K3 : Hid (Below w.heap.size w (w3.setCell ⟨w.heap.size + 1 + 1, 1, none⟩ (.slice vb R.length vcb))) := Below.grown L3.out (grown_set w3 _ _ _) L3.out.size (fun g e => by have := Option.some.inj e; omega)
  clear hb0 hb1 hb2 Q0 Q1 L3
  go_wp2_with fail
  refine (toBoolS_any F e ce _ hlF (FlagsAt.keepB HE.out K3.out)).mono ?_
  rintro r w4 ⟨v2, rfl, o2, b4⟩
  have hs4 : w3.heap.size ≤ w4.heap.size := by have := b4.size; omega
  have hb1 := (b4.block (w.heap.size + 1) (by omega)).trans kb1
  have hb2 := (b4.block (w.heap.size + 1 + 1) (by omega)).trans kb2
  have Q0 : Hid _ := World.ownsRow.keepB P0.out b4
  have Q1 : Hid _ := OwnR.keepB P1.out b4
  have Q2 : Hid (w4.ownsRow w2.heap.size 4 1 v2 F.length (flags F)) := own_mono o2 (by omega)
  have L4 : Hid (Below w.heap.size w w4) := K3.out.trans (b4.mono K3.out.size)
  obtain ⟨-, ve, vce, rfl, -⟩ := flags_of_own o2
  clear b4 o2 kb0 kb1 kb2 c21 f21 c02 P0 P1 K3 hsz3
  have c22 : w4.cell? ⟨w.heap.size + 1 + 1, 2, none⟩ = some (.slice none 0 0) := cell_of hb2 2
  have f22 : w4.frozen? ⟨w.heap.size + 1 + 1, 2, none⟩ = false := frozen_of_row w4 _ _ _ _ hb2
  have g0 : w4.cell? ⟨w.heap.size + 1 + 1, 0, none⟩ = some (.slice va C.length vca) := cell_of hb2 0
  have g1 : w4.cell? ⟨w.heap.size + 1 + 1, 1, none⟩ = some (.slice vb R.length vcb) := cell_of hb2 1
  have d0 : w4.cell? ⟨w.heap.size + 1, 0, none⟩ = some (.slice none 0 0) := cell_of hb1 0
  have d1 : w4.cell? ⟨w.heap.size + 1, 1, none⟩ = some (.slice none 0 0) := cell_of hb1 1
  have d2 : w4.cell? ⟨w.heap.size + 1, 2, none⟩ = some (.slice none 0 0) := cell_of hb1 2
  have z0 : w4.frozen? ⟨w.heap.size + 1, 0, none⟩ = false := frozen_of_row w4 _ _ _ _ hb1
  have z1 : w4.frozen? ⟨w.heap.size + 1, 1, none⟩ = false := frozen_of_row w4 _ _ _ _ hb1
  have z2 : w4.frozen? ⟨w.heap.size + 1, 2, none⟩ = false := frozen_of_row w4 _ _ _ _ hb1
  have HB1 : Hid _ := hb1
  clear hb1 hb2
  go_wp2
  obtain ⟨w9, hw9⟩ : ∃ w9, w9 = (((w4.setCell ⟨w.heap.size + 1 + 1, 2, none⟩ (.slice ve F.length vce)).setCell ⟨w.heap.size + 1, 0, none⟩ (.slice va C.length vca)).setCell ⟨w.heap.size + 1, 1, none⟩ (.slice vb R.length vcb)).setCell ⟨w.heap.size + 1, 2, none⟩ (.slice ve F.length vce) := ⟨_, rfl⟩
  have hb9 : w9.heap[w.heap.size + 1]? = some (.cells #[.slice va C.length vca, .slice vb R.length vcb, .slice ve F.length vce] 29) := by
    rw [hw9]
    exact blk_same (blk_same (blk_same ((blk_oth w4 (w.heap.size + 1 + 1) 2 (w.heap.size + 1) (.slice ve F.length vce) (by omega)).trans HB1.out) 0 _) 1 _) 2 _
  have ow : ∀ {t : TypeId} {v : Value} {n bs : Nat} {xs : List Value}, w.heap.size + 1 + 1 < bs → w4.ownsRow bs t 1 v n xs → w9.ownsRow bs t 1 v n xs := fun hbs ho => by
    rw [hw9]
    exact own_set (own_set (own_set (own_set ho (by omega) _ _) (by omega) _ _) (by omega) _ _) (by omega) _ _
  have q1 : OwnR w9 w2.heap.size (.slice vb R.length vcb) R.length R.length (rw_ R) := by
    obtain ⟨Q, y1, y2, y3, y4⟩ := Q1.out
    exact ⟨Q, y1, ow (by omega) y2, fun j hj => ow (by omega) (y3 j hj), y4⟩
  have bel : Below w.heap.size w w9 := by
    rw [hw9]
    have hz := L4.out.size
    refine Below.grown (Below.grown (Below.grown (Below.grown L4.out (grown_set _ _ _ _) hz (fun g e => by have := Option.some.inj e; omega)) (grown_set _ _ _ _) ?_ (fun g e => by have := Option.some.inj e; omega)) (grown_set _ _ _ _) ?_ (fun g e => by have := Option.some.inj e; omega)) (grown_set _ _ _ _) ?_ (fun g e => by have := Option.some.inj e; omega)
    all_goals simpa [World.setCell] using hz
  rw [← hw9]
  have r0 : w9.cell? ⟨w.heap.size + 1, 0, none⟩ = some (.slice va C.length vca) := cell_of hb9 0
  have r1 : w9.cell? ⟨w.heap.size + 1, 1, none⟩ = some (.slice vb R.length vcb) := cell_of hb9 1
  have r2 : w9.cell? ⟨w.heap.size + 1, 2, none⟩ = some (.slice ve F.length vce) := cell_of hb9 2
  exact bodyPost_ret (v := .agg #[.slice va C.length vca, .slice vb R.length vcb, .slice ve F.length vce]) (by simp [results, Try.results10, go_sem, r0, r1, r2]) rfl
    ⟨_, _, _, rfl, OwnD.mk (own_mono (ow (by omega) Q0.out) (by omega)) HLT.out q1 (by omega) (own_mono (ow (by omega) Q2.out) (by omega)), bel⟩
end Go.Proofs.Ytnlccplpcbdmnaa
