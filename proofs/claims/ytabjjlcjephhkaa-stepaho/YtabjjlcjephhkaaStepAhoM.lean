/-
  For every machine of words, state and rune, laws.FnExactStepAho returns true: impl.StepAho answers as the specification's StepAho, at every state and rune, and leaves the machine as it was. No conditions.
-/
import Derived.Test.YtabjjlcjephhkaaM6D
import Derived.Test.YtabjjlcjephhkaaW8R
import Derived.Deep.QuietTactic
import Derived.BigQuiet
import Derived.Test.YtabjjlcjephhkaaW8I
import Derived.Test.YtabjjlcjephhkaaW8N
import Derived.Lib.SmallJoins
import Derived.Deep.RegionHeld
namespace Go.Proofs.Ytabjjlcjephhkaa
open Go.ChangeShapes Go.WideShapes Go.ChangeAt Go.WideMaps Go.WideElems Go.RowKit
/-- A machine of words as a value. -/
def ahoV (a b c e : Option Addr) (n m k l ca cb cc ce : Nat) : Value := .agg #[.slice a n ca, .slice b m cb, .slice c k cc, .slice e l ce]
theorem Try.cellsAho : Try.prog.cellsOf 61 = 4 := by kernel_rfl
section
variable {H : Type} {enc : TypeId × Value → H} {w : World} {base : Nat} {held : Bool}
set_option maxRecDepth 100000 in
theorem open_aho {r : Reach} {b0 : Nat} {v : Value} {d : DataW H} {p : List MemPlace} (hv : Value.okWide Try.prog w r b0 61 v) (h : DataW.Trod enc Try.prog w base (fun _ => true) held 61 v d p) :
    ∃ (P B F : List Int) (R : Rw) (a b c e : Option Addr) (ca cb cc ce : Nat), v = ahoV a b c e P.length B.length F.length R.length ca cb cc ce ∧ IntsAt w a P ∧ IntsAt w b B ∧ IntsAt w c F ∧ RowsAt w e R ∧
      P.length ≤ maxLen ∧ B.length ≤ maxLen ∧ F.length ≤ maxLen ∧ R.length ≤ maxLen ∧ (∀ y ∈ R, y.length ≤ maxLen) := by
  obtain ⟨c0, c1, c2, c3, y0, y1, y2, y3, m, rfl, rfl, rfl, hy0, hy1, hy2, hy3⟩ := Joins.open_agg4 Try.underlying61 (by kernel_rfl) Try.cellsAho hv h
  obtain ⟨P, hP, a, ca, rfl, iP⟩ := arg_ints hy0
  obtain ⟨B, hB, b, cb, rfl, iB⟩ := arg_ints hy1
  obtain ⟨F, hF, c, cc, rfl, iF⟩ := arg_ints hy2
  obtain ⟨R, hR, hRR, e, ce, rfl, iR⟩ := arg_rows hy3
  exact ⟨P, B, F, R, a, b, c, e, ca, cb, cc, ce, rfl, iP, iB, iF, iR, hP, hB, hF, hR, hRR⟩
end
/-- How many values a machine holds. -/
def szA (P B F : List Int) (R : Rw) : Nat := P.length + B.length + F.length + szR R
set_option maxRecDepth 100000 in
set_option maxHeartbeats 2000000 in
theorem szAho_any (P B F : List Int) (R : Rw) (a b c e : Option Addr) (ca cb cc ce : Nat) (w : World) (hP : P.length ≤ maxLen) (hB : B.length ≤ maxLen) (hF : F.length ≤ maxLen) (hR : R.length ≤ maxLen) (hx : ∀ y ∈ R, y.length ≤ maxLen) (hE : RowsAt w e R) :
    Calls Try.prog 46 #[.agg #[.slice a P.length ca, .slice b B.length cb, .slice c F.length cc, .slice e R.length ce], .int .i64 1048576] w fun r w' => ((szA P B F R ≤ 1048576 ∧ r = .returned (.int .i64 (1048576 - szA P B F R))) ∨ (1048576 < szA P B F R ∧ r = .returned (.int .i64 (-1)))) ∧ Below w.heap.size w w' := by
  have HE : Hid _ := hE
  have HR : Hid _ := hR
  have HX : Hid _ := hx
  have hP1 : P.length ≤ 9223372036854775807 := hP
  have hB1 : B.length ≤ 9223372036854775807 := hB
  have hF1 : F.length ≤ 9223372036854775807 := hF
  clear hP hB hF hR hx hE
  by_cases h1 : (1048576 : Int) - P.length < 0
  · go_enter Try.func46, Try.ntmps46
    go_wp2_with (first | (go_at_call 77; go_in) | fail)
    go_ret
    exact ⟨.inr ⟨by unfold szA; omega, rfl⟩, by go_grown⟩
  · by_cases h2 : (1048576 : Int) - P.length - B.length < 0
    · go_enter Try.func46, Try.ntmps46
      go_wp2_with (first | (go_at_call 77; go_in) | fail)
      go_ret
      exact ⟨.inr ⟨by unfold szA; omega, rfl⟩, by go_grown⟩
    · by_cases h3 : (1048576 : Int) - P.length - B.length - F.length < 0
      · go_enter Try.func46, Try.ntmps46
        go_wp2_with (first | (go_at_call 77; go_in) | fail)
        go_ret
        exact ⟨.inr ⟨by unfold szA; omega, rfl⟩, by go_grown⟩
      · go_enter Try.func46, Try.ntmps46
        go_wp2_with (first | (go_at_call 77; go_in) | fail)
        refine (szIntSS_any R e ce _ _ (by omega) (by omega) HR.out HX.out (RowsAt.keepB HE.out (by go_grown))).mono ?_
        rintro r w2 ⟨hs, b2⟩
        have B2 : Hid (Below w.heap.size w w2) := (by go_grown : Below w.heap.size w _).trans (b2.mono (by simp))
        clear b2
        rcases hs with ⟨hs, rfl⟩ | ⟨hs, rfl⟩
        · have h4 : ¬ (1048576 : Int) - P.length - B.length - F.length - szR R < 0 := by omega
          have hszr : (szR R : Int) ≤ 1048576 := by omega
          clear hs
          go_wp2
          go_ret
          exact ⟨.inl ⟨by unfold szA; omega, congrArg (fun z : Int => Ending.returned (.int .i64 z)) (by unfold szA; push_cast; omega)⟩, B2.out⟩
        · go_wp2
          go_ret
          exact ⟨.inr ⟨by unfold szA; omega, rfl⟩, B2.out⟩
set_option maxRecDepth 100000 in
set_option maxHeartbeats 2000000 in
theorem eqAho_any (P B F : List Int) (R : Rw) (a b c e a' b' c' e' : Option Addr) (ca cb cc ce ca' cb' cc' ce' : Nat) (w : World) (hl : szA P B F R ≤ 1048576) (hA : IntsAt w a P) (hB : IntsAt w b B) (hC : IntsAt w c F) (hE : RowsAt w e R) (hA' : IntsAt w a' P) (hB' : IntsAt w b' B) (hC' : IntsAt w c' F) (hE' : RowsAt w e' R) :
    Calls Try.prog 41 #[.agg #[.slice a P.length ca, .slice b B.length cb, .slice c F.length cc, .slice e R.length ce], .agg #[.slice a' P.length ca', .slice b' B.length cb', .slice c' F.length cc', .slice e' R.length ce']] w fun r w' => r = .returned (.bool true) ∧ Below w.heap.size w w' := by
  have HA : Hid _ := hA
  have HB : Hid _ := hB
  have HC : Hid _ := hC
  have HE : Hid _ := hE
  have HA' : Hid _ := hA'
  have HB' : Hid _ := hB'
  have HC' : Hid _ := hC'
  have HE' : Hid _ := hE'
  have hlP : P.length ≤ 1048576 := by unfold szA at hl; omega
  have hlB : B.length ≤ 1048576 := by unfold szA at hl; omega
  have hlF : F.length ≤ 1048576 := by unfold szA at hl; omega
  have HLR : Hid (szR R ≤ 1048576) := by unfold szA at hl; exact (by omega : szR R ≤ 1048576)
  have A2 : ∀ o p, Below w.heap.size w ((w.alloc o).alloc p) := fun o p => ((Below.refl _ _).alloc (Nat.le_refl _) o).alloc (by simp) p
  clear hA hB hC hE hA' hB' hC' hE' hl
  go_enter Try.func41, Try.ntmps41
  go_wp2_with fail
  refine (eq_any P _ _ _ _ _ hlP (IntsAt.keepB HA.out (A2 _ _)) (IntsAt.keepB HA'.out (A2 _ _))).mono ?_
  rintro r w1 ⟨rfl, b1⟩
  have hb2 : w1.heap[w.heap.size]? = some (.cells #[.slice a P.length ca, .slice b B.length cb, .slice c F.length cc, .slice e R.length ce] 37) := (b1.block w.heap.size (by simp; omega)).trans ((heap_prev _ _ _ (by simp)).trans (heap_last2 _ _ _ rfl))
  have hb3 : w1.heap[w.heap.size + 1]? = some (.cells #[.slice a' P.length ca', .slice b' B.length cb', .slice c' F.length cc', .slice e' R.length ce'] 37) := (b1.block (w.heap.size + 1) (by simp)).trans (heap_last2 _ _ _ (by simp))
  have c1 : w1.cell? ⟨w.heap.size, 1, none⟩ = some (.slice b B.length cb) := cell_of hb2 1
  have d1 : w1.cell? ⟨w.heap.size + 1, 1, none⟩ = some (.slice b' B.length cb') := cell_of hb3 1
  have hs1 : w.heap.size + 2 ≤ w1.heap.size := Nat.le_trans (by simp) b1.size
  have B1 : Hid (Below w.heap.size w w1) := (A2 _ _).trans (b1.mono (A2 _ _).size)
  clear b1 A2
  go_wp2_with fail
  refine (eq_any B _ _ _ _ _ hlB (IntsAt.keepB HB.out B1.out) (IntsAt.keepB HB'.out B1.out)).mono ?_
  rintro r w2 ⟨rfl, b2⟩
  have hb2' := (b2.block w.heap.size (by omega)).trans hb2
  have hb3' := (b2.block (w.heap.size + 1) (by omega)).trans hb3
  have c2 : w2.cell? ⟨w.heap.size, 2, none⟩ = some (.slice c F.length cc) := cell_of hb2' 2
  have d2 : w2.cell? ⟨w.heap.size + 1, 2, none⟩ = some (.slice c' F.length cc') := cell_of hb3' 2
  have hs2 : w.heap.size + 2 ≤ w2.heap.size := Nat.le_trans hs1 b2.size
  have B2 : Hid (Below w.heap.size w w2) := B1.out.trans (b2.mono B1.out.size)
  clear b2 c1 d1 hb2 hb3
  go_wp2_with fail
  refine (eq_any F _ _ _ _ _ hlF (IntsAt.keepB HC.out B2.out) (IntsAt.keepB HC'.out B2.out)).mono ?_
  rintro r w3 ⟨rfl, b3⟩
  have c3 : w3.cell? ⟨w.heap.size, 3, none⟩ = some (.slice e R.length ce) := cell_of ((b3.block w.heap.size (by omega)).trans hb2') 3
  have d3 : w3.cell? ⟨w.heap.size + 1, 3, none⟩ = some (.slice e' R.length ce') := cell_of ((b3.block (w.heap.size + 1) (by omega)).trans hb3') 3
  have hs3 : w.heap.size + 2 ≤ w3.heap.size := Nat.le_trans hs2 b3.size
  have B3 : Hid (Below w.heap.size w w3) := B2.out.trans (b3.mono B2.out.size)
  clear b3 c2 d2 hb2' hb3'
  go_wp2_with fail
  refine (eqIntSS_any R _ _ _ _ _ HLR.out (RowsAt.keepB HE.out B3.out) (RowsAt.keepB HE'.out B3.out)).mono ?_
  rintro r w4 ⟨rfl, b4⟩
  have B4 : Hid (Below w.heap.size w w4) := B3.out.trans (b4.mono B3.out.size)
  clear b4
  go_wp2
  go_ret
  exact ⟨rfl, B4.out⟩
end Go.Proofs.Ytabjjlcjephhkaa
namespace Go.Proofs.Ytabjjlcjephhkaa
open Go.ChangeShapes Go.WideShapes Go.ChangeAt Go.WideMaps Go.WideElems Go.RowKit
/-- Two values that lie apart. -/
def aprt (v u : Value) : Prop := v.ownBlock = none ∨ v.ownBlock ≠ u.ownBlock
theorem aprt_lt {v u : Value} {b : Nat} (h : ∀ g, v.ownBlock = some g → g < b) (k : ∀ g, u.ownBlock = some g → b ≤ g) : aprt v u := by
  cases hv : v.ownBlock with
  | none => exact .inl hv
  | some g =>
    refine .inr fun e => ?_
    have h1 := h g hv
    have h2 := k g (e.symm.trans hv)
    omega
/-- A machine of words in memory of its own. -/
def OwnA (w : World) (base : Nat) (v0 v1 v2 v3 : Value) (P B F : List Int) (n : Nat) (f : Nat → List Int) : Prop :=
  (w.ownsRow base 3 1 v0 P.length (ints P) ∧ w.ownsRow base 3 1 v1 B.length (ints B) ∧ w.ownsRow base 3 1 v2 F.length (ints F)) ∧ (aprt v0 v1 ∧ aprt v0 v2 ∧ aprt v1 v2) ∧ ∃ Q : List Value, Q.length = n ∧ w.ownsRow base 24 1 v3 n Q ∧ (∀ j, j < n → w.ownsRow base 3 1 (vd Q j) (f j).length (ints (f j))) ∧
    (∀ i j, i < n → j < n → i ≠ j → (vd Q i).ownBlock = none ∨ (vd Q i).ownBlock ≠ (vd Q j).ownBlock) ∧ ∀ j, j < n → aprt v0 (vd Q j) ∧ aprt v1 (vd Q j) ∧ aprt v2 (vd Q j)
theorem OwnA.rows {w : World} {base : Nat} {v0 v1 v2 v3 : Value} {P B F : List Int} {n : Nat} {f : Nat → List Int} (h : OwnA w base v0 v1 v2 v3 P B F n f) : OwnR w base v3 n n f := by
  obtain ⟨-, -, Q, h1, h2, h3, h4, -⟩ := h
  exact ⟨Q, h1, h2, h3, h4⟩
theorem OwnA.mk {w : World} {base b0 b1 b2 b3 : Nat} {v0 v1 v2 v3 : Value} {P B F : List Int} {n : Nat} {f : Nat → List Int} (h0 : w.ownsRow b0 3 1 v0 P.length (ints P)) (t0 : ∀ g, v0.ownBlock = some g → g < b1) (h1 : w.ownsRow b1 3 1 v1 B.length (ints B)) (t1 : ∀ g, v1.ownBlock = some g → g < b2) (h2 : w.ownsRow b2 3 1 v2 F.length (ints F)) (t2 : ∀ g, v2.ownBlock = some g → g < b3) (h3 : OwnR w b3 v3 n n f) (e0 : base ≤ b0) (e1 : b0 ≤ b1) (e2 : b1 ≤ b2) (e3 : b2 ≤ b3) : OwnA w base v0 v1 v2 v3 P B F n f := by
  obtain ⟨Q, q1, q2, q3, q4⟩ := h3
  have l1 : ∀ g, v1.ownBlock = some g → b1 ≤ g := fun g e => (World.ownsRow.lt h1 g e).1
  have l2 : ∀ g, v2.ownBlock = some g → b2 ≤ g := fun g e => (World.ownsRow.lt h2 g e).1
  refine ⟨⟨own_mono h0 e0, own_mono h1 (by omega), own_mono h2 (by omega)⟩, ⟨aprt_lt t0 l1, aprt_lt t0 (fun g e => by have := l2 g e; omega), aprt_lt t1 l2⟩, Q, q1, own_mono q2 (by omega), fun j hj => own_mono (q3 j hj) (by omega), q4, fun j hj => ?_⟩
  have l3 : ∀ g, (vd Q j).ownBlock = some g → b3 ≤ g := fun g e => (World.ownsRow.lt (q3 j hj) g e).1
  exact ⟨aprt_lt t0 (fun g e => by have := l3 g e; omega), aprt_lt t1 (fun g e => by have := l3 g e; omega), aprt_lt t2 l3⟩
theorem OwnA.keepB {w w' : World} {base : Nat} {v0 v1 v2 v3 : Value} {P B F : List Int} {n : Nat} {f : Nat → List Int} (h : OwnA w base v0 v1 v2 v3 P B F n f) (hb : Below w.heap.size w w') : OwnA w' base v0 v1 v2 v3 P B F n f := by
  obtain ⟨⟨h0, h1, h2⟩, hp, Q, q1, q2, q3, q4, q5⟩ := h
  exact ⟨⟨World.ownsRow.keepB h0 hb, World.ownsRow.keepB h1 hb, World.ownsRow.keepB h2 hb⟩, hp, Q, q1, World.ownsRow.keepB q2 hb, fun j hj => World.ownsRow.keepB (q3 j hj) hb, q4, q5⟩
theorem OwnA.mono {w : World} {base base' : Nat} {v0 v1 v2 v3 : Value} {P B F : List Int} {n : Nat} {f : Nat → List Int} (h : OwnA w base v0 v1 v2 v3 P B F n f) (hb : base' ≤ base) : OwnA w base' v0 v1 v2 v3 P B F n f := by
  obtain ⟨⟨h0, h1, h2⟩, hp, Q, q1, q2, q3, q4, q5⟩ := h
  exact ⟨⟨own_mono h0 hb, own_mono h1 hb, own_mono h2 hb⟩, hp, Q, q1, own_mono q2 hb, fun j hj => own_mono (q3 j hj) hb, q4, q5⟩
/-- .. where it lies. -/
theorem OwnA.form {w : World} {base : Nat} {v0 v1 v2 v3 : Value} {P B F : List Int} {R : Rw} (h : OwnA w base v0 v1 v2 v3 P B F R.length (rw_ R)) :
    ∃ a b c e ca cb cc ce, v0 = .slice a P.length ca ∧ v1 = .slice b B.length cb ∧ v2 = .slice c F.length cc ∧ v3 = .slice e R.length ce ∧ IntsAt w a P ∧ IntsAt w b B ∧ IntsAt w c F ∧ RowsAt w e R := by
  obtain ⟨e, ce, e3, i3⟩ := OwnR.rows h.rows
  obtain ⟨-, a, ca, e0, i0⟩ := ints_of_own h.1.1
  obtain ⟨-, b, cb, e1, i1⟩ := ints_of_own h.1.2.1
  obtain ⟨-, c, cc, e2, i2⟩ := ints_of_own h.1.2.2
  exact ⟨a, b, c, e, ca, cb, cc, ce, e0, e1, e2, e3, i0, i1, i2, i3⟩
set_option maxRecDepth 100000 in
set_option maxHeartbeats 4000000 in
theorem toAho_any (P B F : List Int) (R : Rw) (a b c e : Option Addr) (ca cb cc ce : Nat) (w : World) (hl : szA P B F R ≤ 1048576) (hA : IntsAt w a P) (hB : IntsAt w b B) (hC : IntsAt w c F) (hE : RowsAt w e R) :
    Calls Try.prog 47 #[.agg #[.slice a P.length ca, .slice b B.length cb, .slice c F.length cc, .slice e R.length ce]] w fun r w' => ∃ v0 v1 v2 v3, r = .returned (.agg #[v0, v1, v2, v3]) ∧ OwnA w' w.heap.size v0 v1 v2 v3 P B F R.length (rw_ R) ∧ Below w.heap.size w w' := by
  have H0 : Hid _ := hA
  have H1 : Hid _ := hB
  have H2 : Hid _ := hC
  have H3 : Hid _ := hE
  have hl0 : P.length ≤ 1048576 := by unfold szA at hl; omega
  have hl1 : B.length ≤ 1048576 := by unfold szA at hl; omega
  have hl2 : F.length ≤ 1048576 := by unfold szA at hl; omega
  have hl3 : Hid (szR R ≤ 1048576) := by unfold szA at hl; exact (by omega : szR R ≤ 1048576)
  clear hA hB hC hE hl
  go_enter Try.func47, Try.ntmps47
  go_wp2_with fail
  have A3 : ∀ o p q, Below w.heap.size w (((w.alloc o).alloc p).alloc q) := fun o p q => (((Below.refl _ _).alloc (Nat.le_refl _) o).alloc (by simp) p).alloc (by simp; omega) q
  refine (toI_any P a ca _ hl0 (IntsAt.keepB H0.out (A3 _ _ _))).mono ?_
  rintro r w2 ⟨v0, rfl, o0, b2⟩
  have hs2 : w.heap.size + 1 + 1 < w2.heap.size := Nat.lt_of_lt_of_le (by simp) b2.size
  have hb0 : w2.heap[w.heap.size]? = some (.cells #[.slice a P.length ca, .slice b B.length cb, .slice c F.length cc, .slice e R.length ce] 61) := (b2.block w.heap.size (by simp; omega)).trans ((heap_prev _ _ _ (by simp; omega)).trans ((heap_prev _ _ _ (by simp)).trans (heap_last2 _ _ _ rfl)))
  have hb1 : w2.heap[w.heap.size + 1]? = some (.cells #[.slice none 0 0, .slice none 0 0, .slice none 0 0, .slice none 0 0] 37) := (b2.block (w.heap.size + 1) (by simp)).trans ((heap_prev _ _ _ (by simp)).trans (heap_last2 _ _ _ (by simp)))
  have hb2 : w2.heap[w.heap.size + 1 + 1]? = some (.cells #[.slice none 0 0, .slice none 0 0, .slice none 0 0, .slice none 0 0] 37) := (b2.block (w.heap.size + 1 + 1) (by simp)).trans (heap_last2 _ _ _ (by simp))
  have Q0 : Hid (w2.ownsRow (w.heap.size + 1 + 1 + 1) 3 1 v0 P.length (ints P)) := own_mono o0 (by simp)
  have L2 : Hid (Below w.heap.size w w2) := (A3 _ _ _).trans (b2.mono (A3 _ _ _).size)
  obtain ⟨-, va, vca, rfl, -⟩ := ints_of_own o0
  have T0 : Hid (∀ g, (Value.slice va P.length vca).ownBlock = some g → g < w2.heap.size) := fun g e => (World.ownsRow.lt Q0.out g e).2
  clear b2 o0 A3
  have c20 : w2.cell? ⟨w.heap.size + 1 + 1, 0, none⟩ = some (.slice none 0 0) := cell_of hb2 0
  have f20 : w2.frozen? ⟨w.heap.size + 1 + 1, 0, none⟩ = false := frozen_of_row w2 _ _ _ _ hb2
  have kb0 := (blk_oth w2 (w.heap.size + 1 + 1) 0 w.heap.size (.slice va P.length vca) (by omega)).trans hb0
  have kb1 := (blk_oth w2 (w.heap.size + 1 + 1) 0 (w.heap.size + 1) (.slice va P.length vca) (by omega)).trans hb1
  have kb2 : (w2.setCell ⟨w.heap.size + 1 + 1, 0, none⟩ (.slice va P.length vca)).heap[w.heap.size + 1 + 1]? = some (.cells #[.slice va P.length vca, .slice none 0 0, .slice none 0 0, .slice none 0 0] 37) := blk_same hb2 0 _
  have c01 : (w2.setCell ⟨w.heap.size + 1 + 1, 0, none⟩ (.slice va P.length vca)).cell? ⟨w.heap.size, 1, none⟩ = some (.slice b B.length cb) := cell_of kb0 1
  have P0 : Hid _ := own_set Q0.out (show w.heap.size + 1 + 1 < _ by omega) 0 (.slice va P.length vca)
  have hsz2 : (w2.setCell ⟨w.heap.size + 1 + 1, 0, none⟩ (.slice va P.length vca)).heap.size = w2.heap.size := by simp [World.setCell]
  have K2 : Hid (Below w.heap.size w (w2.setCell ⟨w.heap.size + 1 + 1, 0, none⟩ (.slice va P.length vca))) := Below.grown L2.out (grown_set w2 _ _ _) L2.out.size (fun g e => by have := Option.some.inj e; omega)
  clear hb0 hb1 hb2 L2 Q0
  go_wp2_with fail
  refine (toI_any B b cb _ hl1 (IntsAt.keepB H1.out K2.out)).mono ?_
  rintro r w3 ⟨v1, rfl, o1, b3⟩
  have hs3 : w2.heap.size ≤ w3.heap.size := by have := b3.size; omega
  have hb0 := (b3.block (w.heap.size) (by omega)).trans kb0
  have hb1 := (b3.block (w.heap.size + 1) (by omega)).trans kb1
  have hb2 := (b3.block (w.heap.size + 1 + 1) (by omega)).trans kb2
  have Q0 : Hid _ := World.ownsRow.keepB P0.out b3
  have Q1 : Hid (w3.ownsRow w2.heap.size 3 1 v1 B.length (ints B)) := by rw [← hsz2]; exact o1
  have L3 : Hid (Below w.heap.size w w3) := K2.out.trans (b3.mono K2.out.size)
  obtain ⟨-, vb, vcb, rfl, -⟩ := ints_of_own o1
  have T1 : Hid (∀ g, (Value.slice vb B.length vcb).ownBlock = some g → g < w3.heap.size) := fun g e => (World.ownsRow.lt Q1.out g e).2
  clear b3 o1 kb0 kb1 kb2 c20 f20 c01 K2 hsz2 P0
  have c21 : w3.cell? ⟨w.heap.size + 1 + 1, 1, none⟩ = some (.slice none 0 0) := cell_of hb2 1
  have f21 : w3.frozen? ⟨w.heap.size + 1 + 1, 1, none⟩ = false := frozen_of_row w3 _ _ _ _ hb2
  have kb0 := (blk_oth w3 (w.heap.size + 1 + 1) 1 w.heap.size (.slice vb B.length vcb) (by omega)).trans hb0
  have kb1 := (blk_oth w3 (w.heap.size + 1 + 1) 1 (w.heap.size + 1) (.slice vb B.length vcb) (by omega)).trans hb1
  have kb2 : (w3.setCell ⟨w.heap.size + 1 + 1, 1, none⟩ (.slice vb B.length vcb)).heap[w.heap.size + 1 + 1]? = some (.cells #[.slice va P.length vca, .slice vb B.length vcb, .slice none 0 0, .slice none 0 0] 37) := blk_same hb2 1 _
  have c02 : (w3.setCell ⟨w.heap.size + 1 + 1, 1, none⟩ (.slice vb B.length vcb)).cell? ⟨w.heap.size, 2, none⟩ = some (.slice c F.length cc) := cell_of kb0 2
  have P0 : Hid _ := own_set Q0.out (show w.heap.size + 1 + 1 < _ by omega) 1 (.slice vb B.length vcb)
  have P1 : Hid _ := own_set Q1.out (show w.heap.size + 1 + 1 < _ by omega) 1 (.slice vb B.length vcb)
  have hsz3 : (w3.setCell ⟨w.heap.size + 1 + 1, 1, none⟩ (.slice vb B.length vcb)).heap.size = w3.heap.size := by simp [World.setCell]
  have K3 : Hid (Below w.heap.size w (w3.setCell ⟨w.heap.size + 1 + 1, 1, none⟩ (.slice vb B.length vcb))) := Below.grown L3.out (grown_set w3 _ _ _) L3.out.size (fun g e => by have := Option.some.inj e; omega)
  clear hb0 hb1 hb2 L3 Q0 Q1
  go_wp2_with fail
  refine (toI_any F c cc _ hl2 (IntsAt.keepB H2.out K3.out)).mono ?_
  rintro r w4 ⟨v2, rfl, o2, b4⟩
  have hs4 : w3.heap.size ≤ w4.heap.size := by have := b4.size; omega
  have hb0 := (b4.block (w.heap.size) (by omega)).trans kb0
  have hb1 := (b4.block (w.heap.size + 1) (by omega)).trans kb1
  have hb2 := (b4.block (w.heap.size + 1 + 1) (by omega)).trans kb2
  have Q0 : Hid _ := World.ownsRow.keepB P0.out b4
  have Q1 : Hid _ := World.ownsRow.keepB P1.out b4
  have Q2 : Hid (w4.ownsRow w3.heap.size 3 1 v2 F.length (ints F)) := by rw [← hsz3]; exact o2
  have L4 : Hid (Below w.heap.size w w4) := K3.out.trans (b4.mono K3.out.size)
  obtain ⟨-, vc, vcc, rfl, -⟩ := ints_of_own o2
  have T2 : Hid (∀ g, (Value.slice vc F.length vcc).ownBlock = some g → g < w4.heap.size) := fun g e => (World.ownsRow.lt Q2.out g e).2
  clear b4 o2 kb0 kb1 kb2 c21 f21 c02 K3 hsz3 P0 P1
  have c22 : w4.cell? ⟨w.heap.size + 1 + 1, 2, none⟩ = some (.slice none 0 0) := cell_of hb2 2
  have f22 : w4.frozen? ⟨w.heap.size + 1 + 1, 2, none⟩ = false := frozen_of_row w4 _ _ _ _ hb2
  have kb0 := (blk_oth w4 (w.heap.size + 1 + 1) 2 w.heap.size (.slice vc F.length vcc) (by omega)).trans hb0
  have kb1 := (blk_oth w4 (w.heap.size + 1 + 1) 2 (w.heap.size + 1) (.slice vc F.length vcc) (by omega)).trans hb1
  have kb2 : (w4.setCell ⟨w.heap.size + 1 + 1, 2, none⟩ (.slice vc F.length vcc)).heap[w.heap.size + 1 + 1]? = some (.cells #[.slice va P.length vca, .slice vb B.length vcb, .slice vc F.length vcc, .slice none 0 0] 37) := blk_same hb2 2 _
  have c03 : (w4.setCell ⟨w.heap.size + 1 + 1, 2, none⟩ (.slice vc F.length vcc)).cell? ⟨w.heap.size, 3, none⟩ = some (.slice e R.length ce) := cell_of kb0 3
  have P0 : Hid _ := own_set Q0.out (show w.heap.size + 1 + 1 < _ by omega) 2 (.slice vc F.length vcc)
  have P1 : Hid _ := own_set Q1.out (show w.heap.size + 1 + 1 < _ by omega) 2 (.slice vc F.length vcc)
  have P2 : Hid _ := own_set Q2.out (show w.heap.size + 1 + 1 < _ by omega) 2 (.slice vc F.length vcc)
  have hsz4 : (w4.setCell ⟨w.heap.size + 1 + 1, 2, none⟩ (.slice vc F.length vcc)).heap.size = w4.heap.size := by simp [World.setCell]
  have K4 : Hid (Below w.heap.size w (w4.setCell ⟨w.heap.size + 1 + 1, 2, none⟩ (.slice vc F.length vcc))) := Below.grown L4.out (grown_set w4 _ _ _) L4.out.size (fun g e => by have := Option.some.inj e; omega)
  clear hb0 hb1 hb2 L4 Q0 Q1 Q2
  go_wp2_with fail
  refine (toIntSS_any R e ce _ hl3.out (RowsAt.keepB H3.out K4.out)).mono ?_
  rintro r w5 ⟨v3, rfl, o3, b5⟩
  have hs5 : w4.heap.size ≤ w5.heap.size := by have := b5.size; omega
  have hb0 := (b5.block (w.heap.size) (by omega)).trans kb0
  have hb1 := (b5.block (w.heap.size + 1) (by omega)).trans kb1
  have hb2 := (b5.block (w.heap.size + 1 + 1) (by omega)).trans kb2
  have Q0 : Hid _ := World.ownsRow.keepB P0.out b5
  have Q1 : Hid _ := World.ownsRow.keepB P1.out b5
  have Q2 : Hid _ := World.ownsRow.keepB P2.out b5
  have Q3 : Hid (OwnR w5 w4.heap.size v3 R.length R.length (rw_ R)) := by rw [← hsz4]; exact o3
  have L5 : Hid (Below w.heap.size w w5) := K4.out.trans (b5.mono K4.out.size)
  obtain ⟨ve, vce, rfl, -⟩ := OwnR.rows o3
  clear b5 o3 kb0 kb1 kb2 c22 f22 c03 K4 hsz4 P0 P1 P2
  have c23 : w5.cell? ⟨w.heap.size + 1 + 1, 3, none⟩ = some (.slice none 0 0) := cell_of hb2 3
  have f23 : w5.frozen? ⟨w.heap.size + 1 + 1, 3, none⟩ = false := frozen_of_row w5 _ _ _ _ hb2
  have g0 : w5.cell? ⟨w.heap.size + 1 + 1, 0, none⟩ = some (.slice va P.length vca) := cell_of hb2 0
  have g1 : w5.cell? ⟨w.heap.size + 1 + 1, 1, none⟩ = some (.slice vb B.length vcb) := cell_of hb2 1
  have g2 : w5.cell? ⟨w.heap.size + 1 + 1, 2, none⟩ = some (.slice vc F.length vcc) := cell_of hb2 2
  have d0 : w5.cell? ⟨w.heap.size + 1, 0, none⟩ = some (.slice none 0 0) := cell_of hb1 0
  have z0 : w5.frozen? ⟨w.heap.size + 1, 0, none⟩ = false := frozen_of_row w5 _ _ _ _ hb1
  have d1 : w5.cell? ⟨w.heap.size + 1, 1, none⟩ = some (.slice none 0 0) := cell_of hb1 1
  have z1 : w5.frozen? ⟨w.heap.size + 1, 1, none⟩ = false := frozen_of_row w5 _ _ _ _ hb1
  have d2 : w5.cell? ⟨w.heap.size + 1, 2, none⟩ = some (.slice none 0 0) := cell_of hb1 2
  have z2 : w5.frozen? ⟨w.heap.size + 1, 2, none⟩ = false := frozen_of_row w5 _ _ _ _ hb1
  have d3 : w5.cell? ⟨w.heap.size + 1, 3, none⟩ = some (.slice none 0 0) := cell_of hb1 3
  have z3 : w5.frozen? ⟨w.heap.size + 1, 3, none⟩ = false := frozen_of_row w5 _ _ _ _ hb1
  have HB1 : Hid _ := hb1
  clear hb0 hb1 hb2
  go_wp2
  obtain ⟨w9, hw9⟩ : ∃ w9, w9 = (((((w5.setCell ⟨w.heap.size + 1 + 1, 3, none⟩ (.slice ve R.length vce)).setCell ⟨w.heap.size + 1, 0, none⟩ (.slice va P.length vca)).setCell ⟨w.heap.size + 1, 1, none⟩ (.slice vb B.length vcb)).setCell ⟨w.heap.size + 1, 2, none⟩ (.slice vc F.length vcc)).setCell ⟨w.heap.size + 1, 3, none⟩ (.slice ve R.length vce)) := ⟨_, rfl⟩
  have hb9 : w9.heap[w.heap.size + 1]? = some (.cells #[.slice va P.length vca, .slice vb B.length vcb, .slice vc F.length vcc, .slice ve R.length vce] 37) := by
    rw [hw9]
    exact blk_same (blk_same (blk_same (blk_same ((blk_oth w5 (w.heap.size + 1 + 1) 3 (w.heap.size + 1) (.slice ve R.length vce) (by omega)).trans HB1.out) 0 _) 1 _) 2 _) 3 _
  have ow : ∀ {t : TypeId} {v : Value} {n bs : Nat} {xs : List Value}, w.heap.size + 1 + 1 < bs → w5.ownsRow bs t 1 v n xs → w9.ownsRow bs t 1 v n xs := fun hbs ho => by
    rw [hw9]
    exact own_set (own_set (own_set (own_set (own_set ho (by omega) _ _) (by omega) _ _) (by omega) _ _) (by omega) _ _) (by omega) _ _
  have q3 : OwnR w9 w4.heap.size (.slice ve R.length vce) R.length R.length (rw_ R) := by
    obtain ⟨Q, y1, y2, y3, y4⟩ := Q3.out
    exact ⟨Q, y1, ow (by omega) y2, fun j hj => ow (by omega) (y3 j hj), y4⟩
  have bel : Below w.heap.size w w9 := by
    rw [hw9]
    have hz := L5.out.size
    have hn : ∀ (g : Nat), some (w.heap.size + 1) = some g → w.heap.size ≤ g := fun g e => by have := Option.some.inj e; omega
    have hn2 : ∀ (g : Nat), some (w.heap.size + 1 + 1) = some g → w.heap.size ≤ g := fun g e => by have := Option.some.inj e; omega
    have q1 := Below.grown L5.out (grown_set w5 (w.heap.size + 1 + 1) 3 (.slice ve R.length vce)) hz hn2
    have q2 := Below.grown q1 (grown_set _ (w.heap.size + 1) 0 (.slice va P.length vca)) q1.size hn
    have q3 := Below.grown q2 (grown_set _ (w.heap.size + 1) 1 (.slice vb B.length vcb)) q2.size hn
    have q4 := Below.grown q3 (grown_set _ (w.heap.size + 1) 2 (.slice vc F.length vcc)) q3.size hn
    have q5 := Below.grown q4 (grown_set _ (w.heap.size + 1) 3 (.slice ve R.length vce)) q4.size hn
    exact q5
  rw [← hw9]
  have r0 : w9.cell? ⟨w.heap.size + 1, 0, none⟩ = some (.slice va P.length vca) := cell_of hb9 0
  have r1 : w9.cell? ⟨w.heap.size + 1, 1, none⟩ = some (.slice vb B.length vcb) := cell_of hb9 1
  have r2 : w9.cell? ⟨w.heap.size + 1, 2, none⟩ = some (.slice vc F.length vcc) := cell_of hb9 2
  have r3 : w9.cell? ⟨w.heap.size + 1, 3, none⟩ = some (.slice ve R.length vce) := cell_of hb9 3
  exact bodyPost_ret (v := .agg #[.slice va P.length vca, .slice vb B.length vcb, .slice vc F.length vcc, .slice ve R.length vce]) (by simp [results, Try.results47, go_sem, r0, r1, r2, r3]) rfl
    ⟨_, _, _, _, rfl, OwnA.mk (ow (by omega) Q0.out) T0.out (ow (by omega) Q1.out) T1.out (ow (by omega) Q2.out) T2.out q3 (by omega) (by omega) (by omega) (by omega), bel⟩
end Go.Proofs.Ytabjjlcjephhkaa
namespace Go.Proofs.Ytabjjlcjephhkaa
open Go.ChangeShapes Go.WideShapes Go.ChangeAt Go.WideMaps Go.WideElems Go.RowKit
/-- What a good machine keeps at a state that is not the first. -/
def okSt (P B F : List Int) (k : Nat) : Prop := (0 ≤ P.getD k 0 ∧ P.getD k 0 ≤ (k : Int) - 1) ∧ goodB (B.getD k 0) = true ∧ (0 ≤ F.getD k 0 ∧ F.getD k 0 ≤ (k : Int) - 1) ∧ ∀ i, 1 ≤ i → i < k → ¬ (P.getD i 0 = P.getD k 0 ∧ B.getD i 0 = B.getD k 0)
def noTwin (P B : List Int) (k m : Nat) : Prop := ∀ j, 1 ≤ j → j < m → ¬ (P.getD j 0 = P.getD k 0 ∧ B.getD j 0 = B.getD k 0)
def okA (P B F : List Int) (R : Rw) : Prop := (1 ≤ P.length ∧ P.length ≤ 100) ∧ (B.length = P.length ∧ F.length = P.length ∧ R.length = P.length) ∧ (P.getD 0 0 = -1 ∧ B.getD 0 0 = -1 ∧ F.getD 0 0 = 0) ∧ ∀ k, k < P.length → risB 0 7 (rw_ R k) = true ∧ (0 < k → okSt P B F k)
open Classical in
/-- Whether a machine of words is good. -/
noncomputable def goodA (P B F : List Int) (R : Rw) : Bool := decide (okA P B F R)
theorem goodA_yes {P B F : List Int} {R : Rw} (h : okA P B F R) : goodA P B F R = true := @decide_eq_true _ (Classical.propDecidable _) h
theorem goodA_no {P B F : List Int} {R : Rw} (h : ¬ okA P B F R) : goodA P B F R = false := @decide_eq_false _ (Classical.propDecidable _) h
theorem goodA_true {P B F : List Int} {R : Rw} (h : goodA P B F R = true) : okA P B F R := @of_decide_eq_true _ (Classical.propDecidable _) h
set_option maxRecDepth 100000 in
set_option maxHeartbeats 4000000 in
theorem sgoodA_any (P B F : List Int) (R : Rw) (a b c e : Option Addr) (ca cb cc ce : Nat) (w : World) (hl : szA P B F R ≤ 1048576) (hA : IntsAt w a P) (hB : IntsAt w b B) (hC : IntsAt w c F) (hE : RowsAt w e R) :
    Calls Try.prog 34 #[.agg #[.slice a P.length ca, .slice b B.length cb, .slice c F.length cc, .slice e R.length ce]] w fun r w' => r = .returned (.bool (goodA P B F R)) ∧ Below w.heap.size w w' := by
  have HA : Hid _ := hA
  have HB : Hid _ := hB
  have HC : Hid _ := hC
  have HE : Hid _ := hE
  have HLR : Hid (szR R ≤ 1048576) := by unfold szA at hl; exact (by omega : szR R ≤ 1048576)
  have hlP : P.length ≤ 1048576 := by unfold szA at hl; omega
  clear hA hB hC hE hl
  have A1 : ∀ o, Below w.heap.size w (w.alloc o) := fun o => (Below.refl _ _).alloc (Nat.le_refl _) o
  by_cases h1 : 1 ≤ P.length ∧ P.length ≤ 100
  case neg =>
    have HG : Hid (goodA P B F R = false) := goodA_no fun h => h1 h.1
    have HI : Hid (¬ ((1 : Int) ≤ (P.length : Int) ∧ (P.length : Int) ≤ 100)) := fun h => h1 (by omega)
    clear h1
    go_enter Try.func34, Try.ntmps34
    go_wp2_with (first | (go_at_call 74; refine (in_no HI.out _).mono ?_; rintro r w' ⟨rfl, rfl⟩) | fail)
    go_ret
    exact ⟨by rw [HG.out]; rfl, A1 _⟩
  have HI : Hid ((1 : Int) ≤ (P.length : Int) ∧ (P.length : Int) ≤ 100) := by exact (by omega : (1 : Int) ≤ (P.length : Int) ∧ (P.length : Int) ≤ 100)
  by_cases h2 : B.length = P.length
  case neg =>
    have HG : Hid (goodA P B F R = false) := goodA_no fun h => h2 h.2.1.1
    have q1 : ((B.length : Int) == (P.length : Int)) = false := by simp; omega
    have q2 : ¬ (B.length : Int) = (P.length : Int) := by omega
    have q3 : decide ((B.length : Int) = (P.length : Int)) = false := decide_eq_false q2
    go_enter Try.func34, Try.ntmps34
    go_wp2_with (first | (go_at_call 74; refine (in_yes HI.out _).mono ?_; rintro r w' ⟨rfl, rfl⟩) | fail)
    go_ret
    exact ⟨by rw [HG.out]; rfl, A1 _⟩
  rw [h2]
  have H2 : Hid (B.length = P.length) := h2
  clear h2
  by_cases h3 : F.length = P.length
  case neg =>
    have HG : Hid (goodA P B F R = false) := goodA_no fun h => h3 h.2.1.2.1
    have q1 : ((F.length : Int) == (P.length : Int)) = false := by simp; omega
    have q2 : ¬ (F.length : Int) = (P.length : Int) := by omega
    have q3 : decide ((F.length : Int) = (P.length : Int)) = false := decide_eq_false q2
    go_enter Try.func34, Try.ntmps34
    go_wp2_with (first | (go_at_call 74; refine (in_yes HI.out _).mono ?_; rintro r w' ⟨rfl, rfl⟩) | fail)
    go_ret
    exact ⟨by rw [HG.out]; rfl, A1 _⟩
  rw [h3]
  have H3 : Hid (F.length = P.length) := h3
  clear h3
  by_cases h4 : R.length = P.length
  case neg =>
    have HG : Hid (goodA P B F R = false) := goodA_no fun h => h4 h.2.1.2.2
    have q1 : ((R.length : Int) == (P.length : Int)) = false := by simp; omega
    have q2 : ¬ (R.length : Int) = (P.length : Int) := by omega
    have q3 : decide ((R.length : Int) = (P.length : Int)) = false := decide_eq_false q2
    go_enter Try.func34, Try.ntmps34
    go_wp2_with (first | (go_at_call 74; refine (in_yes HI.out _).mono ?_; rintro r w' ⟨rfl, rfl⟩) | fail)
    go_ret
    exact ⟨by rw [HG.out]; rfl, A1 _⟩
  rw [h4]
  have H4 : Hid (R.length = P.length) := h4
  clear h4
  have h0 : (0 : Int) < (P.length : Int) := by omega
  have h0n : 0 < P.length := by omega
  obtain ⟨pb, po, rfl, pl, pc⟩ := HA.out 0 h0n
  have pg : ∀ o, (w.alloc o).cell? ⟨pb, po, none⟩ = some (.int .i64 (P.getD 0 0)) := fun o => ((A1 o).cell (p := ⟨pb, po, none⟩) pl).trans pc
  clear pc
  by_cases h5 : P.getD 0 0 = (-1)
  case neg =>
    have HG : Hid (goodA P B F R = false) := goodA_no fun h => h5 h.2.2.1.1
    generalize P.getD 0 0 = x at *
    have q1 : (x == (-1)) = false := by simpa using h5
    have q3 : decide (x = (-1)) = false := decide_eq_false h5
    go_enter Try.func34, Try.ntmps34
    go_wp2_with (first | (go_at_call 74; refine (in_yes HI.out _).mono ?_; rintro r w' ⟨rfl, rfl⟩) | fail)
    go_ret
    exact ⟨by rw [HG.out]; rfl, A1 _⟩
  rw [h5] at pg
  have H5 : Hid (P.getD 0 0 = (-1)) := h5
  clear h5
  obtain ⟨qb, qo, rfl, ql, qc⟩ := HB.out 0 (by rw [H2.out]; exact h0n)
  have qg : ∀ o, (w.alloc o).cell? ⟨qb, qo, none⟩ = some (.int .i64 (B.getD 0 0)) := fun o => ((A1 o).cell (p := ⟨qb, qo, none⟩) ql).trans qc
  clear qc
  by_cases h6 : B.getD 0 0 = (-1)
  case neg =>
    have HG : Hid (goodA P B F R = false) := goodA_no fun h => h6 h.2.2.1.2.1
    generalize B.getD 0 0 = x at *
    have q1 : (x == (-1)) = false := by simpa using h6
    have q3 : decide (x = (-1)) = false := decide_eq_false h6
    go_enter Try.func34, Try.ntmps34
    go_wp2_with (first | (go_at_call 74; refine (in_yes HI.out _).mono ?_; rintro r w' ⟨rfl, rfl⟩) | fail)
    go_ret
    exact ⟨by rw [HG.out]; rfl, A1 _⟩
  rw [h6] at qg
  have H6 : Hid (B.getD 0 0 = (-1)) := h6
  clear h6
  obtain ⟨fb, fo, rfl, fl, fc⟩ := HC.out 0 (by rw [H3.out]; exact h0n)
  have fg : ∀ o, (w.alloc o).cell? ⟨fb, fo, none⟩ = some (.int .i64 (F.getD 0 0)) := fun o => ((A1 o).cell (p := ⟨fb, fo, none⟩) fl).trans fc
  clear fc
  by_cases h7 : F.getD 0 0 = 0
  case neg =>
    have HG : Hid (goodA P B F R = false) := goodA_no fun h => h7 h.2.2.1.2.2
    generalize F.getD 0 0 = x at *
    have q1 : (x == 0) = false := by simpa using h7
    have q3 : decide (x = 0) = false := decide_eq_false h7
    go_enter Try.func34, Try.ntmps34
    go_wp2_with (first | (go_at_call 74; refine (in_yes HI.out _).mono ?_; rintro r w' ⟨rfl, rfl⟩) | fail)
    go_ret
    exact ⟨by rw [HG.out]; rfl, A1 _⟩
  rw [h7] at fg
  have H7 : Hid (F.getD 0 0 = 0) := h7
  clear h7
  go_enter Try.func34, Try.ntmps34
  go_wp2_with (first | (go_at_call 74; refine (in_yes HI.out _).mono ?_; rintro r w' ⟨rfl, rfl⟩) | fail)
  clear pg qg fg
  go_loopw [55] (fun i wr => ∃ k : Nat, k ≤ P.length ∧ i = .int .i64 k ∧ (∀ j, j < k → risB 0 7 (rw_ R j) = true ∧ (0 < j → okSt P B F j)) ∧ wr.heap[w.heap.size]? = some (.cells #[.slice (some ⟨pb, po, none⟩) P.length ca, .slice (some ⟨qb, qo, none⟩) P.length cb, .slice (some ⟨fb, fo, none⟩) P.length cc, .slice e P.length ce] 37) ∧ Below w.heap.size w wr) (fun i _ => P.length - (intOf i).toNat)
  case atStart => exact ⟨0, Nat.zero_le _, rfl, fun j hj => absurd hj (by omega), heap_last2 _ _ _ rfl, A1 _⟩
  case round =>
    obtain ⟨k, hk, rfl, hall, hbl, hbw⟩ := hrel
    obtain ⟨w1, hw1⟩ : ∃ w1, w1 = wr := ⟨_, rfl⟩
    subst hw1
    have HALL : Hid _ := hall
    have BW : Hid (Below w.heap.size w w1) := hbw
    have d0 : w1.cell? ⟨w.heap.size, 0, none⟩ = some (.slice (some ⟨pb, po, none⟩) P.length ca) := cell_of hbl 0
    have d1 : w1.cell? ⟨w.heap.size, 1, none⟩ = some (.slice (some ⟨qb, qo, none⟩) P.length cb) := cell_of hbl 1
    have d2 : w1.cell? ⟨w.heap.size, 2, none⟩ = some (.slice (some ⟨fb, fo, none⟩) P.length cc) := cell_of hbl 2
    have d3 : w1.cell? ⟨w.heap.size, 3, none⟩ = some (.slice e P.length ce) := cell_of hbl 3
    have HBL : Hid _ := hbl
    clear hall hbw hbl
    by_cases hlt : k < P.length
    · have hltI : (k : Int) < (P.length : Int) := by omega
      have hkR : k < R.length := by rw [H4.out]; exact hlt
      obtain ⟨eb, eo, sa, sc, rfl, l1, c1, iS⟩ := HE.out k hkR
      have hls : (rw_ R k).length ≤ 1048576 := Nat.le_trans (rw_len R k hkR) HLR.out
      have g1 : w1.cell? ⟨eb, eo + k, none⟩ = some (.slice sa (rw_ R k).length sc) := (BW.out.cell (p := ⟨eb, eo + k, none⟩) l1).trans c1
      have HRI : Hid (Calls Try.prog 76 #[.slice sa (rw_ R k).length sc, .int .i64 0, .int .i64 7] w1 fun e w' => e = .returned (.bool (risB 0 7 (rw_ R k))) ∧ w' = w1) := sris_any 0 7 (rw_ R k) _ _ _ hls (IntsAt.keepB iS BW.out)
      clear c1 iS
      cases q0 : risB 0 7 (rw_ R k) with
      | false =>
        rw [q0] at HRI
        have HG : Hid (goodA P B F R = false) := goodA_no fun h => by have := (h.2.2.2 k hlt).1; rw [q0] at this; cases this
        clear q0
        go_wp2_with fail
        refine Calls.mono HRI.out ?_
        rintro r w' ⟨rfl, rfl⟩
        go_wp2
        go_ret
        exact ⟨by rw [HG.out] <;> rfl, BW.out⟩
      | true =>
        rw [q0] at HRI
        by_cases hk0 : k = 0
        · have HN : Hid (∀ j, j < k + 1 → risB 0 7 (rw_ R j) = true ∧ (0 < j → okSt P B F j)) := fun j hj => by
            obtain rfl : j = k := by omega
            exact ⟨q0, fun h => absurd h (by omega)⟩
          have hk0I : ((k : Int) == 0) = true := by simp; omega
          have hk0K : decide ((k : Int) = 0) = true := decide_eq_true (by omega)
          clear q0 hk0
          go_wp2_with fail
          refine Calls.mono HRI.out ?_
          rintro r w' ⟨rfl, rfl⟩
          go_wp2
          go_roundw
          case rel => exact ⟨k + 1, by omega, by go_num, HN.out, HBL.out, BW.out⟩
          case measure => simp [intOf]; omega
        · have Q0 : Hid (risB 0 7 (rw_ R k) = true) := q0
          have hk0I : ((k : Int) == 0) = false := by simp; omega
          have hk0J : ¬ (k : Int) = 0 := by omega
          have hwk : IntKind.i64.wrap ((k : Int) - 1) = (k : Int) - 1 := IntWalk.i64_in _ (by omega)
          clear q0
          obtain ⟨pb', po', pe, pl', pc⟩ := HA.out k hlt
          cases pe
          have gp : w1.cell? ⟨pb, po + k, none⟩ = some (.int .i64 (P.getD k 0)) := (BW.out.cell (p := ⟨pb, po + k, none⟩) pl').trans pc
          obtain ⟨qb', qo', qe, ql', qc⟩ := HB.out k (by rw [H2.out]; exact hlt)
          cases qe
          have gq : w1.cell? ⟨qb, qo + k, none⟩ = some (.int .i64 (B.getD k 0)) := (BW.out.cell (p := ⟨qb, qo + k, none⟩) ql').trans qc
          obtain ⟨fb', fo', fe, fl', fc⟩ := HC.out k (by rw [H3.out]; exact hlt)
          cases fe
          have gf : w1.cell? ⟨fb, fo + k, none⟩ = some (.int .i64 (F.getD k 0)) := (BW.out.cell (p := ⟨fb, fo + k, none⟩) fl').trans fc
          have HIP : Hid (Calls Try.prog 74 #[.int .i64 (P.getD k 0), .int .i64 0, .int .i64 ((k : Int) - 1)] w1 fun e w' => e = .returned (.bool (decide (0 ≤ P.getD k 0 ∧ P.getD k 0 ≤ (k : Int) - 1))) ∧ w' = w1) := in_any _ _ _ _
          have HIF : Hid (Calls Try.prog 74 #[.int .i64 (F.getD k 0), .int .i64 0, .int .i64 ((k : Int) - 1)] w1 fun e w' => e = .returned (.bool (decide (0 ≤ F.getD k 0 ∧ F.getD k 0 ≤ (k : Int) - 1))) ∧ w' = w1) := in_any _ _ _ _
          have HGR : Hid (Calls Try.prog 75 #[.int .i64 (B.getD k 0)] w1 fun e w' => e = .returned (.bool (goodB (B.getD k 0))) ∧ w' = w1) := good_any _ _
          clear pc qc fc
          by_cases q1 : 0 ≤ P.getD k 0 ∧ P.getD k 0 ≤ (k : Int) - 1
          case neg =>
            have HG : Hid (goodA P B F R = false) := goodA_no fun h => q1 ((h.2.2.2 k hlt).2 (by omega)).1
            rw [decide_eq_false q1] at HIP
            generalize P.getD k 0 = x at gp HIP
            clear q1 gq gf HIF HGR
            go_wp2_with fail
            refine Calls.mono HRI.out ?_
            rintro r w' ⟨rfl, rfl⟩
            go_wp2_with fail
            refine Calls.mono HIP.out ?_
            rintro r w' ⟨rfl, rfl⟩
            go_wp2
            go_ret
            exact ⟨by rw [HG.out] <;> rfl, BW.out⟩
          cases q2 : goodB (B.getD k 0)
          case false =>
            have HG : Hid (goodA P B F R = false) := goodA_no fun h => by
              have := ((h.2.2.2 k hlt).2 (by omega)).2.1
              rw [q2] at this
              cases this
            rw [decide_eq_true q1] at HIP
            rw [q2] at HGR
            generalize P.getD k 0 = x at gp HIP
            generalize B.getD k 0 = y at gq HGR
            clear q1 q2 gf HIF
            go_wp2_with fail
            refine Calls.mono HRI.out ?_
            rintro r w' ⟨rfl, rfl⟩
            go_wp2_with fail
            refine Calls.mono HIP.out ?_
            rintro r w' ⟨rfl, rfl⟩
            go_wp2_with fail
            refine Calls.mono HGR.out ?_
            rintro r w' ⟨rfl, rfl⟩
            go_wp2
            go_ret
            exact ⟨by rw [HG.out] <;> rfl, BW.out⟩
          by_cases q3 : 0 ≤ F.getD k 0 ∧ F.getD k 0 ≤ (k : Int) - 1
          case neg =>
            have HG : Hid (goodA P B F R = false) := goodA_no fun h => q3 ((h.2.2.2 k hlt).2 (by omega)).2.2.1
            rw [decide_eq_true q1] at HIP
            rw [q2] at HGR
            rw [decide_eq_false q3] at HIF
            generalize P.getD k 0 = x at gp HIP
            generalize B.getD k 0 = y at gq HGR
            generalize F.getD k 0 = z at gf HIF
            clear q1 q2 q3
            go_wp2_with fail
            refine Calls.mono HRI.out ?_
            rintro r w' ⟨rfl, rfl⟩
            go_wp2_with fail
            refine Calls.mono HIP.out ?_
            rintro r w' ⟨rfl, rfl⟩
            go_wp2_with fail
            refine Calls.mono HGR.out ?_
            rintro r w' ⟨rfl, rfl⟩
            go_wp2_with fail
            refine Calls.mono HIF.out ?_
            rintro r w' ⟨rfl, rfl⟩
            go_wp2
            go_ret
            exact ⟨by rw [HG.out] <;> rfl, BW.out⟩
          rw [decide_eq_true q1] at HIP
          rw [q2] at HGR
          rw [decide_eq_true q3] at HIF
          have Q1 : Hid _ := q1
          have Q2 : Hid _ := q2
          have Q3 : Hid _ := q3
          generalize hx : P.getD k 0 = x at gp HIP
          generalize hy : B.getD k 0 = y at gq HGR
          generalize hz : F.getD k 0 = z at gf HIF
          have HX : Hid _ := hx
          have HY : Hid _ := hy
          clear q1 q2 q3 hx hy hz
          go_wp2_with fail
          refine Calls.mono HRI.out ?_
          rintro r w' ⟨rfl, rfl⟩
          go_wp2_with fail
          refine Calls.mono HIP.out ?_
          rintro r w' ⟨rfl, rfl⟩
          go_wp2_with fail
          refine Calls.mono HGR.out ?_
          rintro r w' ⟨rfl, rfl⟩
          go_wp2_with fail
          refine Calls.mono HIF.out ?_
          rintro r w' ⟨rfl, rfl⟩
          go_wp2
          clear d0 d1 d2 d3 g1 gp gq gf HRI HIP HIF HGR
          go_loopw [5] (fun i wr => ∃ m : Nat, 1 ≤ m ∧ m ≤ k ∧ i = .int .i64 m ∧ noTwin P B k m ∧ wr.heap[w.heap.size]? = some (.cells #[.slice (some ⟨pb, po, none⟩) P.length ca, .slice (some ⟨qb, qo, none⟩) P.length cb, .slice (some ⟨fb, fo, none⟩) P.length cc, .slice (some ⟨eb, eo, none⟩) P.length ce] 37) ∧ Below w.heap.size w wr) (fun i _ => k - (intOf i).toNat)
          case atStart => exact ⟨1, Nat.le_refl _, by omega, rfl, fun j j1 j2 => absurd j2 (by omega), HBL.out, BW.out⟩
          case round =>
            obtain ⟨m, hm1, hm2, rfl, hno, hbl, hbw⟩ := hrel
            have HNO : Hid _ := hno
            have BW2 : Hid (Below w.heap.size w wr) := hbw
            have d0 : wr.cell? ⟨w.heap.size, 0, none⟩ = some (.slice (some ⟨pb, po, none⟩) P.length ca) := cell_of hbl 0
            have d1 : wr.cell? ⟨w.heap.size, 1, none⟩ = some (.slice (some ⟨qb, qo, none⟩) P.length cb) := cell_of hbl 1
            have HBL2 : Hid _ := hbl
            clear hno hbw hbl
            by_cases hmk : m < k
            · have hmI : (m : Int) < (k : Int) := by omega
              have hmJ : (m : Int) < (P.length : Int) := by omega
              obtain ⟨pb', po', pe, pl1, pc1⟩ := HA.out k hlt
              cases pe
              have gp : wr.cell? ⟨pb, po + k, none⟩ = some (.int .i64 (P.getD k 0)) := (BW2.out.cell (p := ⟨pb, po + k, none⟩) pl1).trans pc1
              obtain ⟨pb', po', pe, pl2, pc2⟩ := HA.out m (by omega)
              cases pe
              have gp2 : wr.cell? ⟨pb, po + m, none⟩ = some (.int .i64 (P.getD m 0)) := (BW2.out.cell (p := ⟨pb, po + m, none⟩) pl2).trans pc2
              obtain ⟨qb', qo', qe, ql1, qc1⟩ := HB.out k (by rw [H2.out]; exact hlt)
              cases qe
              have gq : wr.cell? ⟨qb, qo + k, none⟩ = some (.int .i64 (B.getD k 0)) := (BW2.out.cell (p := ⟨qb, qo + k, none⟩) ql1).trans qc1
              obtain ⟨qb', qo', qe, ql2, qc2⟩ := HB.out m (by rw [H2.out]; omega)
              cases qe
              have gq2 : wr.cell? ⟨qb, qo + m, none⟩ = some (.int .i64 (B.getD m 0)) := (BW2.out.cell (p := ⟨qb, qo + m, none⟩) ql2).trans qc2
              clear pc1 pc2 qc1 qc2
              by_cases e1 : P.getD m 0 = P.getD k 0
              · by_cases e2 : B.getD m 0 = B.getD k 0
                · have HG : Hid (goodA P B F R = false) := goodA_no fun h => ((h.2.2.2 k hlt).2 (by omega)).2.2.2 m hm1 hmk ⟨e1, e2⟩
                  rw [e1] at gp2
                  rw [e2] at gq2
                  generalize P.getD k 0 = s at gp gp2
                  generalize B.getD k 0 = t at gq gq2
                  clear e1 e2
                  go_wp2
                  go_quiet (fail)
                  go_wp2
                  go_ret
                  exact ⟨by rw [HG.out] <;> rfl, below_drewN BW2.out _⟩
                · have HN : Hid (noTwin P B k (m + 1)) := fun j j1 j2 h => by
                    by_cases ej : j = m
                    · exact e2 (ej ▸ h.2)
                    · exact HNO.out j j1 (by omega) h
                  rw [e1] at gp2
                  generalize P.getD k 0 = s at gp gp2
                  generalize B.getD k 0 = t at gq e2
                  generalize B.getD m 0 = u at gq2 e2
                  have e2b : decide (u = t) = false := decide_eq_false e2
                  have e2c : (u == t) = false := by simpa using e2
                  clear e1
                  go_wp2
                  go_quiet (fail)
                  go_wp2
                  go_roundw
                  case rel => exact ⟨m + 1, by omega, by omega, by go_num, HN.out, HBL2.out, below_drewN BW2.out _⟩
                  case measure => simp [intOf]; omega
              · have HN : Hid (noTwin P B k (m + 1)) := fun j j1 j2 h => by
                  by_cases ej : j = m
                  · exact e1 (ej ▸ h.1)
                  · exact HNO.out j j1 (by omega) h
                generalize P.getD k 0 = s at gp e1
                generalize P.getD m 0 = u at gp2 e1
                have e1b : decide (u = s) = false := decide_eq_false e1
                have e1c : (u == s) = false := by simpa using e1
                clear gq gq2
                go_wp2
                go_quiet (fail)
                go_wp2
                go_roundw
                case rel => exact ⟨m + 1, by omega, by omega, by go_num, HN.out, HBL2.out, below_drewN BW2.out _⟩
                case measure => simp [intOf]; omega
            · obtain rfl : m = k := by omega
              have hmI : ¬ (m : Int) < (m : Int) := by omega
              have HN : Hid (∀ j, j < m + 1 → risB 0 7 (rw_ R j) = true ∧ (0 < j → okSt P B F j)) := fun j hj => by
                by_cases ej : j = m
                · subst ej
                  exact ⟨Q0.out, fun _ => ⟨Q1.out, Q2.out, Q3.out, HNO.out⟩⟩
                · exact HALL.out j (by omega)
              go_wp2
              go_roundw
              case rel => exact ⟨m + 1, by omega, by go_num, HN.out, HBL2.out, BW2.out⟩
              case measure => simp [intOf]; omega
    · obtain rfl : k = P.length := by omega
      have hltI : ¬ (P.length : Int) < (P.length : Int) := by omega
      have HG : Hid (goodA P B F R = true) := goodA_yes ⟨h1, ⟨H2.out, H3.out, H4.out⟩, ⟨H5.out, H6.out, H7.out⟩, HALL.out⟩
      go_wp2
      go_ret
      exact ⟨by rw [HG.out] <;> rfl, BW.out⟩
end Go.Proofs.Ytabjjlcjephhkaa
namespace Go.Proofs.Ytabjjlcjephhkaa
open Go.ChangeShapes Go.WideShapes Go.ChangeAt Go.WideMaps Go.WideElems Go.RowKit
/-- Whether a state is as a good machine's. -/
def stB (P B F : List Int) (k : Nat) : Bool :=
  if k = 0 then decide (P.getD k 0 = -1) && (decide (B.getD k 0 = -1) && decide (F.getD k 0 = 0))
  else decide (0 ≤ P.getD k 0 ∧ P.getD k 0 < (k : Int)) && (goodB (B.getD k 0) && decide (0 ≤ F.getD k 0 ∧ F.getD k 0 < (k : Int)))
theorem amongB {r n : Int} (hn : 0 ≤ n ∧ n ≤ 1000000) (w : World) :
    Calls Try.prog 72 #[.int .i64 r, .int .i64 0, .int .i64 n] w fun e w' => e = .returned (.bool (decide (0 ≤ r ∧ r < n))) ∧ w' = w := by
  by_cases h : 0 ≤ r ∧ r < n
  · rw [decide_eq_true h]
    exact (among_yes (by omega) (by omega) w).mono fun _ _ ⟨h1, h2⟩ => ⟨h1, h2.symm⟩
  · rw [decide_eq_false h]
    exact (among_no (by omega) (by omega) w).mono fun _ _ ⟨h1, h2⟩ => ⟨h1, h2.symm⟩
set_option maxRecDepth 100000 in
set_option maxHeartbeats 2000000 in
theorem isState_any (P B F : List Int) (a b c e : Option Addr) (n ca cb cc ne ce : Nat) (k : Nat) (w : World) (h1 : n = P.length) (h2 : n = B.length) (h3 : n = F.length) (hk : k < n) (hn : n ≤ 100000) (hA : IntsAt w a P) (hB : IntsAt w b B) (hC : IntsAt w c F) :
    Calls Try.prog 86 #[.agg #[.slice a n ca, .slice b n cb, .slice c n cc, .slice e ne ce], .int .i64 k] w fun r w' => r = .returned (.bool (stB P B F k)) ∧ Below w.heap.size w w' := by
  have A1 : ∀ o, Below w.heap.size w (w.alloc o) := fun o => (Below.refl _ _).alloc (Nat.le_refl _) o
  obtain ⟨pb, po, rfl, pl, pc⟩ := hA k (by omega)
  obtain ⟨qb, qo, rfl, ql, qc⟩ := hB k (by omega)
  obtain ⟨fb, fo, rfl, fl, fc⟩ := hC k (by omega)
  have gp : ∀ o, (w.alloc o).cell? ⟨pb, po + k, none⟩ = some (.int .i64 (P.getD k 0)) := fun o => ((A1 o).cell (p := ⟨pb, po + k, none⟩) pl).trans pc
  have gq : ∀ o, (w.alloc o).cell? ⟨qb, qo + k, none⟩ = some (.int .i64 (B.getD k 0)) := fun o => ((A1 o).cell (p := ⟨qb, qo + k, none⟩) ql).trans qc
  have gf : ∀ o, (w.alloc o).cell? ⟨fb, fo + k, none⟩ = some (.int .i64 (F.getD k 0)) := fun o => ((A1 o).cell (p := ⟨fb, fo + k, none⟩) fl).trans fc
  clear hA hB hC pc qc fc h1 h2 h3
  have hkI : (k : Int) < (n : Int) := by omega
  unfold stB
  generalize P.getD k 0 = x at gp ⊢
  generalize B.getD k 0 = y at gq ⊢
  generalize F.getD k 0 = z at gf ⊢
  have BD : Hid (∀ o m, Below w.heap.size w ((w.alloc o).drewN m)) := fun o m => below_drewN (A1 o) _
  by_cases hk0 : k = 0
  · have hk0I : ((k : Int) == 0) = true := by simp; omega
    have hk0K : decide ((k : Int) = 0) = true := decide_eq_true (by omega)
    rw [if_pos hk0]
    clear hk0
    by_cases e1 : x = -1
    · by_cases e2 : y = -1
      · by_cases e3 : z = 0
        · subst e1 e2 e3
          go_enter Try.func86, Try.ntmps86
          go_wp2
          go_quiet (fail)
          go_wp2
          go_ret
          exact ⟨rfl, BD.out _ _⟩
        · subst e1 e2
          have e3b : (z == 0) = false := by simpa using e3
          have e3c : decide (z = 0) = false := decide_eq_false e3
          rw [e3c]
          go_enter Try.func86, Try.ntmps86
          go_wp2
          go_quiet (fail)
          go_wp2
          go_ret
          exact ⟨rfl, BD.out _ _⟩
      · subst e1
        have e2b : (y == -1) = false := by simpa using e2
        have e2c : decide (y = -1) = false := decide_eq_false e2
        rw [e2c]
        go_enter Try.func86, Try.ntmps86
        go_wp2
        go_quiet (fail)
        go_wp2
        go_ret
        exact ⟨rfl, BD.out _ _⟩
    · have e1b : (x == -1) = false := by simpa using e1
      have e1c : decide (x = -1) = false := decide_eq_false e1
      rw [e1c]
      go_enter Try.func86, Try.ntmps86
      go_wp2
      go_quiet (fail)
      go_wp2
      go_ret
      exact ⟨rfl, BD.out _ _⟩
  · have hk0I : ((k : Int) == 0) = false := by simp; omega
    have hk0K : decide ((k : Int) = 0) = false := decide_eq_false (by omega)
    have hk0J : ¬ (k : Int) = 0 := by omega
    rw [if_neg hk0]
    clear hk0
    have HP : Hid (∀ w', Calls Try.prog 72 #[.int .i64 x, .int .i64 0, .int .i64 k] w' fun e w'' => e = .returned (.bool (decide (0 ≤ x ∧ x < (k : Int)))) ∧ w'' = w') := fun w' => amongB (by omega) w'
    have HF : Hid (∀ w', Calls Try.prog 72 #[.int .i64 z, .int .i64 0, .int .i64 k] w' fun e w'' => e = .returned (.bool (decide (0 ≤ z ∧ z < (k : Int)))) ∧ w'' = w') := fun w' => amongB (by omega) w'
    have HG : Hid (∀ w', Calls Try.prog 73 #[.int .i64 y] w' fun e w'' => e = .returned (.bool (goodB y)) ∧ w'' = w') := fun w' => igood_any y w'
    generalize decide (0 ≤ x ∧ x < (k : Int)) = q1 at HP ⊢
    generalize decide (0 ≤ z ∧ z < (k : Int)) = q3 at HF ⊢
    generalize goodB y = q2 at HG ⊢
    cases q1
    · go_enter Try.func86, Try.ntmps86
      go_wp2
      go_quiet (fail)
      go_wp2_with fail
      refine Calls.mono (HP.out _) ?_
      rintro e w1 ⟨rfl, rfl⟩
      go_wp2
      go_ret
      exact ⟨rfl, BD.out _ _⟩
    · cases q2
      · go_enter Try.func86, Try.ntmps86
        go_wp2
        go_quiet (fail)
        go_wp2_with fail
        refine Calls.mono (HP.out _) ?_
        rintro e w1 ⟨rfl, rfl⟩
        go_wp2_with fail
        refine Calls.mono (HG.out _) ?_
        rintro e w1 ⟨rfl, rfl⟩
        go_wp2
        go_ret
        exact ⟨rfl, BD.out _ _⟩
      · go_enter Try.func86, Try.ntmps86
        go_wp2
        go_quiet (fail)
        go_wp2_with fail
        refine Calls.mono (HP.out _) ?_
        rintro e w1 ⟨rfl, rfl⟩
        go_wp2_with fail
        refine Calls.mono (HG.out _) ?_
        rintro e w1 ⟨rfl, rfl⟩
        go_wp2_with fail
        refine Calls.mono (HF.out _) ?_
        rintro e w1 ⟨rfl, rfl⟩
        go_wp2
        go_ret
        exact ⟨by cases q3 <;> rfl, BD.out _ _⟩
set_option maxRecDepth 100000 in
set_option maxHeartbeats 2000000 in
theorem bits_any (L : List Int) (ao : Option Addr) (n cap : Nat) (w : World) (hn : n = L.length) (hl : L.length ≤ 1048576) (hA : IntsAt w ao L) :
    Calls Try.prog 85 #[.slice ao n cap, .int .i64 8] w fun e w' => (∃ x, e = .returned (.tuple #[.int .u64 x, .bool (risB 0 7 L)])) ∧ w' = w := by
  have HA : Hid _ := hA
  clear hA
  subst hn
  go_enter Try.func85, Try.ntmps85
  go_wp2
  go_loopw [6, 7, 12] (fun bv hv i wr => ∃ (k : Nat) (x h : Int), k ≤ L.length ∧ i = .int .i64 k ∧ bv = .int .u64 x ∧ hv = .int .i64 h ∧ h = (if k = 0 then -1 else L.getD (k - 1) 0) ∧ (∀ j, j < k → okR 0 7 L j) ∧ -1 ≤ h ∧ h ≤ 7 ∧ wr = w) (fun _ _ i _ => L.length - (intOf i).toNat)
  case atStart => exact ⟨0, 0, -1, Nat.zero_le _, rfl, rfl, rfl, rfl, fun j hj => absurd hj (by omega), by omega, by omega, rfl⟩
  case round =>
    obtain ⟨k, x, h, hk, rfl, rfl, rfl, hh, hall, hm1, hm7, rfl⟩ := hrel
    have HALL : Hid _ := hall
    have HH : Hid _ := hh
    clear hall hh
    by_cases hlt : k < L.length
    · have hltI : (k : Int) < (L.length : Int) := by omega
      obtain ⟨b1, o1, rfl, l1, g1⟩ := HA.out k hlt
      by_cases q1 : L.getD k 0 ≤ h
      · have HR : Hid (risB 0 7 L = false) := risB_bad hlt fun ⟨⟨h1, _⟩, h3⟩ => by
          have := HH.out
          split at this
          · omega
          · have := h3 (by omega); omega
        generalize L.getD k 0 = y at g1 q1
        go_wp2
        go_ret2
        exact ⟨⟨0, by rw [HR.out] <;> rfl⟩, rfl⟩
      · by_cases q2 : 8 ≤ L.getD k 0
        · have HR : Hid (risB 0 7 L = false) := risB_bad hlt fun ⟨⟨_, h2⟩, _⟩ => by omega
          generalize L.getD k 0 = y at g1 q1 q2
          have q1b : decide (y ≤ h) = false := decide_eq_false q1
          go_wp2
          go_ret2
          exact ⟨⟨0, by rw [HR.out] <;> rfl⟩, rfl⟩
        · have HN : Hid (∀ j, j < k + 1 → okR 0 7 L j) := fun j hj => by
            by_cases ej : j = k
            · subst ej
              have := HH.out
              refine ⟨by omega, fun h0 => ?_⟩
              rw [if_neg (by omega)] at this
              omega
            · exact HALL.out j (by omega)
          have HY : Hid (L.getD (k + 1 - 1) 0 = L.getD k 0) := (by rw [Nat.add_sub_cancel] : L.getD (k + 1 - 1) 0 = L.getD k 0)
          generalize L.getD k 0 = y at g1 q1 q2 HY
          have q1b : decide (y ≤ h) = false := decide_eq_false q1
          have q2b : decide (8 ≤ y) = false := decide_eq_false q2
          have hy0 : 0 ≤ y := by omega
          go_wp2
          go_roundw
          case rel => exact ⟨k + 1, _, y, by omega, by go_num, rfl, rfl, by rw [if_neg (by omega), HY.out], HN.out, by omega, by omega, by first | rfl | trivial⟩
          case measure => simp [intOf]; omega
    · obtain rfl : k = L.length := by omega
      have hltI : ¬ (L.length : Int) < (L.length : Int) := by omega
      have HR : Hid (risB 0 7 L = true) := decide_eq_true HALL.out
      go_wp2
      go_ret2
      exact ⟨⟨x, by rw [HR.out] <;> rfl⟩, rfl⟩
end Go.Proofs.Ytabjjlcjephhkaa
namespace Go.Proofs.Ytabjjlcjephhkaa
open Go.ChangeShapes Go.WideShapes Go.ChangeAt Go.WideMaps Go.WideElems Go.RowKit
/-- The states that the first k states of a machine give. -/
def rdQ (P B F : List Int) (V : Nat → Value) : Nat → List Sq
  | 0 => [⟨-1, -1, 0, 0, .slice none 0 0⟩]
  | k + 1 => if k = 0 then [⟨-1, -1, 0, 0, V 0⟩] else rdQ P B F V k ++ [⟨P.getD k 0, B.getD k 0, (sq (rdQ P B F V k) (P.getD k 0).toNat).l + 1, F.getD k 0, V k⟩]
/-- .. and the edges. -/
def rdE (P B : List Int) : Nat → Ed
  | 0 => noE
  | k + 1 => if k = 0 then noE else upE (rdE P B k) (P.getD k 0) (B.getD k 0) k
theorem rdQ_one (P B F : List Int) (V : Nat → Value) : rdQ P B F V 1 = [⟨-1, -1, 0, 0, V 0⟩] := rfl
theorem rdE_one (P B : List Int) : rdE P B 1 = noE := rfl
theorem rdQ_step (P B F : List Int) (V : Nat → Value) {k : Nat} (h : 0 < k) : rdQ P B F V (k + 1) = rdQ P B F V k ++ [⟨P.getD k 0, B.getD k 0, (sq (rdQ P B F V k) (P.getD k 0).toNat).l + 1, F.getD k 0, V k⟩] := by
  rw [rdQ, if_neg (by omega)]
theorem rdE_step (P B : List Int) {k : Nat} (h : 0 < k) : rdE P B (k + 1) = upE (rdE P B k) (P.getD k 0) (B.getD k 0) k := by
  rw [rdE, if_neg (by omega)]
theorem rdQ_len (P B F : List Int) (V : Nat → Value) : ∀ k, 0 < k → (rdQ P B F V k).length = k
  | k + 1, _ => by
    by_cases h : k = 0
    · subst h; rfl
    · rw [rdQ_step _ _ _ _ (by omega), List.length_append, rdQ_len P B F V k (by omega)]
      rfl
theorem rdE_some (P B : List Int) (f b : Int) (j : Nat) : ∀ k, rdE P B k f b = some j → 1 ≤ j ∧ j < k ∧ P.getD j 0 = f ∧ B.getD j 0 = b
  | 0, h => by cases h
  | k + 1, h => by
    by_cases h0 : k = 0
    · subst h0; cases h
    · rw [rdE_step _ _ (by omega)] at h
      unfold upE at h
      split at h
      · rename_i e
        cases h
        exact ⟨by omega, by omega, e.1.symm, e.2.symm⟩
      · obtain ⟨h1, h2, h3⟩ := rdE_some P B f b j k h
        exact ⟨h1, by omega, h3⟩
theorem rdE_none (P B : List Int) (f b : Int) : ∀ k, rdE P B k f b = none → ∀ j, 1 ≤ j → j < k → ¬ (P.getD j 0 = f ∧ B.getD j 0 = b)
  | 0, _, j, _, h2 => absurd h2 (by omega)
  | k + 1, h, j, h1, h2 => by
    by_cases h0 : k = 0
    · omega
    · rw [rdE_step _ _ (by omega)] at h
      unfold upE at h
      split at h
      · cases h
      · rename_i ne
        by_cases e : j = k
        · subst e
          exact fun ⟨a, b⟩ => ne ⟨a.symm, b.symm⟩
        · exact rdE_none P B f b k h j h1 (by omega)
/-- How long the lists are. -/
theorem rdQ_l (P B F : List Int) (V : Nat → Value) : ∀ k, (∀ j, 0 < j → j < k → 0 ≤ P.getD j 0 ∧ P.getD j 0 ≤ (j : Int) - 1) → ∀ j, j < (rdQ P B F V k).length → 0 ≤ (sq (rdQ P B F V k) j).l ∧ (sq (rdQ P B F V k) j).l ≤ j
  | 0, _, j, hj => by
    obtain rfl : j = 0 := by simp [rdQ] at hj; exact hj
    exact ⟨Int.le_refl _, Int.le_refl _⟩
  | k + 1, hp, j, hj => by
    by_cases h0 : k = 0
    · subst h0
      obtain rfl : j = 0 := by simp [rdQ] at hj; exact hj
      exact ⟨Int.le_refl _, Int.le_refl _⟩
    · have hl := rdQ_len P B F V k (by omega)
      have ih := rdQ_l P B F V k fun j h1 h2 => hp j h1 (by omega)
      rw [rdQ_step _ _ _ _ (by omega)] at hj ⊢
      rw [List.length_append, List.length_singleton, hl] at hj
      by_cases e : j < k
      · rw [sq_old _ _ _ (by omega)]
        exact ih j (by omega)
      · obtain rfl : j = k := by omega
        have hs := sq_new (rdQ P B F V j) ⟨P.getD j 0, B.getD j 0, (sq (rdQ P B F V j) (P.getD j 0).toNat).l + 1, F.getD j 0, V j⟩
        rw [hl] at hs
        rw [hs]
        have h1 := hp j (by omega) (by omega)
        have h2 := ih (P.getD j 0).toNat (by omega)
        dsimp only
        omega
theorem goodB_bd {x : Int} (h : goodB x = true) : 0 ≤ x ∧ x ≤ 1114111 := by
  unfold goodB at h
  have := of_decide_eq_true h
  omega
/-- A good machine's state at k, told by the program's words. -/
theorem stB_ok {P B F : List Int} {k : Nat} (h0 : 0 < k) (h : stB P B F k = true) (hn : noTwin P B k k) : okSt P B F k := by
  unfold stB at h
  rw [if_neg (by omega)] at h
  simp only [Bool.and_eq_true, decide_eq_true_eq] at h
  exact ⟨by omega, h.2.1, by omega, hn⟩
theorem stB_of {P B F : List Int} {k : Nat} (h0 : 0 < k) (h : okSt P B F k) : stB P B F k = true := by
  unfold stB
  rw [if_neg (by omega)]
  obtain ⟨h1, h2, h3, -⟩ := h
  simp only [Bool.and_eq_true, decide_eq_true_eq]
  exact ⟨by omega, h2, by omega⟩
theorem stB_0 {P B F : List Int} : stB P B F 0 = true ↔ P.getD 0 0 = -1 ∧ B.getD 0 0 = -1 ∧ F.getD 0 0 = 0 := by
  unfold stB
  rw [if_pos rfl]
  simp only [Bool.and_eq_true, decide_eq_true_eq]
end Go.Proofs.Ytabjjlcjephhkaa
namespace Go.Proofs.Ytabjjlcjephhkaa
open Go.ChangeShapes Go.WideShapes Go.ChangeAt Go.WideMaps Go.WideElems Go.RowKit
/-- Where the words that end at the states lie. -/
def EndsV (w : World) (V : Nat → Value) (R : Rw) (n : Nat) : Prop := ∀ j, j < n → ∃ x cap, V j = .slice x (rw_ R j).length cap ∧ IntsAt w x (rw_ R j)
set_option maxRecDepth 100000 in
set_option maxHeartbeats 8000000 in
theorem readA_any (P B F : List Int) (R : Rw) (a b c e : Option Addr) (ca cb cc ce : Nat) (w : World) (hl : szA P B F R ≤ 1048576) (hA : IntsAt w a P) (hB : IntsAt w b B) (hC : IntsAt w c F) (hE : RowsAt w e R) :
    Calls Try.prog 66 #[.agg #[.slice a P.length ca, .slice b B.length cb, .slice c F.length cc, .slice e R.length ce]] w fun r w' => ((goodA P B F R = false ∧ r = .returned (.tuple #[.pointer none, .bool false])) ∨ (goodA P B F R = true ∧ ∃ tb V, r = .returned (.tuple #[.pointer (some ⟨tb, 0, none⟩), .bool true]) ∧ TrieAt w' (w.heap.size + 1) tb (rdQ P B F V P.length) (rdE P B P.length) ∧ EndsV w' V R P.length)) ∧ Below w.heap.size w w' := by
  have HA : Hid _ := hA
  have HB : Hid _ := hB
  have HC : Hid _ := hC
  have HE : Hid _ := hE
  have HLR : Hid (szR R ≤ 1048576) := by unfold szA at hl; exact (by omega : szR R ≤ 1048576)
  have hlP : P.length ≤ 1048576 := by unfold szA at hl; omega
  clear hA hB hC hE hl
  have A1 : ∀ o, Below w.heap.size w (w.alloc o) := fun o => (Below.refl _ _).alloc (Nat.le_refl _) o
  by_cases h1 : 1 ≤ P.length
  case neg =>
    have HG : Hid (goodA P B F R = false) := goodA_no fun h => h1 h.1.1
    have q1 : (P.length : Int) < 1 := by omega
    go_enter Try.func66, Try.ntmps66
    go_wp2
    go_ret2
    exact ⟨.inl ⟨HG.out, rfl⟩, A1 _⟩
  have p1 : ¬ (P.length : Int) < 1 := by omega
  have p1b : decide ((P.length : Int) < 1) = false := decide_eq_false p1
  by_cases h2 : P.length ≤ 100
  case neg =>
    have HG : Hid (goodA P B F R = false) := goodA_no fun h => h2 h.1.2
    have q1 : (100 : Int) < (P.length : Int) := by omega
    go_enter Try.func66, Try.ntmps66
    go_wp2
    go_ret2
    exact ⟨.inl ⟨HG.out, rfl⟩, A1 _⟩
  have p2 : ¬ (100 : Int) < (P.length : Int) := by omega
  have p2b : decide ((100 : Int) < (P.length : Int)) = false := decide_eq_false p2
  by_cases h3 : B.length = P.length
  case neg =>
    have HG : Hid (goodA P B F R = false) := goodA_no fun h => h3 h.2.1.1
    have q1 : ((B.length : Int) == (P.length : Int)) = false := by simp; omega
    have q2 : ¬ (B.length : Int) = (P.length : Int) := by omega
    have q3 : decide ((B.length : Int) = (P.length : Int)) = false := decide_eq_false q2
    go_enter Try.func66, Try.ntmps66
    go_wp2
    go_ret2
    exact ⟨.inl ⟨HG.out, rfl⟩, A1 _⟩
  rw [h3]
  have H3 : Hid (B.length = P.length) := h3
  clear h3
  by_cases h4 : F.length = P.length
  case neg =>
    have HG : Hid (goodA P B F R = false) := goodA_no fun h => h4 h.2.1.2.1
    have q1 : ((F.length : Int) == (P.length : Int)) = false := by simp; omega
    have q2 : ¬ (F.length : Int) = (P.length : Int) := by omega
    have q3 : decide ((F.length : Int) = (P.length : Int)) = false := decide_eq_false q2
    go_enter Try.func66, Try.ntmps66
    go_wp2
    go_ret2
    exact ⟨.inl ⟨HG.out, rfl⟩, A1 _⟩
  rw [h4]
  have H4 : Hid (F.length = P.length) := h4
  clear h4
  by_cases h5 : R.length = P.length
  case neg =>
    have HG : Hid (goodA P B F R = false) := goodA_no fun h => h5 h.2.1.2.2
    have q1 : ((R.length : Int) == (P.length : Int)) = false := by simp; omega
    have q2 : ¬ (R.length : Int) = (P.length : Int) := by omega
    have q3 : decide ((R.length : Int) = (P.length : Int)) = false := decide_eq_false q2
    go_enter Try.func66, Try.ntmps66
    go_wp2
    go_ret2
    exact ⟨.inl ⟨HG.out, rfl⟩, A1 _⟩
  rw [h5]
  have H5 : Hid (R.length = P.length) := h5
  clear h5
  obtain ⟨eb, eo, sa0, sc0, rfl, el0, -, -⟩ := HE.out 0 (by rw [H5.out]; omega)
  have HV : Hid (∀ j, j < P.length → ∃ x cap, w.cell? ⟨eb, eo + j, none⟩ = some (.slice x (rw_ R j).length cap) ∧ (w.cell? ⟨eb, eo + j, none⟩).getD (.slice none 0 0) = .slice x (rw_ R j).length cap ∧ IntsAt w x (rw_ R j)) := fun j hj => by
    obtain ⟨eb', eo', sa, sc, e1, -, c1, i1⟩ := HE.out j (by rw [H5.out]; exact hj)
    cases e1
    exact ⟨sa, sc, c1, by rw [c1]; rfl, i1⟩
  obtain ⟨V, hV⟩ : ∃ V : Nat → Value, V = fun j => (w.cell? ⟨eb, eo + j, none⟩).getD (.slice none 0 0) := ⟨_, rfl⟩
  have HV2 : Hid (∀ j, j < P.length → ∃ x cap, w.cell? ⟨eb, eo + j, none⟩ = some (.slice x (rw_ R j).length cap) ∧ V j = .slice x (rw_ R j).length cap ∧ IntsAt w x (rw_ R j)) := fun j hj => by rw [hV]; exact HV.out j hj
  have EL : Hid (eb < w.heap.size) := el0
  clear hV HV el0
  go_enter Try.func66, Try.ntmps66
  go_wp2_with fail
  refine (newTrie_any (-1) _).mono ?_
  rintro r w1 ⟨tb, rfl, t1, b1⟩
  rw [show (w.alloc (.cells #[.slice a P.length ca, .slice b P.length cb, .slice c P.length cc, .slice (some ⟨eb, eo, none⟩) P.length ce] 37)).heap.size = w.heap.size + 1 by simp] at t1
  have hbl1 : w1.heap[w.heap.size]? = some (.cells #[.slice a P.length ca, .slice b P.length cb, .slice c P.length cc, .slice (some ⟨eb, eo, none⟩) P.length ce] 37) := (b1.block w.heap.size (by simp)).trans (heap_last2 _ _ _ rfl)
  have T1 : Hid (TrieAt w1 (w.heap.size + 1) tb (rdQ P B F V 0) (rdE P B 0)) := t1
  have B1 : Hid (Below w.heap.size w w1) := (A1 _).trans (b1.mono (A1 _).size)
  have d3 : w1.cell? ⟨w.heap.size, 3, none⟩ = some (.slice (some ⟨eb, eo, none⟩) P.length ce) := cell_of hbl1 3
  have HBL1 : Hid _ := hbl1
  clear t1 b1 hbl1 A1
  go_wp2
  go_loopw [47] (fun i wr => ∃ k : Nat, k ≤ P.length ∧ i = .int .i64 k ∧ (∀ j, j < k → risB 0 7 (rw_ R j) = true ∧ stB P B F j = true ∧ noTwin P B j j) ∧ TrieAt wr (w.heap.size + 1) tb (rdQ P B F V k) (rdE P B k) ∧ wr.heap[w.heap.size]? = some (.cells #[.slice a P.length ca, .slice b P.length cb, .slice c P.length cc, .slice (some ⟨eb, eo, none⟩) P.length ce] 37) ∧ Below w.heap.size w wr) (fun i _ => P.length - (intOf i).toNat)
  case atStart => exact ⟨0, Nat.zero_le _, rfl, fun j hj => absurd hj (by omega), T1.out, HBL1.out, B1.out⟩
  case round =>
    obtain ⟨k, hk, rfl, hall, ht, hbl, hbw⟩ := hrel
    obtain ⟨w2, hw2⟩ : ∃ w2, w2 = wr := ⟨_, rfl⟩
    subst hw2
    have HALL : Hid _ := hall
    have T2 : Hid _ := ht
    have BW : Hid (Below w.heap.size w w2) := hbw
    have d0 : w2.cell? ⟨w.heap.size, 0, none⟩ = some (.slice a P.length ca) := cell_of hbl 0
    have d1 : w2.cell? ⟨w.heap.size, 1, none⟩ = some (.slice b P.length cb) := cell_of hbl 1
    have d2 : w2.cell? ⟨w.heap.size, 2, none⟩ = some (.slice c P.length cc) := cell_of hbl 2
    have d3' : w2.cell? ⟨w.heap.size, 3, none⟩ = some (.slice (some ⟨eb, eo, none⟩) P.length ce) := cell_of hbl 3
    have HBL : Hid _ := hbl
    clear hall ht hbw hbl d3
    by_cases hlt : k < P.length
    · have hltI : (k : Int) < (P.length : Int) := by omega
      obtain ⟨x, xc, hc, hVk, iX⟩ := HV2.out k hlt
      have hls : (rw_ R k).length ≤ 1048576 := Nat.le_trans (rw_len R k (by rw [H5.out]; exact hlt)) HLR.out
      have g1 : w2.cell? ⟨eb, eo + k, none⟩ = some (.slice x (rw_ R k).length xc) := (BW.out.cell (p := ⟨eb, eo + k, none⟩) EL.out).trans hc
      have HBI : Hid _ := bits_any (rw_ R k) x _ xc w2 rfl hls (IntsAt.keepB iX BW.out)
      have HIX : Hid _ := iX
      have HVK : Hid _ := hVk
      clear hc iX hVk
      cases q0 : risB 0 7 (rw_ R k) with
      | false =>
        rw [q0] at HBI
        have HG : Hid (goodA P B F R = false) := goodA_no fun h => by have := (h.2.2.2 k hlt).1; rw [q0] at this; cases this
        clear q0
        go_wp2_with fail
        refine Calls.mono HBI.out ?_
        rintro r w' ⟨⟨z, rfl⟩, rfl⟩
        go_wp2
        go_ret2
        exact ⟨.inl ⟨HG.out, rfl⟩, BW.out⟩
      | true =>
        rw [q0] at HBI
        have Q0 : Hid (risB 0 7 (rw_ R k) = true) := q0
        have HIS : Hid _ := isState_any P B F a b c (some ⟨eb, eo, none⟩) P.length ca cb cc P.length ce k w2 rfl H3.out.symm H4.out.symm hlt (by omega) (IntsAt.keepB HA.out BW.out) (IntsAt.keepB HB.out BW.out) (IntsAt.keepB HC.out BW.out)
        clear q0
        cases q1 : stB P B F k with
        | false =>
          rw [q1] at HIS
          have HG : Hid (goodA P B F R = false) := goodA_no fun h => by
            by_cases h0 : k = 0
            · subst h0
              rw [stB_0.2 h.2.2.1] at q1
              cases q1
            · rw [stB_of (by omega) ((h.2.2.2 k hlt).2 (by omega))] at q1
              cases q1
          clear q1
          go_wp2_with fail
          refine Calls.mono HBI.out ?_
          rintro r w' ⟨⟨z, rfl⟩, rfl⟩
          go_wp2_with fail
          refine Calls.mono HIS.out ?_
          rintro r w3 ⟨rfl, b3⟩
          have B3 : Hid (Below w.heap.size w w3) := BW.out.trans (b3.mono BW.out.size)
          clear b3
          go_wp2
          go_ret2
          exact ⟨.inl ⟨HG.out, rfl⟩, B3.out⟩
        | true =>
          rw [q1] at HIS
          have Q1 : Hid (stB P B F k = true) := q1
          clear q1
          go_wp2_with fail
          refine Calls.mono HBI.out ?_
          rintro r w' ⟨⟨z, rfl⟩, rfl⟩
          go_wp2_with fail
          refine Calls.mono HIS.out ?_
          rintro r w3 ⟨rfl, b3⟩
          have B3 : Hid (Below w.heap.size w w3) := BW.out.trans (b3.mono BW.out.size)
          have hbl3 : w3.heap[w.heap.size]? = some (.cells #[.slice a P.length ca, .slice b P.length cb, .slice c P.length cc, .slice (some ⟨eb, eo, none⟩) P.length ce] 37) := (b3.block w.heap.size (Array.getElem?_eq_some_iff.1 HBL.out).1).trans HBL.out
          have T3 : Hid (TrieAt w3 (w.heap.size + 1) tb (rdQ P B F V k) (rdE P B k)) := TrieAt.keepB T2.out b3
          clear b3 d0 d1 d2 d3' g1
          by_cases h0 : k = 0
          · have hk0I : ((k : Int) == 0) = true := by simp; omega
            have hk0K : decide ((k : Int) = 0) = true := decide_eq_true (by omega)
            have HK0 : Hid (k = 0) := h0
            obtain ⟨g, cap, m, e1, e2, e3, e4, e5, e6, e7⟩ := T3.out.form' (by rw [h0]; simp [rdQ])
            have lq : (rdQ P B F V k).length = 1 := by rw [h0]; rfl
            have st := TrieAt.setEnd T3.out.lt.1 e7 e3 e6 e4 0 (.slice x (rw_ R k).length xc)
            rw [show (0 * 5 + 4 : Nat) = 4 by rfl] at st
            have c5 := (e5 0 (by omega)).2.2.2.2
            rw [show (0 * 5 + 4 : Nat) = 4 by rfl] at c5
            obtain ⟨cs, hcs⟩ := own_is e6 (B := g) rfl
            have fz : w3.frozen? ⟨g, 4, none⟩ = false := frozen_of_row w3 _ _ _ _ hcs
            have c0 : w3.cell? ⟨tb, 0, none⟩ = some (.slice (some ⟨g, 0, none⟩) (rdQ P B F V k).length cap) := cell_of e3 0
            rw [lq] at c0
            have TN : Hid (TrieAt (w3.setCell ⟨g, 4, none⟩ (.slice x (rw_ R k).length xc)) (w.heap.size + 1) tb (rdQ P B F V (k + 1)) (rdE P B (k + 1))) := by
              have := st.1
              rw [← HVK.out] at this ⊢
              subst h0
              exact this
            have hgs : w.heap.size ≠ g := by omega
            have BN : Hid ((w3.setCell ⟨g, 4, none⟩ (.slice x (rw_ R k).length xc)).heap[w.heap.size]? = some (.cells #[.slice a P.length ca, .slice b P.length cb, .slice c P.length cc, .slice (some ⟨eb, eo, none⟩) P.length ce] 37)) := (blk_oth w3 g 4 w.heap.size _ (fun e => hgs e.symm)).trans hbl3
            have BBN : Hid (Below w.heap.size w (w3.setCell ⟨g, 4, none⟩ (.slice x (rw_ R k).length xc))) := Below.grown B3.out (grown_set w3 _ _ _) B3.out.size (fun i e => by have := Option.some.inj e; omega)
            have HN : Hid (∀ j, j < k + 1 → risB 0 7 (rw_ R j) = true ∧ stB P B F j = true ∧ noTwin P B j j) := fun j hj => by
              obtain rfl : j = k := by omega
              exact ⟨Q0.out, Q1.out, fun i i1 i2 => absurd i2 (by omega)⟩
            clear e3 e4 e5 e6 st lq h0
            go_wp2
            go_roundw
            case rel => exact ⟨k + 1, by omega, by go_num, HN.out, TN.out, BN.out, BBN.out⟩
            case measure => simp [intOf]; omega
          · have hk0I : ((k : Int) == 0) = false := by simp; omega
            have hk0J : ¬ (k : Int) = 0 := by omega
            have hk0K : decide ((k : Int) = 0) = false := decide_eq_false hk0J
            have hkpos : 0 < k := by omega
            have HSB : Hid (okA P B F R → okSt P B F k) := fun h => (h.2.2.2 k hlt).2 hkpos
            have HBD : Hid ((0 ≤ P.getD k 0 ∧ P.getD k 0 < (k : Int)) ∧ goodB (B.getD k 0) = true ∧ 0 ≤ F.getD k 0 ∧ F.getD k 0 < (k : Int)) := by
              have := Q1.out
              unfold stB at this
              rw [if_neg (by omega)] at this
              simp only [Bool.and_eq_true, decide_eq_true_eq] at this
              exact ⟨this.1, this.2.1, this.2.2⟩
            have al3 := al_W w3 (.cells #[.int .i64 0, .int .i64 0] 81)
            have B4 : Hid (Below w.heap.size w (w3.alloc (.cells #[.int .i64 0, .int .i64 0] 81))) := B3.out.trans (al3.mono B3.out.size)
            have hbl4 := (al3.block w.heap.size (Array.getElem?_eq_some_iff.1 hbl3).1).trans hbl3
            obtain ⟨pb, po, rfl, pl, pc⟩ := (IntsAt.keepB HA.out B4.out) k hlt
            obtain ⟨qb, qo, rfl, ql, qc⟩ := (IntsAt.keepB HB.out B4.out) k (by rw [H3.out]; exact hlt)
            obtain ⟨fb, fo, rfl, fl, fc⟩ := (IntsAt.keepB HC.out B4.out) k (by rw [H4.out]; exact hlt)
            have d0 := cell_of hbl4 0
            have d1 := cell_of hbl4 1
            have d2 := cell_of hbl4 2
            simp only [List.getElem?_toArray, List.getElem?_cons_zero, List.getElem?_cons_succ] at d0 d1 d2
            obtain ⟨X, hX⟩ : ∃ X, X = P.getD k 0 := ⟨_, rfl⟩
            obtain ⟨Y, hY⟩ : ∃ Y, Y = B.getD k 0 := ⟨_, rfl⟩
            obtain ⟨Z, hZ⟩ : ∃ Z, Z = F.getD k 0 := ⟨_, rfl⟩
            obtain ⟨_, _, pe, pl', pc'⟩ := (IntsAt.keepB HA.out B3.out) k hlt
            cases pe
            obtain ⟨_, _, qe, ql', qc'⟩ := (IntsAt.keepB HB.out B3.out) k (by rw [H3.out]; exact hlt)
            cases qe
            have d0' := cell_of hbl3 0
            have d1' := cell_of hbl3 1
            simp only [List.getElem?_toArray, List.getElem?_cons_zero, List.getElem?_cons_succ] at d0' d1'
            rw [← hX] at pc pc'
            rw [← hY] at qc qc'
            rw [← hZ] at fc
            have HX : Hid (X = P.getD k 0) := hX
            have HY : Hid (Y = B.getD k 0) := hY
            have HZ : Hid (Z = F.getD k 0) := hZ
            have HB4 : Hid _ := hbl4
            have e0 : (w3.alloc (.cells #[.int .i64 0, .int .i64 0] 81)).cell? ⟨w3.heap.size, 0, none⟩ = some (.int .i64 0) := cell_of (heap_last2 _ _ _ rfl) 0
            have e1 : (w3.alloc (.cells #[.int .i64 0, .int .i64 0] 81)).cell? ⟨w3.heap.size, 1, none⟩ = some (.int .i64 0) := cell_of (heap_last2 _ _ _ rfl) 1
            have z0 : (w3.alloc (.cells #[.int .i64 0, .int .i64 0] 81)).frozen? ⟨w3.heap.size, 0, none⟩ = false := frozen_of_row _ _ _ _ _ (heap_last2 _ _ _ rfl)
            have z1 : (w3.alloc (.cells #[.int .i64 0, .int .i64 0] 81)).frozen? ⟨w3.heap.size, 1, none⟩ = false := frozen_of_row _ _ _ _ _ (heap_last2 _ _ _ rfl)
            have HB3 : Hid _ := hbl3
            clear hX hY hZ hbl3 hbl4 al3
            obtain ⟨f, hf⟩ : ∃ f : Nat, X = (f : Int) := ⟨X.toNat, by have := HBD.out.1.1; have := HX.out; omega⟩
            subst hf
            go_wp2
            go_region
            clear d0 d1 d0' d1' pc pc' qc qc' fc e0 e1 z0 z1 d2
            have b6 : Below w3.heap.size w3 (w3.alloc (.cells #[.int .i64 f, .int .i64 Y] 81)).drew.drew := (al_W w3 _).drew.drew
            have t6 := TrieAt.keepB T3.out b6
            have hx6 : (w3.alloc (.cells #[.int .i64 f, .int .i64 Y] 81)).drew.drew.heap[w3.heap.size]? = some (.cells #[.int .i64 f, .int .i64 Y] 81) := heap_last2 w3 _ _ rfl
            have hbl6 := (b6.block w.heap.size (Array.getElem?_eq_some_iff.1 HB3.out).1).trans HB3.out
            have BW6 : Hid (Below w.heap.size w (w3.alloc (.cells #[.int .i64 f, .int .i64 Y] 81)).drew.drew) := B3.out.trans (b6.mono B3.out.size)
            have lq := rdQ_len P B F V k hkpos
            obtain ⟨g, cap, m, hg1, hg2, hblt, hE, hc⟩ := t6.form (by omega)
            have HYB := goodB_bd (HY.out ▸ HBD.out.2.1)
            have hYw : wf64 Y := WalkArith.wf_i64 (by omega)
            have hfk : f < k := by have := HBD.out.1.2; have := HX.out; omega
            have hfw : wf64 (f : Int) := WalkArith.wf_i64 (by omega)
            have s6 : (w3.alloc (.cells #[.int .i64 f, .int .i64 Y] 81)).drew.drew.cell? ⟨tb, 1, none⟩ = some (.map (some m)) ∧ (w3.alloc (.cells #[.int .i64 f, .int .i64 Y] 81)).drew.drew.cell? ⟨w3.heap.size, 0, none⟩ = some (.int .i64 f) ∧ (w3.alloc (.cells #[.int .i64 f, .int .i64 Y] 81)).drew.drew.cell? ⟨w3.heap.size, 1, none⟩ = some (.int .i64 Y) := ⟨cell_of hblt 1, cell_of hx6 0, cell_of hx6 1⟩
            cases he : rdE P B k f Y with
            | some j =>
              have HG : Hid (goodA P B F R = false) := goodA_no fun h => by
                obtain ⟨j1, j2, j3, j4⟩ := rdE_some P B _ _ _ _ he
                exact (HSB.out h).2.2.2 j j1 j2 ⟨by rw [j3]; exact HX.out, by rw [j4]; exact HY.out⟩
              have hl := hE.yes hfw hYw he
              clear he hE hc hblt hx6 hbl6 t6 b6
              go_wp2
              go_region_held (fun w' => w'.cell? ⟨tb, 1, none⟩ = some (.map (some m)) ∧ w'.cell? ⟨w3.heap.size, 0, none⟩ = some (.int .i64 f) ∧ w'.cell? ⟨w3.heap.size, 1, none⟩ = some (.int .i64 Y)) (first | assumption) (fail)
              go_wp2
              go_ret2
              exact ⟨.inl ⟨HG.out, rfl⟩, BW6.out⟩
            | none =>
              have HTW : Hid (noTwin P B k k) := fun j j1 j2 h => rdE_none P B _ _ _ he j j1 j2 ⟨h.1.trans HX.out.symm, h.2.trans HY.out.symm⟩
              have hl := hE.no hfw hYw he
              have T7 : Hid (TrieAt (w3.alloc (.cells #[.int .i64 f, .int .i64 Y] 81)).drew.drew.drew (w.heap.size + 1) tb (rdQ P B F V k) (rdE P B k)) := TrieAt.keepB T3.out b6.drew
              have hlev := rdQ_l P B F V k (fun j j0 j1 => by
                have := (stB_ok j0 (HALL.out j j1).2.1 (HALL.out j j1).2.2).1
                exact this) f (by omega)
              have HADD : Hid (Calls Try.prog 87 #[.pointer (some ⟨tb, 0, none⟩), .agg #[.int .i64 f, .int .i64 Y], .int .i64 Z, .slice x (rw_ R k).length xc] (w3.alloc (.cells #[.int .i64 f, .int .i64 Y] 81)).drew.drew.drew fun e w' => e = .returned (.int .i64 (rdQ P B F V k).length) ∧ TrieAt w' (w.heap.size + 1) tb (rdQ P B F V k ++ [⟨f, Y, (sq (rdQ P B F V k) f).l + 1, Z, .slice x (rw_ R k).length xc⟩]) (upE (rdE P B k) f Y (rdQ P B F V k).length) ∧ Below (w.heap.size + 1) (w3.alloc (.cells #[.int .i64 f, .int .i64 Y] 81)).drew.drew.drew w' ∧ KeepI (w3.alloc (.cells #[.int .i64 f, .int .i64 Y] 81)).drew.drew.drew w') := add_any (w.heap.size + 1) tb f Y Z x (rw_ R k).length xc (rdQ P B F V k) (rdE P B k) _ T7.out (by omega) (by omega) hYw ⟨hlev.1, by have := hlev.2; omega⟩
              have d2 : (w3.alloc (.cells #[.int .i64 f, .int .i64 Y] 81)).drew.drew.drew.cell? ⟨w.heap.size, 2, none⟩ = some (.slice (some ⟨fb, fo, none⟩) P.length cc) := cell_of hbl6 2
              have HB6 : Hid _ := hbl6
              obtain ⟨_, _, fe, fl', fc⟩ := (IntsAt.keepB HC.out BW6.out.drew) k (by rw [H4.out]; exact hlt)
              cases fe
              rw [← HZ.out] at fc
              have BW7 : Hid _ := BW6.out.drew
              clear he hE hc hblt hx6 hbl6 t6 b6 hlev
              go_wp2
              go_region_held (fun w' => w'.cell? ⟨tb, 1, none⟩ = some (.map (some m)) ∧ w'.cell? ⟨w3.heap.size, 0, none⟩ = some (.int .i64 f) ∧ w'.cell? ⟨w3.heap.size, 1, none⟩ = some (.int .i64 Y)) (first | assumption) (fail)
              go_wp2
              have x0 := s6.2.1
              have x1 := s6.2.2
              go_region_law (first
                | (go_simp
                   go_at_call 87
                   (with_reducible refine Calls.mono HADD.out ?_)
                   rintro e w8 ⟨rfl, t8, b8, -⟩
                   have T8 : Hid (TrieAt w8 (w.heap.size + 1) tb (rdQ P B F V k ++ [⟨f, Y, (sq (rdQ P B F V k) f).l + 1, Z, .slice x (rw_ R k).length xc⟩]) (upE (rdE P B k) f Y (rdQ P B F V k).length)) := t8
                   have B8 : Hid (Below (w.heap.size + 1) (w3.alloc (.cells #[.int .i64 f, .int .i64 Y] 81)).drew.drew.drew w8) := b8
                   clear t8 b8
                   dsimp only))
              all_goals
                have TN : Hid (TrieAt w8 (w.heap.size + 1) tb (rdQ P B F V (k + 1)) (rdE P B (k + 1))) := by
                  have := T8.out
                  rw [lq] at this
                  rw [rdQ_step _ _ _ _ hkpos, rdE_step _ _ hkpos, ← HX.out, ← HY.out, ← HZ.out, HVK.out]
                  exact this
                have BN : Hid (w8.heap[w.heap.size]? = some (.cells #[.slice (some ⟨pb, po, none⟩) P.length ca, .slice (some ⟨qb, qo, none⟩) P.length cb, .slice (some ⟨fb, fo, none⟩) P.length cc, .slice (some ⟨eb, eo, none⟩) P.length ce] 37)) := (B8.out.block w.heap.size (by omega)).trans HB6.out
                have BBN : Hid (Below w.heap.size w w8) := BW7.out.trans (B8.out.mono (by omega))
                have HN : Hid (∀ j, j < k + 1 → risB 0 7 (rw_ R j) = true ∧ stB P B F j = true ∧ noTwin P B j j) := fun j hj => by
                  by_cases ej : j = k
                  · subst ej
                    exact ⟨Q0.out, Q1.out, HTW.out⟩
                  · exact HALL.out j (by omega)
                go_wp2
                go_roundw
                case rel => exact ⟨k + 1, by omega, by go_num, HN.out, TN.out, BN.out, BBN.out⟩
                case measure => simp [intOf]; omega
    · obtain rfl : k = P.length := by omega
      have hltI : ¬ (P.length : Int) < (P.length : Int) := by omega
      have HG : Hid (goodA P B F R = true) := goodA_yes ⟨⟨h1, h2⟩, ⟨H3.out, H4.out, H5.out⟩, stB_0.1 (HALL.out 0 (by omega)).2.1, fun j hj => ⟨(HALL.out j hj).1, fun j0 => stB_ok j0 (HALL.out j hj).2.1 (HALL.out j hj).2.2⟩⟩
      have END : Hid (EndsV w2 V R P.length) := fun j hj => by
        obtain ⟨x, cap, -, hv, ix⟩ := HV2.out j hj
        exact ⟨x, cap, hv, IntsAt.keepB ix BW.out⟩
      go_wp2
      go_ret2
      exact ⟨.inr ⟨HG.out, tb, by first | exact ⟨V, rfl, T2.out, END.out⟩ | exact ⟨rfl, V, T2.out, END.out⟩⟩, BW.out⟩
end Go.Proofs.Ytabjjlcjephhkaa
namespace Go.Proofs.Ytabjjlcjephhkaa
open Go.ChangeShapes Go.WideShapes Go.ChangeAt Go.WideMaps Go.WideElems Go.RowKit
set_option maxRecDepth 100000 in
theorem igoodA_any (P B F : List Int) (R : Rw) (a b c e : Option Addr) (ca cb cc ce : Nat) (w : World) (hl : szA P B F R ≤ 1048576) (hA : IntsAt w a P) (hB : IntsAt w b B) (hC : IntsAt w c F) (hE : RowsAt w e R) :
    Calls Try.prog 28 #[.agg #[.slice a P.length ca, .slice b B.length cb, .slice c F.length cc, .slice e R.length ce]] w fun r w' => r = .returned (.bool (goodA P B F R)) ∧ Below w.heap.size w w' := by
  have HR : Hid (∀ o, Calls Try.prog 66 #[.agg #[.slice a P.length ca, .slice b B.length cb, .slice c F.length cc, .slice e R.length ce]] (w.alloc o) fun r w' => ((goodA P B F R = false ∧ r = .returned (.tuple #[.pointer none, .bool false])) ∨ (goodA P B F R = true ∧ ∃ tb, r = .returned (.tuple #[.pointer (some ⟨tb, 0, none⟩), .bool true]))) ∧ Below w.heap.size w w') := fun o => (readA_any P B F R a b c e ca cb cc ce (w.alloc o) hl (IntsAt.keepB hA (al_W w o)) (IntsAt.keepB hB (al_W w o)) (IntsAt.keepB hC (al_W w o)) (RowsAt.keepB hE (al_W w o))).mono fun r w' ⟨h, bb⟩ => ⟨by
    rcases h with h | ⟨h1, tb, V, h2, -⟩
    · exact .inl h
    · exact .inr ⟨h1, tb, h2⟩, (al_W w o).trans (bb.mono (al_W w o).size)⟩
  clear hA hB hC hE hl
  go_enter Try.func28, Try.ntmps28
  go_wp2_with fail
  refine Calls.mono (HR.out _) ?_
  rintro r w1 ⟨h, b1⟩
  have B1 : Hid (Below w.heap.size w w1) := b1
  clear b1
  rcases h with ⟨hg, rfl⟩ | ⟨hg, tb, rfl⟩
  all_goals
    have HG : Hid _ := hg
    clear hg
    go_wp2
    go_ret
    exact ⟨by rw [HG.out] <;> rfl, B1.out⟩
end Go.Proofs.Ytabjjlcjephhkaa
namespace Go.Proofs.Ytabjjlcjephhkaa
open Go.ChangeShapes Go.WideShapes Go.ChangeAt Go.WideMaps Go.WideElems Go.RowKit
theorem rdQ_at (P B F : List Int) (V : Nat → Value) (j : Nat) (hj : 0 < j) : ∀ k, j < k → sq (rdQ P B F V k) j = ⟨P.getD j 0, B.getD j 0, (sq (rdQ P B F V j) (P.getD j 0).toNat).l + 1, F.getD j 0, V j⟩
  | 0, h => absurd h (by omega)
  | k + 1, h => by
    have hl := rdQ_len P B F V k (by omega)
    rw [rdQ_step _ _ _ _ (by omega)]
    by_cases e : j < k
    · rw [sq_old _ _ _ (by omega)]
      exact rdQ_at P B F V j hj k e
    · obtain rfl : j = k := by omega
      have hs := sq_new (rdQ P B F V j) ⟨P.getD j 0, B.getD j 0, (sq (rdQ P B F V j) (P.getD j 0).toNat).l + 1, F.getD j 0, V j⟩
      rwa [hl] at hs
theorem okA_fail {P B F : List Int} {R : Rw} (h : okA P B F R) (V : Nat → Value) : FailOk (rdQ P B F V P.length) := fun j j0 jl => by
  rw [rdQ_len _ _ _ _ _ (by have := h.1.1; omega)] at jl
  rw [rdQ_at P B F V j j0 _ jl]
  have := ((h.2.2.2 j jl).2 j0).2.2.1
  dsimp only
  omega
theorem okA_edge {P B F : List Int} {R : Rw} (h : okA P B F R) {f b : Int} (hf : 0 ≤ f) {j : Nat} (hj : j < P.length) (h1 : P.getD j 0 = f) (h2 : B.getD j 0 = b) : rdE P B P.length f b = some j := by
  have j0 : 0 < j := by
    rcases Nat.eq_zero_or_pos j with e | e
    · subst e
      have := h.2.2.1.1
      omega
    · exact e
  cases he : rdE P B P.length f b with
  | none => exact absurd ⟨h1, h2⟩ (rdE_none P B f b _ he j j0 hj)
  | some i =>
    obtain ⟨i1, i2, i3, i4⟩ := rdE_some P B f b i _ he
    rcases Nat.lt_trichotomy i j with e | e | e
    · exact absurd ⟨i3.trans h1.symm, i4.trans h2.symm⟩ (((h.2.2.2 j hj).2 j0).2.2.2 i i1 e)
    · rw [e]
    · exact absurd ⟨h1.trans i3.symm, h2.trans i4.symm⟩ (((h.2.2.2 i i2).2 (by omega)).2.2.2 j j0 e)
theorem okA_none {P B F : List Int} {R : Rw} (_h : okA P B F R) {f b : Int} (hn : ∀ j, j < P.length → ¬ (P.getD j 0 = f ∧ B.getD j 0 = b)) : rdE P B P.length f b = none := by
  cases he : rdE P B P.length f b with
  | none => rfl
  | some i =>
    obtain ⟨i1, i2, i3, i4⟩ := rdE_some P B f b i _ he
    exact absurd ⟨i3, i4⟩ (hn i i2)
def noEdge (P B : List Int) (s : Nat) (r : Int) (k : Nat) : Prop := ∀ j, j < k → ¬ (P.getD j 0 = (s : Int) ∧ B.getD j 0 = r)
set_option maxRecDepth 100000 in
set_option maxHeartbeats 4000000 in
theorem sstep_any (P B F : List Int) (R : Rw) (hok : okA P B F R) (V : Nat → Value) (r : Int) : ∀ (d s : Nat), s < d → s < P.length → ∀ (a b c e : Option Addr) (ca cb cc ne ce : Nat) (w : World), IntsAt w a P → IntsAt w b B → IntsAt w c F →
    Calls Try.prog 68 #[.agg #[.slice a P.length ca, .slice b P.length cb, .slice c P.length cc, .slice e ne ce], .int .i64 s, .int .i64 r] w fun x w' => x = .returned (.int .i64 (stepN (rdQ P B F V P.length) (rdE P B P.length) s r)) ∧ Below w.heap.size w w'
  | 0, _, h, _ => fun _ _ _ _ _ _ _ _ _ _ _ _ _ => absurd h (by omega)
  | d + 1, s, hd, hs => fun a b c e ca cb cc ne ce w hA hB hC => by
    have HIH : Hid (∀ s', s' < d → s' < P.length → ∀ (a b c e : Option Addr) (ca cb cc ne ce : Nat) (w : World), IntsAt w a P → IntsAt w b B → IntsAt w c F → Calls Try.prog 68 #[.agg #[.slice a P.length ca, .slice b P.length cb, .slice c P.length cc, .slice e ne ce], .int .i64 s', .int .i64 r] w fun x w' => x = .returned (.int .i64 (stepN (rdQ P B F V P.length) (rdE P B P.length) s' r)) ∧ Below w.heap.size w w') := fun s' h1 h2 => sstep_any P B F R hok V r d s' h1 h2
    have HOK : Hid _ := hok
    have A1 := al_W w (.cells #[.slice a P.length ca, .slice b P.length cb, .slice c P.length cc, .slice e ne ce] 37)
    have h0 : 0 < P.length := by omega
    obtain ⟨pb, po, rfl, -, -⟩ := hA 0 h0
    obtain ⟨qb, qo, rfl, -, -⟩ := hB 0 (by rw [hok.2.1.1]; exact h0)
    obtain ⟨fb, fo, rfl, -, -⟩ := hC 0 (by rw [hok.2.1.2.1]; exact h0)
    have HA : Hid _ := IntsAt.keepB hA A1
    have HB : Hid _ := IntsAt.keepB hB A1
    have HC : Hid _ := IntsAt.keepB hC A1
    have hbl : (w.alloc (.cells #[.slice (some ⟨pb, po, none⟩) P.length ca, .slice (some ⟨qb, qo, none⟩) P.length cb, .slice (some ⟨fb, fo, none⟩) P.length cc, .slice e ne ce] 37)).heap[w.heap.size]? = some (.cells #[.slice (some ⟨pb, po, none⟩) P.length ca, .slice (some ⟨qb, qo, none⟩) P.length cb, .slice (some ⟨fb, fo, none⟩) P.length cc, .slice e ne ce] 37) := heap_last2 _ _ _ rfl
    have HBL : Hid _ := hbl
    have HA1 : Hid _ := A1
    have H2 : Hid (B.length = P.length ∧ F.length = P.length) := ⟨hok.2.1.1, hok.2.1.2.1⟩
    have hn : P.length ≤ 100 := hok.1.2
    clear hA hB hC hbl A1 hok
    go_enter Try.func68, Try.ntmps68
    go_wp2
    go_loopw [11] (fun i wr => ∃ k : Nat, k ≤ P.length ∧ i = .int .i64 k ∧ noEdge P B s r k ∧ wr = w.alloc (.cells #[.slice (some ⟨pb, po, none⟩) P.length ca, .slice (some ⟨qb, qo, none⟩) P.length cb, .slice (some ⟨fb, fo, none⟩) P.length cc, .slice e ne ce] 37)) (fun i _ => P.length - (intOf i).toNat)
    case atStart => exact ⟨0, Nat.zero_le _, rfl, fun j hj => absurd hj (by omega), rfl⟩
    case round =>
      obtain ⟨k, hk, rfl, hno, rfl⟩ := hrel
      have HNO : Hid _ := hno
      clear hno
      have d0 := cell_of HBL.out 0
      have d1 := cell_of HBL.out 1
      have d2 := cell_of HBL.out 2
      have d3 := cell_of HBL.out 3
      simp only [List.getElem?_toArray, List.getElem?_cons_zero, List.getElem?_cons_succ] at d0 d1 d2 d3
      by_cases hlt : k < P.length
      · have hltI : (k : Int) < (P.length : Int) := by omega
        obtain ⟨_, _, pe, -, pc⟩ := HA.out k hlt
        cases pe
        obtain ⟨_, _, qe, -, qc⟩ := HB.out k (by rw [H2.out.1]; exact hlt)
        cases qe
        by_cases e1 : P.getD k 0 = (s : Int)
        · by_cases e2 : B.getD k 0 = r
          · have HST : Hid (stepN (rdQ P B F V P.length) (rdE P B P.length) s r = k) := stepN_yes (okA_edge HOK.out (by omega) hlt e1 e2)
            rw [e1] at pc
            rw [e2] at qc
            clear e1 e2
            go_wp2
            go_ret
            exact ⟨by rw [HST.out] <;> rfl, HA1.out⟩
          · have HN : Hid (noEdge P B s r (k + 1)) := fun j hj h => by
              by_cases ej : j = k
              · exact e2 (ej ▸ h.2)
              · exact HNO.out j (by omega) h
            rw [e1] at pc
            generalize B.getD k 0 = y at qc e2
            have e2b : decide (y = r) = false := decide_eq_false e2
            have e2c : (y == r) = false := by simpa using e2
            clear e1
            go_wp2
            go_roundw
            case rel => exact ⟨k + 1, by omega, by go_num, HN.out, by first | rfl | trivial⟩
            case measure => simp [intOf]; omega
        · have HN : Hid (noEdge P B s r (k + 1)) := fun j hj h => by
            by_cases ej : j = k
            · exact e1 (ej ▸ h.1)
            · exact HNO.out j (by omega) h
          generalize P.getD k 0 = x at pc e1
          have e1b : decide (x = (s : Int)) = false := decide_eq_false e1
          have e1c : (x == (s : Int)) = false := by simpa using e1
          clear qc
          go_wp2
          go_roundw
          case rel => exact ⟨k + 1, by omega, by go_num, HN.out, by first | rfl | trivial⟩
          case measure => simp [intOf]; omega
      · obtain rfl : k = P.length := by omega
        have hltI : ¬ (P.length : Int) < (P.length : Int) := by omega
        have he := okA_none HOK.out HNO.out
        by_cases hs0 : s = 0
        · have hs0I : ((s : Int) == 0) = true := by simp; omega
          have hs0K : decide ((s : Int) = 0) = true := decide_eq_true (by omega)
          have HST : Hid (stepN (rdQ P B F V P.length) (rdE P B P.length) s r = 0) := by
            subst hs0
            exact stepN_zero he
          clear he hs0
          go_wp2
          go_ret
          exact ⟨by rw [HST.out] <;> rfl, HA1.out⟩
        · have hs0I : ((s : Int) == 0) = false := by simp; omega
          have hs0J : ¬ (s : Int) = 0 := by omega
          have hs0K : decide ((s : Int) = 0) = false := decide_eq_false hs0J
          have hlq := rdQ_len P B F V P.length (by omega)
          obtain ⟨f1, f2⟩ := (okA_fail HOK.out V).lt (s := s) (by omega) (by omega)
          have HST : Hid (stepN (rdQ P B F V P.length) (rdE P B P.length) s r = stepN (rdQ P B F V P.length) (rdE P B P.length) (failN (rdQ P B F V P.length) s) r) := stepN_back (okA_fail HOK.out V) (by omega) (by omega) he
          rw [rdQ_at P B F V s (by omega) _ hs] at f2
          dsimp only at f2
          generalize failN (rdQ P B F V P.length) s = fs at f1 f2 HST
          have hsI : (s : Int) < (P.length : Int) := by omega
          obtain ⟨_, _, fe, -, fc⟩ := HC.out s (by rw [H2.out.2]; exact hs)
          cases fe
          rw [← f2] at fc
          have HREC : Hid _ := fun (w' : World) (hw : w' = (w.alloc (.cells #[.slice (some ⟨pb, po, none⟩) P.length ca, .slice (some ⟨qb, qo, none⟩) P.length cb, .slice (some ⟨fb, fo, none⟩) P.length cc, .slice e ne ce] 37)).drew) => HIH.out fs (by omega) (by omega) (some ⟨pb, po, none⟩) (some ⟨qb, qo, none⟩) (some ⟨fb, fo, none⟩) e ca cb cc ne ce w' (hw ▸ IntsAt.keepB HA.out (Below.refl _ _).drew) (hw ▸ IntsAt.keepB HB.out (Below.refl _ _).drew) (hw ▸ IntsAt.keepB HC.out (Below.refl _ _).drew)
          have HR2 : Hid (Calls Try.prog 68 #[.agg #[.slice (some ⟨pb, po, none⟩) P.length ca, .slice (some ⟨qb, qo, none⟩) P.length cb, .slice (some ⟨fb, fo, none⟩) P.length cc, .slice e ne ce], .int .i64 fs, .int .i64 r] (w.alloc (.cells #[.slice (some ⟨pb, po, none⟩) P.length ca, .slice (some ⟨qb, qo, none⟩) P.length cb, .slice (some ⟨fb, fo, none⟩) P.length cc, .slice e ne ce] 37)).drew fun x w' => x = .returned (.int .i64 (stepN (rdQ P B F V P.length) (rdE P B P.length) fs r)) ∧ Below w.heap.size w w') := (HREC.out _ rfl).mono fun x w' ⟨h1, h2⟩ => ⟨h1, HA1.out.drew.trans (h2.mono HA1.out.drew.size)⟩
          clear he hs0 HREC f1 f2 hlq
          go_wp2
          go_region_law (first
            | (go_simp
               go_at_call 68
               (with_reducible refine Calls.mono HR2.out ?_)
               rintro x w3 ⟨rfl, b3⟩
               have B3 : Hid (Below w.heap.size w w3) := b3
               clear b3
               dsimp only))
          all_goals
            go_wp2
            go_ret
            exact ⟨by rw [HST.out] <;> rfl, B3.out⟩
end Go.Proofs.Ytabjjlcjephhkaa
namespace Go.Proofs.Ytabjjlcjephhkaa
open Go.ChangeShapes Go.WideShapes Go.ChangeAt Go.WideMaps Go.WideElems Go.RowKit
theorem sq_none {Q : List Sq} {j : Nat} (h : Q.length ≤ j) : sq Q j = ⟨0, 0, 0, 0, .slice none 0 0⟩ := by
  unfold sq
  simp [List.getD, List.getElem?_eq_none h]
theorem rdQ_key (P B F : List Int) (V V' : Nat → Value) : ∀ n, 0 < n → ∀ j, j < n → (sq (rdQ P B F V' n) j).f = (sq (rdQ P B F V n) j).f ∧ (sq (rdQ P B F V' n) j).b = (sq (rdQ P B F V n) j).b ∧ (sq (rdQ P B F V' n) j).l = (sq (rdQ P B F V n) j).l ∧ (sq (rdQ P B F V' n) j).q = (sq (rdQ P B F V n) j).q
  | n + 1, _, j, hj => by
    by_cases n0 : n = 0
    · subst n0
      obtain rfl : j = 0 := by omega
      exact ⟨rfl, rfl, rfl, rfl⟩
    · have h0 : 0 < n := by omega
      have ih := rdQ_key P B F V V' n h0
      have l1 := rdQ_len P B F V n h0
      have l2 := rdQ_len P B F V' n h0
      rw [rdQ_step _ _ _ _ h0, rdQ_step _ _ _ _ h0]
      by_cases e : j < n
      · rw [sq_old _ _ _ (by omega), sq_old _ _ _ (by omega)]
        exact ih j e
      · obtain rfl : j = n := by omega
        have s1 := sq_new (rdQ P B F V j) ⟨P.getD j 0, B.getD j 0, (sq (rdQ P B F V j) (P.getD j 0).toNat).l + 1, F.getD j 0, V j⟩
        have s2 := sq_new (rdQ P B F V' j) ⟨P.getD j 0, B.getD j 0, (sq (rdQ P B F V' j) (P.getD j 0).toNat).l + 1, F.getD j 0, V' j⟩
        rw [l1] at s1
        rw [l2] at s2
        rw [s1, s2]
        refine ⟨rfl, rfl, ?_, rfl⟩
        dsimp only
        by_cases e2 : (P.getD j 0).toNat < j
        · rw [(ih _ e2).2.2.1]
        · have d1 : sq (rdQ P B F V j) (P.getD j 0).toNat = ⟨0, 0, 0, 0, .slice none 0 0⟩ := sq_none (show (rdQ P B F V j).length ≤ (P.getD j 0).toNat by omega)
          have d2 : sq (rdQ P B F V' j) (P.getD j 0).toNat = ⟨0, 0, 0, 0, .slice none 0 0⟩ := sq_none (show (rdQ P B F V' j).length ≤ (P.getD j 0).toNat by omega)
          rw [d1, d2]
theorem rdQ_same (P B F : List Int) (V V' : Nat → Value) (n : Nat) (hn : 0 < n) : SameQ (rdQ P B F V n) (rdQ P B F V' n) := by
  have key := rdQ_key P B F V V' n hn
  have l1 := rdQ_len P B F V n hn
  have l2 := rdQ_len P B F V' n hn
  refine ⟨by rw [l1, l2], fun j => ?_⟩
  by_cases e : j < n
  · exact key j e
  · have d1 : sq (rdQ P B F V n) j = ⟨0, 0, 0, 0, .slice none 0 0⟩ := sq_none (show (rdQ P B F V n).length ≤ j by omega)
    have d2 : sq (rdQ P B F V' n) j = ⟨0, 0, 0, 0, .slice none 0 0⟩ := sq_none (show (rdQ P B F V' n).length ≤ j by omega)
    rw [d1, d2]
    exact ⟨rfl, rfl, rfl, rfl⟩
def nV : Nat → Value := fun _ => .slice none 0 0
noncomputable def stK (P B F : List Int) (R : Rw) (s r : Int) : Bool := goodA P B F R && (decide (0 ≤ s ∧ s < P.length) && goodB r)
noncomputable def stR (P B F : List Int) (R : Rw) (s r : Int) : Int := if stK P B F R s r = true then (stepN (rdQ P B F nV P.length) (rdE P B P.length) s.toNat r : Nat) else 0
theorem st_no {P B F : List Int} {R : Rw} {s r : Int} (h : stK P B F R s r = false) : stK P B F R s r = false ∧ stR P B F R s r = 0 := ⟨h, by unfold stR; rw [h]; rfl⟩
theorem st_yes {P B F : List Int} {R : Rw} {s : Nat} {r : Int} (h : stK P B F R s r = true) : stK P B F R s r = true ∧ stR P B F R s r = (stepN (rdQ P B F nV P.length) (rdE P B P.length) s r : Nat) := ⟨h, by unfold stR; rw [if_pos h]; simp⟩
set_option maxRecDepth 100000 in
set_option maxHeartbeats 4000000 in
theorem sstepA_any (P B F : List Int) (R : Rw) (s r : Int) (a b c e : Option Addr) (ca cb cc ce : Nat) (w : World) (hl : szA P B F R ≤ 1048576) (hA : IntsAt w a P) (hB : IntsAt w b B) (hC : IntsAt w c F) (hE : RowsAt w e R) :
    Calls Try.prog 32 #[.agg #[.slice a P.length ca, .slice b B.length cb, .slice c F.length cc, .slice e R.length ce], .int .i64 s, .int .i64 r] w fun x w' => x = .returned (.tuple #[.int .i64 (stR P B F R s r), .bool (stK P B F R s r)]) ∧ Below w.heap.size w w' := by
  have HS : Hid (∀ o, Calls Try.prog 34 #[.agg #[.slice a P.length ca, .slice b B.length cb, .slice c F.length cc, .slice e R.length ce]] (w.alloc o) fun r w' => r = .returned (.bool (goodA P B F R)) ∧ Below (w.alloc o).heap.size (w.alloc o) w') := fun o => sgoodA_any P B F R a b c e ca cb cc ce (w.alloc o) hl (IntsAt.keepB hA (al_W w o)) (IntsAt.keepB hB (al_W w o)) (IntsAt.keepB hC (al_W w o)) (RowsAt.keepB hE (al_W w o))
  have HA : Hid _ := hA
  have HB : Hid _ := hB
  have HC : Hid _ := hC
  have hlP : P.length ≤ 1048576 := by unfold szA at hl; omega
  clear hA hB hC hE hl
  cases hg : goodA P B F R with
  | false =>
    have HK : Hid (stK P B F R s r = false ∧ stR P B F R s r = 0) := st_no (by unfold stK; rw [hg]; rfl)
    rw [hg] at HS
    clear hg
    go_enter Try.func32, Try.ntmps32
    go_wp2_with fail
    refine Calls.mono (HS.out _) ?_
    rintro x w1 ⟨rfl, b1⟩
    have B1 : Hid (Below w.heap.size w w1) := (al_W w _).trans (b1.mono (al_W w _).size)
    clear b1
    go_wp2
    go_ret2
    exact ⟨by rw [HK.out.1, HK.out.2] <;> rfl, B1.out⟩
  | true =>
    have hok := goodA_true hg
    rw [hg] at HS
    rw [hok.2.1.1, hok.2.1.2.1] at HS ⊢
    have HOK : Hid _ := hok
    by_cases hin : 0 ≤ s ∧ s < (P.length : Int)
    · obtain ⟨sn, rfl⟩ : ∃ sn : Nat, s = (sn : Int) := ⟨s.toNat, by omega⟩
      have HIN : Hid (∀ w, Calls Try.prog 74 #[.int .i64 sn, .int .i64 0, .int .i64 ((P.length : Int) - 1)] w fun e w' => e = .returned (.bool true) ∧ w = w') := fun w => in_yes (by omega) w
      have hw1 : IntKind.i64.wrap ((P.length : Int) - 1) = (P.length : Int) - 1 := IntWalk.i64_in _ (by omega)
      have HGR : Hid (∀ w, Calls Try.prog 75 #[.int .i64 r] w fun e w' => e = .returned (.bool (goodB r)) ∧ w' = w) := fun w => good_any r w
      cases hr : goodB r with
      | false =>
        have HK : Hid (stK P B F R sn r = false ∧ stR P B F R sn r = 0) := st_no (by unfold stK; rw [hr]; simp)
        rw [hr] at HGR
        clear hg hr hok
        go_enter Try.func32, Try.ntmps32
        go_wp2_with fail
        refine Calls.mono (HS.out _) ?_
        rintro x w1 ⟨rfl, b1⟩
        have hbl1 := (b1.block w.heap.size (by simp)).trans (heap_last2 w _ _ rfl)
        have d0 := cell_of hbl1 0
        simp only [List.getElem?_toArray, List.getElem?_cons_zero] at d0
        have B1 : Hid (Below w.heap.size w w1) := (al_W w _).trans (b1.mono (al_W w _).size)
        clear b1 hbl1
        go_wp2_with fail
        refine Calls.mono (HIN.out _) ?_
        rintro x w' ⟨rfl, rfl⟩
        go_wp2_with fail
        refine Calls.mono (HGR.out _) ?_
        rintro x w' ⟨rfl, rfl⟩
        go_wp2
        go_ret2
        exact ⟨by rw [HK.out.1, HK.out.2] <;> rfl, B1.out⟩
      | true =>
        have HK : Hid (stK P B F R sn r = true ∧ stR P B F R sn r = (stepN (rdQ P B F nV P.length) (rdE P B P.length) sn r : Nat)) := st_yes (by unfold stK; rw [hg, hr, decide_eq_true hin]; rfl)
        rw [hr] at HGR
        have HSN : Hid (sn < P.length) := by exact (by omega : sn < P.length)
        clear hg hr hok
        go_enter Try.func32, Try.ntmps32
        go_wp2_with fail
        refine Calls.mono (HS.out _) ?_
        rintro x w1 ⟨rfl, b1⟩
        have hbl1 := (b1.block w.heap.size (by simp)).trans (heap_last2 w _ _ rfl)
        have d0 := cell_of hbl1 0
        have d1 := cell_of hbl1 1
        have d2 := cell_of hbl1 2
        have d3 := cell_of hbl1 3
        simp only [List.getElem?_toArray, List.getElem?_cons_zero, List.getElem?_cons_succ] at d0 d1 d2 d3
        have B1 : Hid (Below w.heap.size w w1) := (al_W w _).trans (b1.mono (al_W w _).size)
        clear b1 hbl1
        go_wp2_with fail
        refine Calls.mono (HIN.out _) ?_
        rintro x w' ⟨rfl, rfl⟩
        go_wp2_with fail
        refine Calls.mono (HGR.out _) ?_
        rintro x w' ⟨rfl, rfl⟩
        go_wp2_with fail
        refine Calls.mono (sstep_any P B F R HOK.out nV r (sn + 1) sn (by omega) HSN.out _ _ _ _ _ _ _ _ _ _ (IntsAt.keepB HA.out B1.out) (IntsAt.keepB HB.out B1.out) (IntsAt.keepB HC.out B1.out)) ?_
        rintro x w2 ⟨rfl, b2⟩
        have B2 : Hid (Below w.heap.size w w2) := B1.out.trans (b2.mono B1.out.size)
        clear b2
        go_wp2
        go_ret2
        exact ⟨by rw [HK.out.1, HK.out.2] <;> rfl, B2.out⟩
    · have HK : Hid (stK P B F R s r = false ∧ stR P B F R s r = 0) := st_no (by unfold stK; rw [decide_eq_false hin]; simp)
      have HIN : Hid (∀ w, Calls Try.prog 74 #[.int .i64 s, .int .i64 0, .int .i64 ((P.length : Int) - 1)] w fun e w' => e = .returned (.bool false) ∧ w = w') := fun w => in_no (by omega) w
      have hw1 : IntKind.i64.wrap ((P.length : Int) - 1) = (P.length : Int) - 1 := IntWalk.i64_in _ (by omega)
      clear hg hok hin
      go_enter Try.func32, Try.ntmps32
      go_wp2_with fail
      refine Calls.mono (HS.out _) ?_
      rintro x w1 ⟨rfl, b1⟩
      have hbl1 := (b1.block w.heap.size (by simp)).trans (heap_last2 w _ _ rfl)
      have d0 := cell_of hbl1 0
      simp only [List.getElem?_toArray, List.getElem?_cons_zero] at d0
      have B1 : Hid (Below w.heap.size w w1) := (al_W w _).trans (b1.mono (al_W w _).size)
      clear b1 hbl1
      go_wp2_with fail
      refine Calls.mono (HIN.out _) ?_
      rintro x w' ⟨rfl, rfl⟩
      go_wp2
      go_ret2
      exact ⟨by rw [HK.out.1, HK.out.2] <;> rfl, B1.out⟩
set_option maxRecDepth 100000 in
set_option maxHeartbeats 4000000 in
theorem istepA_any (P B F : List Int) (R : Rw) (s r : Int) (a b c e : Option Addr) (ca cb cc ce : Nat) (w : World) (hl : szA P B F R ≤ 1048576) (hA : IntsAt w a P) (hB : IntsAt w b B) (hC : IntsAt w c F) (hE : RowsAt w e R) :
    Calls Try.prog 31 #[.agg #[.slice a P.length ca, .slice b B.length cb, .slice c F.length cc, .slice e R.length ce], .int .i64 s, .int .i64 r] w fun x w' => x = .returned (.tuple #[.int .i64 (stR P B F R s r), .bool (stK P B F R s r)]) ∧ Below w.heap.size w w' := by
  have HS : Hid (∀ o, Calls Try.prog 66 #[.agg #[.slice a P.length ca, .slice b B.length cb, .slice c F.length cc, .slice e R.length ce]] (w.alloc o) fun r w' => ((goodA P B F R = false ∧ r = .returned (.tuple #[.pointer none, .bool false])) ∨ (goodA P B F R = true ∧ ∃ tb V, r = .returned (.tuple #[.pointer (some ⟨tb, 0, none⟩), .bool true]) ∧ TrieAt w' ((w.alloc o).heap.size + 1) tb (rdQ P B F V P.length) (rdE P B P.length) ∧ EndsV w' V R P.length)) ∧ Below (w.alloc o).heap.size (w.alloc o) w') := fun o => readA_any P B F R a b c e ca cb cc ce (w.alloc o) hl (IntsAt.keepB hA (al_W w o)) (IntsAt.keepB hB (al_W w o)) (IntsAt.keepB hC (al_W w o)) (RowsAt.keepB hE (al_W w o))
  clear hA hB hC hE hl
  go_enter Try.func31, Try.ntmps31
  go_wp2_with fail
  refine Calls.mono (HS.out _) ?_
  rintro x w1 ⟨hx, b1⟩
  have B1 : Hid (Below w.heap.size w w1) := (al_W w _).trans (b1.mono (al_W w _).size)
  clear b1
  rcases hx with ⟨hg, rfl⟩ | ⟨hg, tb, V, rfl, ht, -⟩
  · have HK : Hid (stK P B F R s r = false ∧ stR P B F R s r = 0) := st_no (by unfold stK; rw [hg]; rfl)
    clear hg
    go_wp2
    go_ret2
    exact ⟨by rw [HK.out.1, HK.out.2] <;> rfl, B1.out⟩
  · have hok := goodA_true hg
    have hlq := rdQ_len P B F V P.length (by have := hok.1.1; omega)
    obtain ⟨g, cap, m, -, -, hblt, -, -⟩ := ht.form (by rw [hlq]; have := hok.1.1; omega)
    have t0 := cell_of hblt 0
    simp only [List.getElem?_toArray, List.getElem?_cons_zero] at t0
    rw [hlq] at t0
    have HT : Hid _ := ht
    have hn : P.length ≤ 100 := hok.1.2
    clear hblt ht
    by_cases hin : 0 ≤ s ∧ s < (P.length : Int)
    · obtain ⟨sn, rfl⟩ : ∃ sn : Nat, s = (sn : Int) := ⟨s.toNat, by omega⟩
      have HIN : Hid (∀ w, Calls Try.prog 72 #[.int .i64 sn, .int .i64 0, .int .i64 P.length] w fun e w' => e = .returned (.bool true) ∧ w' = w) := fun w => by
        have := amongB (r := sn) (n := P.length) (by omega) w
        rwa [decide_eq_true hin] at this
      have HGR : Hid (∀ w, Calls Try.prog 73 #[.int .i64 r] w fun e w' => e = .returned (.bool (goodB r)) ∧ w' = w) := fun w => igood_any r w
      cases hr : goodB r with
      | false =>
        have HK : Hid (stK P B F R sn r = false ∧ stR P B F R sn r = 0) := st_no (by unfold stK; rw [hr]; simp)
        rw [hr] at HGR
        clear hg hr hok hin hlq
        go_wp2_with fail
        refine Calls.mono (HIN.out _) ?_
        rintro x w' ⟨rfl, rfl⟩
        go_wp2_with fail
        refine Calls.mono (HGR.out _) ?_
        rintro x w' ⟨rfl, rfl⟩
        go_wp2
        go_ret2
        exact ⟨by rw [HK.out.1, HK.out.2] <;> rfl, B1.out⟩
      | true =>
        have HK : Hid (stK P B F R sn r = true ∧ stR P B F R sn r = (stepN (rdQ P B F V P.length) (rdE P B P.length) sn r : Nat)) := by
          have h := st_yes (P := P) (B := B) (F := F) (R := R) (s := sn) (r := r) (by unfold stK; rw [hg, hr, decide_eq_true hin]; rfl)
          refine ⟨h.1, h.2.trans ?_⟩
          rw [stepN_same (rdQ_same P B F nV V P.length (by omega))]
        rw [hr] at HGR
        have hgr := goodB_bd hr
        have HST : Hid _ := step_any _ tb sn r (rdQ P B F V P.length) (rdE P B P.length) w1 HT.out (okA_fail hok V) (by omega) (by omega) (WalkArith.wf_i64 (by omega))
        clear hg hr hok hin hlq hgr
        go_wp2_with fail
        refine Calls.mono (HIN.out _) ?_
        rintro x w' ⟨rfl, rfl⟩
        go_wp2_with fail
        refine Calls.mono (HGR.out _) ?_
        rintro x w' ⟨rfl, rfl⟩
        go_wp2_with fail
        refine Calls.mono HST.out ?_
        rintro x w' ⟨rfl, rfl⟩
        go_wp2
        go_ret2
        exact ⟨by rw [HK.out.1, HK.out.2] <;> rfl, B1.out⟩
    · have HK : Hid (stK P B F R s r = false ∧ stR P B F R s r = 0) := st_no (by unfold stK; rw [decide_eq_false hin]; simp)
      have HIN : Hid (∀ w, Calls Try.prog 72 #[.int .i64 s, .int .i64 0, .int .i64 P.length] w fun e w' => e = .returned (.bool false) ∧ w' = w) := fun w => by
        have := amongB (r := s) (n := P.length) (by omega) w
        rwa [decide_eq_false hin] at this
      clear hg hok hin hlq
      go_wp2_with fail
      refine Calls.mono (HIN.out _) ?_
      rintro x w' ⟨rfl, rfl⟩
      go_wp2
      go_ret2
      exact ⟨by rw [HK.out.1, HK.out.2] <;> rfl, B1.out⟩
end Go.Proofs.Ytabjjlcjephhkaa
namespace Go.Proofs.Ytabjjlcjephhkaa
open Go.ChangeShapes Go.WideShapes Go.ChangeAt Go.WideMaps Go.WideElems Go.RowKit
namespace LawStepAho
theorem own : ownKnob Try.prog.godebug = none := by kernel_rfl
theorem laidOut : laidOutB Try.prog = true := by kernel_rfl
set_option maxRecDepth 100000 in
set_option maxHeartbeats 4000000 in
theorem walk (P B F : List Int) (R : Rw) (st ru : Int) (a b c e : Option Addr) (ca cb cc ce : Nat) (w : World) (hA : IntsAt w a P) (hB : IntsAt w b B) (hC : IntsAt w c F) (hE : RowsAt w e R) (hP : P.length ≤ maxLen) (hBl : B.length ≤ maxLen) (hF : F.length ≤ maxLen) (hR : R.length ≤ maxLen) (hx : ∀ y ∈ R, y.length ≤ maxLen) :
    Calls Try.prog 9 #[ahoV a b c e P.length B.length F.length R.length ca cb cc ce, .int .i64 st, .int .i64 ru] w fun r w' => r = .returned (.bool true) ∧ Below w.heap.size w w' := by
  have HA : Hid _ := hA
  have HB : Hid _ := hB
  have HC : Hid _ := hC
  have HE : Hid _ := hE
  have A1 : ∀ o, Below w.heap.size w (w.alloc o) := fun o => (Below.refl _ _).alloc (Nat.le_refl _) o
  have HSZ : Hid _ := fun o => szAho_any P B F R a b c e ca cb cc ce (w.alloc o) hP hBl hF hR hx (RowsAt.keepB hE (A1 o))
  clear hA hB hC hE hP hBl hF hR hx
  unfold ahoV
  go_enter Try.func9, Try.ntmps9
  go_wp2_with fail
  refine Calls.mono (HSZ.out _) ?_
  rintro r w1 ⟨hs, b1⟩
  have hbl1 : w1.heap[w.heap.size]? = some (.cells #[.slice a P.length ca, .slice b B.length cb, .slice c F.length cc, .slice e R.length ce] 61) := (b1.block w.heap.size (by simp)).trans (heap_last2 _ _ _ rfl)
  have hs1 : w.heap.size < w1.heap.size := Nat.lt_of_lt_of_le (by simp) b1.size
  have B1 : Hid (Below w.heap.size w w1) := (A1 _).trans (b1.mono (by simp))
  clear b1
  rcases hs with ⟨hs, rfl⟩ | ⟨hs, rfl⟩
  · have HS : Hid (szA P B F R ≤ 1048576) := hs
    have hz : ¬ (1048576 : Int) - (szA P B F R : Int) < 0 := by omega
    clear hs
    generalize szA P B F R = z at hz
    have g10 : w1.cell? ⟨w.heap.size, 0, none⟩ = some (.slice a P.length ca) := cell_of hbl1 0
    have g11 : w1.cell? ⟨w.heap.size, 1, none⟩ = some (.slice b B.length cb) := cell_of hbl1 1
    have g12 : w1.cell? ⟨w.heap.size, 2, none⟩ = some (.slice c F.length cc) := cell_of hbl1 2
    have g13 : w1.cell? ⟨w.heap.size, 3, none⟩ = some (.slice e R.length ce) := cell_of hbl1 3
    go_wp2_with fail
    refine (toAho_any P B F R a b c e ca cb cc ce _ HS.out (IntsAt.keepB HA.out B1.out) (IntsAt.keepB HB.out B1.out) (IntsAt.keepB HC.out B1.out) (RowsAt.keepB HE.out B1.out)).mono ?_
    rintro r w2 ⟨v0, v1, v2, v3, rfl, D2, b2⟩
    obtain ⟨a2, p2, q2, e2, ca2, cp2, cq2, ce2, rfl, rfl, rfl, rfl, IA2, IB2, IC2, IE2⟩ := D2.form
    have JA2 : Hid _ := IA2
    have JB2 : Hid _ := IB2
    have JC2 : Hid _ := IC2
    have JE2 : Hid _ := IE2
    have hbl2 := (b2.block w.heap.size hs1).trans hbl1
    have hs2 : w.heap.size < w2.heap.size := Nat.lt_of_lt_of_le hs1 b2.size
    have B2 : Hid (Below w.heap.size w w2) := B1.out.trans (b2.mono B1.out.size)
    clear b2 D2 IA2 IB2 IC2 IE2 g10 g11 g12 g13 hbl1 B1
    go_wp2_with fail
    refine (sstepA_any P B F R st ru _ _ _ _ _ _ _ _ _ HS.out JA2.out JB2.out JC2.out JE2.out).mono ?_
    rintro r w3 ⟨rfl, b3⟩
    have hbl3 := (b3.block w.heap.size hs2).trans hbl2
    have hs3 : w.heap.size < w3.heap.size := Nat.lt_of_lt_of_le hs2 b3.size
    have B3 : Hid (Below w.heap.size w w3) := B2.out.trans (b3.mono B2.out.size)
    have g30 : w3.cell? ⟨w.heap.size, 0, none⟩ = some (.slice a P.length ca) := cell_of hbl3 0
    have g31 : w3.cell? ⟨w.heap.size, 1, none⟩ = some (.slice b B.length cb) := cell_of hbl3 1
    have g32 : w3.cell? ⟨w.heap.size, 2, none⟩ = some (.slice c F.length cc) := cell_of hbl3 2
    have g33 : w3.cell? ⟨w.heap.size, 3, none⟩ = some (.slice e R.length ce) := cell_of hbl3 3
    clear b3 hbl2 JA2 JB2 JC2 JE2 B2
    go_wp2_with fail
    refine (toAho_any P B F R a b c e ca cb cc ce _ HS.out (IntsAt.keepB HA.out B3.out) (IntsAt.keepB HB.out B3.out) (IntsAt.keepB HC.out B3.out) (RowsAt.keepB HE.out B3.out)).mono ?_
    rintro r w4 ⟨v0, v1, v2, v3, rfl, D4, b4⟩
    obtain ⟨a4, p4, q4, e4, ca4, cp4, cq4, ce4, rfl, rfl, rfl, rfl, IA4, IB4, IC4, IE4⟩ := D4.form
    have hbl4 := (b4.block w.heap.size hs3).trans hbl3
    have hs4 : w.heap.size < w4.heap.size := Nat.lt_of_lt_of_le hs3 b4.size
    have B4 : Hid (Below w.heap.size w w4) := B3.out.trans (b4.mono B3.out.size)
    have A4 : ∀ o, Below w4.heap.size w4 (w4.alloc o) := fun o => (Below.refl _ _).alloc (Nat.le_refl _) o
    have JA4 : Hid (∀ o, IntsAt (w4.alloc o) a4 P) := fun o => IntsAt.keepB IA4 (A4 o)
    have JB4 : Hid (∀ o, IntsAt (w4.alloc o) p4 B) := fun o => IntsAt.keepB IB4 (A4 o)
    have JC4 : Hid (∀ o, IntsAt (w4.alloc o) q4 F) := fun o => IntsAt.keepB IC4 (A4 o)
    have JE4 : Hid (∀ o, RowsAt (w4.alloc o) e4 R) := fun o => RowsAt.keepB IE4 (A4 o)
    clear b4 D4 IA4 IB4 IC4 IE4 g30 g31 g32 g33 hbl3 B3
    go_wp2_with fail
    refine (istepA_any P B F R st ru _ _ _ _ _ _ _ _ _ HS.out (JA4.out _) (JB4.out _) (JC4.out _) (JE4.out _)).mono ?_
    rintro r w5 ⟨rfl, b5⟩
    have hbl5 := (b5.block w.heap.size (by simp; omega)).trans ((A4 _).block w.heap.size hs4 |>.trans hbl4)
    have hbx5 : w5.heap[w4.heap.size]? = some (.cells #[.slice a4 P.length ca4, .slice p4 B.length cp4, .slice q4 F.length cq4, .slice e4 R.length ce4] 37) := (b5.block w4.heap.size (by simp)).trans (heap_last2 _ _ _ rfl)
    have hs5 : w4.heap.size < w5.heap.size := Nat.lt_of_lt_of_le (by simp) b5.size
    have JA5 : Hid _ := IntsAt.keepB (JA4.out _) b5
    have JB5 : Hid _ := IntsAt.keepB (JB4.out _) b5
    have JC5 : Hid _ := IntsAt.keepB (JC4.out _) b5
    have JE5 : Hid _ := RowsAt.keepB (JE4.out _) b5
    have B5 : Hid (Below w.heap.size w w5) := (B4.out.trans ((A4 _).mono B4.out.size)).trans (b5.mono (Nat.le_trans B4.out.size (by simp)))
    clear b5 JA4 JB4 JC4 JE4 A4 B4 hbl4
    have bb0 : (stK P B F R st ru == stK P B F R st ru) = true := by simp
    generalize stK P B F R st ru = f0 at *
    generalize stR P B F R st ru = f1 at *
    have sD : (w5.drew.cell? ⟨w.heap.size, 0, none⟩ = some (.slice a P.length ca) ∧ w5.drew.cell? ⟨w.heap.size, 1, none⟩ = some (.slice b B.length cb) ∧ w5.drew.cell? ⟨w.heap.size, 2, none⟩ = some (.slice c F.length cc) ∧ w5.drew.cell? ⟨w.heap.size, 3, none⟩ = some (.slice e R.length ce) ∧ w5.drew.cell? ⟨w4.heap.size, 0, none⟩ = some (.slice a4 P.length ca4) ∧ w5.drew.cell? ⟨w4.heap.size, 1, none⟩ = some (.slice p4 B.length cp4) ∧ w5.drew.cell? ⟨w4.heap.size, 2, none⟩ = some (.slice q4 F.length cq4) ∧ w5.drew.cell? ⟨w4.heap.size, 3, none⟩ = some (.slice e4 R.length ce4)) := ⟨cell_of hbl5 0, cell_of hbl5 1, cell_of hbl5 2, cell_of hbl5 3, cell_of hbx5 0, cell_of hbx5 1, cell_of hbx5 2, cell_of hbx5 3⟩
    have DR5 : Hid (Below w5.heap.size w5 w5.drew) := (Below.refl _ _).drew
    have B5d : Hid (Below w.heap.size w w5.drew) := B5.out.drew
    have HBL5 : Hid _ := hbl5
    have HBX5 : Hid _ := hbx5
    clear hbl5 hbx5
    go_wp2
    go_region_held (fun w' => (w'.cell? ⟨w.heap.size, 0, none⟩ = some (.slice a P.length ca) ∧ w'.cell? ⟨w.heap.size, 1, none⟩ = some (.slice b B.length cb) ∧ w'.cell? ⟨w.heap.size, 2, none⟩ = some (.slice c F.length cc) ∧ w'.cell? ⟨w.heap.size, 3, none⟩ = some (.slice e R.length ce) ∧ w'.cell? ⟨w4.heap.size, 0, none⟩ = some (.slice a4 P.length ca4) ∧ w'.cell? ⟨w4.heap.size, 1, none⟩ = some (.slice p4 B.length cp4) ∧ w'.cell? ⟨w4.heap.size, 2, none⟩ = some (.slice q4 F.length cq4) ∧ w'.cell? ⟨w4.heap.size, 3, none⟩ = some (.slice e4 R.length ce4))) (first | assumption) (first
      | (go_at_call 47; refine (toAho_any P B F R a b c e ca cb cc ce _ HS.out (IntsAt.keepB HA.out B5d.out) (IntsAt.keepB HB.out B5d.out) (IntsAt.keepB HC.out B5d.out) (RowsAt.keepB HE.out B5d.out)).mono ?_
         rintro r w6 ⟨v0, v1, v2, v3, rfl, D6, b6⟩
         have s6 : (w6.cell? ⟨w.heap.size, 0, none⟩ = some (.slice a P.length ca) ∧ w6.cell? ⟨w.heap.size, 1, none⟩ = some (.slice b B.length cb) ∧ w6.cell? ⟨w.heap.size, 2, none⟩ = some (.slice c F.length cc) ∧ w6.cell? ⟨w.heap.size, 3, none⟩ = some (.slice e R.length ce) ∧ w6.cell? ⟨w4.heap.size, 0, none⟩ = some (.slice a4 P.length ca4) ∧ w6.cell? ⟨w4.heap.size, 1, none⟩ = some (.slice p4 B.length cp4) ∧ w6.cell? ⟨w4.heap.size, 2, none⟩ = some (.slice q4 F.length cq4) ∧ w6.cell? ⟨w4.heap.size, 3, none⟩ = some (.slice e4 R.length ce4)) := ⟨cell_of ((b6.block w.heap.size (by show w.heap.size < w5.heap.size; omega)).trans HBL5.out) 0, cell_of ((b6.block w.heap.size (by show w.heap.size < w5.heap.size; omega)).trans HBL5.out) 1, cell_of ((b6.block w.heap.size (by show w.heap.size < w5.heap.size; omega)).trans HBL5.out) 2, cell_of ((b6.block w.heap.size (by show w.heap.size < w5.heap.size; omega)).trans HBL5.out) 3, cell_of ((b6.block w4.heap.size hs5).trans HBX5.out) 0, cell_of ((b6.block w4.heap.size hs5).trans HBX5.out) 1, cell_of ((b6.block w4.heap.size hs5).trans HBX5.out) 2, cell_of ((b6.block w4.heap.size hs5).trans HBX5.out) 3⟩
         obtain ⟨a6, p6, q6, e6, ca6, cp6, cq6, ce6, rfl, rfl, rfl, rfl, IA6, IB6, IC6, IE6⟩ := D6.form
         have JA6 : Hid _ := IA6
         have JB6 : Hid _ := IB6
         have JC6 : Hid _ := IC6
         have JE6 : Hid _ := IE6
         have KA6 : Hid _ := IntsAt.keepB (IntsAt.keepB JA5.out DR5.out) b6
         have KB6 : Hid _ := IntsAt.keepB (IntsAt.keepB JB5.out DR5.out) b6
         have KC6 : Hid _ := IntsAt.keepB (IntsAt.keepB JC5.out DR5.out) b6
         have KE6 : Hid _ := RowsAt.keepB (RowsAt.keepB JE5.out DR5.out) b6
         have B6 : Hid (Below w.heap.size w w6) := B5d.out.trans (b6.mono B5d.out.size)
         clear b6 D6 IA6 IB6 IC6 IE6)
      | (go_at_call 41; refine (eqAho_any P B F R _ _ _ _ _ _ _ _ _ _ _ _ _ _ _ _ _ HS.out KA6.out KB6.out KC6.out KE6.out JA6.out JB6.out JC6.out JE6.out).mono ?_
         rintro r w7 ⟨rfl, b7⟩
         have s7 : (w7.cell? ⟨w.heap.size, 0, none⟩ = some (.slice a P.length ca) ∧ w7.cell? ⟨w.heap.size, 1, none⟩ = some (.slice b B.length cb) ∧ w7.cell? ⟨w.heap.size, 2, none⟩ = some (.slice c F.length cc) ∧ w7.cell? ⟨w.heap.size, 3, none⟩ = some (.slice e R.length ce) ∧ w7.cell? ⟨w4.heap.size, 0, none⟩ = some (.slice a4 P.length ca4) ∧ w7.cell? ⟨w4.heap.size, 1, none⟩ = some (.slice p4 B.length cp4) ∧ w7.cell? ⟨w4.heap.size, 2, none⟩ = some (.slice q4 F.length cq4) ∧ w7.cell? ⟨w4.heap.size, 3, none⟩ = some (.slice e4 R.length ce4)) := ⟨(b7.cell (p := ⟨w.heap.size, 0, none⟩) (World.block_lt_of_cell? _ _ s6.1)).trans s6.1, (b7.cell (p := ⟨w.heap.size, 1, none⟩) (World.block_lt_of_cell? _ _ s6.2.1)).trans s6.2.1, (b7.cell (p := ⟨w.heap.size, 2, none⟩) (World.block_lt_of_cell? _ _ s6.2.2.1)).trans s6.2.2.1, (b7.cell (p := ⟨w.heap.size, 3, none⟩) (World.block_lt_of_cell? _ _ s6.2.2.2.1)).trans s6.2.2.2.1, (b7.cell (p := ⟨w4.heap.size, 0, none⟩) (World.block_lt_of_cell? _ _ s6.2.2.2.2.1)).trans s6.2.2.2.2.1, (b7.cell (p := ⟨w4.heap.size, 1, none⟩) (World.block_lt_of_cell? _ _ s6.2.2.2.2.2.1)).trans s6.2.2.2.2.2.1, (b7.cell (p := ⟨w4.heap.size, 2, none⟩) (World.block_lt_of_cell? _ _ s6.2.2.2.2.2.2.1)).trans s6.2.2.2.2.2.2.1, (b7.cell (p := ⟨w4.heap.size, 3, none⟩) (World.block_lt_of_cell? _ _ s6.2.2.2.2.2.2.2)).trans s6.2.2.2.2.2.2.2⟩
         have B7 : Hid (Below w.heap.size w w7) := B6.out.trans (b7.mono B6.out.size)
         clear b7))
    all_goals
      go_wp2
      go_ret
      exact ⟨rfl, B7.out⟩
  · go_wp2
    go_ret
    exact ⟨rfl, B1.out⟩
set_option maxRecDepth 100000 in
theorem lifted (os : Os) (started : os.Started) (H : Type) (enc : TypeId × Value → H) :
    ReturnsInHanded {} Try.checked os 9 .any (Rows.fnExactStepAhoSpec.pre6 enc Try.prog Try.f9 Rows.fnExactStepAhoRow.domain false) (Rows.fnExactStepAhoSpec.post enc Try.prog Try.f9 false true false false) := by
  refine returnsInHanded_of_change (C := Try.checked) own started (by kernel_rfl) Try.func9
    (ChangeSpec.witness6 (enc := enc) (C := Try.checked) false ⟨#[], #[.agg #[.slice none 0 0, .slice none 0 0, .slice none 0 0, .slice none 0 0], .int .i64 0, .int .i64 0], []⟩ 8 (by kernel_rfl) (by kernel_rfl) (by kernel_rfl) (by kernel_rfl)) ?_
  intro W base args ds gs before hval0 hW hcnd _
  have hval : ∀ (j : Nat) t v, Try.f9.params[j]? = some t → args[j]? = some v → Value.okWide Try.prog W .any base t v := hval0
  have hW' := hW
  obtain ⟨p, q, hA0, hV, rfl, hfz, hnd⟩ := hW
  have hA : DataW.TrodAll enc Try.prog W 0 (fun _ => true) true Try.f9.params.toList args.toList ds p := hA0
  rw [Try.params9] at hA hval
  obtain ⟨v0, vs0, d0, ds0, p0, q0, hargs, rfl, rfl, h0, r0⟩ := trodAll_cons hA
  obtain ⟨v1, vs1, d1, ds1, p1, q1, hargs1, rfl, rfl, h1, r1⟩ := trodAll_cons r0
  obtain ⟨v2, vs2, d2, ds2, p2, q2, hargs2, rfl, rfl, h2, r2⟩ := trodAll_cons r1
  obtain ⟨rfl, rfl, rfl⟩ := trodAll_nil r2
  obtain rfl : args = #[v0, v1, v2] := by cases args; simp_all
  obtain ⟨rfl, rfl⟩ := trodVars_none hV
  obtain ⟨a1, rfl, rfl, rfl, w1⟩ := open_int Try.underlying3 (hval 1 3 v1 rfl rfl) h1
  obtain ⟨a2, rfl, rfl, rfl, w2⟩ := open_int Try.underlying3 (hval 2 3 v2 rfl rfl) h2
  have k0 := h0
  have lt0 : ∀ x ∈ p0, x.block < W.heap.size := by obtain ⟨m, hm⟩ := k0; exact DataW.trod_lt m _ _ _ hm
  obtain ⟨P, B, F, R, a, b, c, e, ca, cb, cc, ce, rfl, iP, iB, iF, iR, hP, hB, hF, hR, hx⟩ := open_aho (hval 0 61 v0 rfl rfl) h0
  clear hA0 hval0
  refine (walk P B F R a1 a2 a b c e ca cb cc ce W iP iB iF iR hP hB hF hR hx).mono fun e W' ⟨he, bel⟩ => ?_
  subst he
  exact ⟨_, rfl, _, _, _, [], _, [], hW', trodAll_mk1 (shut_bool Try.underlying4 _), trodAll_cons_mk (Below.trod laidOut (by kernel_rfl) (of_decide_eq_true (by kernel_rfl)) k0 bel lt0) (trodAll_cons_mk (shut_int Try.underlying3 w1) (trodAll_cons_mk (shut_int Try.underlying3 w2) trodAll_mk0)), rfl, bel.frame _, fun h => by cases h⟩
theorem row : Rows.FnExactStepAhoSaid :=
  OpenClaim.holds_of_wide 9 Try.f9 rfl rfl rfl rfl rfl rfl rfl ⟨rfl, rfl, rfl, rfl, rfl⟩ rfl rfl rfl rfl rfl (by kernel_rfl) Try.func9 (by kernel_rfl)
    (of_decide_eq_true (by kernel_rfl)) (by unfold Func.isWrapper; first | (rw [if_pos (by decide +kernel)]; kernel_rfl) | (rw [if_neg (by decide +kernel)]; exact ⟨rfl, rfl⟩))
    (fun os started H enc _ => lifted os started H enc)
end LawStepAho
theorem stepAho_holds : Rows.FnExactStepAhoSaid := LawStepAho.row
#print axioms stepAho_holds
end Go.Proofs.Ytabjjlcjephhkaa
