/-
  A machine of words among the laws' arguments; its size, its comparison.
-/
import Derived.Test.YtdhppigjlldfmaaM6D
namespace Go.Proofs.Ytdhppigjlldfmaa
open Go.ChangeShapes Go.WideShapes Go.ChangeAt Go.WideMaps Go.WideElems Go.RowKit
/-- A machine of words as a value. -/
def ahoV (a b c e : Option Addr) (n m k l ca cb cc ce : Nat) : Value := .agg #[.slice a n ca, .slice b m cb, .slice c k cc, .slice e l ce]
theorem Try.cellsAho : Try.prog.cellsOf 52 = 4 := by kernel_rfl
section
variable {H : Type} {enc : TypeId × Value → H} {w : World} {base : Nat} {held : Bool}
set_option maxRecDepth 100000 in
theorem open_aho {r : Reach} {b0 : Nat} {v : Value} {d : DataW H} {p : List MemPlace} (hv : Value.okWide Try.prog w r b0 52 v) (h : DataW.Trod enc Try.prog w base (fun _ => true) held 52 v d p) :
    ∃ (P B F : List Int) (R : Rw) (a b c e : Option Addr) (ca cb cc ce : Nat), v = ahoV a b c e P.length B.length F.length R.length ca cb cc ce ∧ IntsAt w a P ∧ IntsAt w b B ∧ IntsAt w c F ∧ RowsAt w e R ∧
      P.length ≤ maxLen ∧ B.length ≤ maxLen ∧ F.length ≤ maxLen ∧ R.length ≤ maxLen ∧ (∀ y ∈ R, y.length ≤ maxLen) := by
  obtain ⟨c0, c1, c2, c3, y0, y1, y2, y3, m, rfl, rfl, rfl, hy0, hy1, hy2, hy3⟩ := Joins.open_agg4 Try.underlying52 (by kernel_rfl) Try.cellsAho hv h
  obtain ⟨P, hP, a, ca, rfl, iP⟩ := arg_ints hy0
  obtain ⟨B, hB, b, cb, rfl, iB⟩ := arg_ints hy1
  obtain ⟨F, hF, c, cc, rfl, iF⟩ := arg_ints hy2
  obtain ⟨R, hR, hRR, e, ce, rfl, iR⟩ := arg_rows hy3
  exact ⟨P, B, F, R, a, b, c, e, ca, cb, cc, ce, rfl, iP, iB, iF, iR, hP, hB, hF, hR, hRR⟩
end
/-- How many values a machine holds. -/
def szA (P B F : List Int) (R : Rw) : Nat := P.length + B.length + F.length + szR R
set_option maxRecDepth 100000 in
set_option maxHeartbeats 2000000 in
theorem szAho_any (P B F : List Int) (R : Rw) (a b c e : Option Addr) (ca cb cc ce : Nat) (w : World) (hP : P.length ≤ maxLen) (hB : B.length ≤ maxLen) (hF : F.length ≤ maxLen) (hR : R.length ≤ maxLen) (hx : ∀ y ∈ R, y.length ≤ maxLen) (hE : RowsAt w e R) :
    Calls Try.prog 28 #[.agg #[.slice a P.length ca, .slice b B.length cb, .slice c F.length cc, .slice e R.length ce], .int .i64 1048576] w fun r w' => ((szA P B F R ≤ 1048576 ∧ r = .returned (.int .i64 (1048576 - szA P B F R))) ∨ (1048576 < szA P B F R ∧ r = .returned (.int .i64 (-1)))) ∧ Below w.heap.size w w' := by
  have HE : Hid _ := hE
  have HR : Hid _ := hR
  have HX : Hid _ := hx
  have hP1 : P.length ≤ 9223372036854775807 := hP
  have hB1 : B.length ≤ 9223372036854775807 := hB
  have hF1 : F.length ≤ 9223372036854775807 := hF
  clear hP hB hF hR hx hE
  by_cases h1 : (1048576 : Int) - P.length < 0
  · go_enter Try.func28, Try.ntmps28
    go_wp2_with (first | (go_at_call 60; go_in) | fail)
    go_ret
    exact ⟨.inr ⟨by unfold szA; omega, rfl⟩, by go_grown⟩
  · by_cases h2 : (1048576 : Int) - P.length - B.length < 0
    · go_enter Try.func28, Try.ntmps28
      go_wp2_with (first | (go_at_call 60; go_in) | fail)
      go_ret
      exact ⟨.inr ⟨by unfold szA; omega, rfl⟩, by go_grown⟩
    · by_cases h3 : (1048576 : Int) - P.length - B.length - F.length < 0
      · go_enter Try.func28, Try.ntmps28
        go_wp2_with (first | (go_at_call 60; go_in) | fail)
        go_ret
        exact ⟨.inr ⟨by unfold szA; omega, rfl⟩, by go_grown⟩
      · go_enter Try.func28, Try.ntmps28
        go_wp2_with (first | (go_at_call 60; go_in) | fail)
        refine (szIntSS_any R e ce _ _ (by omega) (by omega) HR.out HX.out (RowsAt.keepB HE.out (by go_grown))).mono ?_
        rintro r w2 ⟨hs, b2⟩
        have B2 : Hid (Below w.heap.size w w2) := (by go_grown : Below w.heap.size w _).trans (b2.mono (by simp))
        clear b2
        rcases hs with ⟨hs, rfl⟩ | ⟨hs, rfl⟩
        · have h4 : ¬ (1048576 : Int) - P.length - B.length - F.length - szR R < 0 := by omega
          have hszr : (szR R : Int) ≤ 1048576 := by omega
          clear hs
          go_wp2
          go_ret
          exact ⟨.inl ⟨by unfold szA; omega, congrArg (fun z : Int => Ending.returned (.int .i64 z)) (by unfold szA; push_cast; omega)⟩, B2.out⟩
        · go_wp2
          go_ret
          exact ⟨.inr ⟨by unfold szA; omega, rfl⟩, B2.out⟩
set_option maxRecDepth 100000 in
set_option maxHeartbeats 2000000 in
theorem eqAho_any (P B F : List Int) (R : Rw) (a b c e a' b' c' e' : Option Addr) (ca cb cc ce ca' cb' cc' ce' : Nat) (w : World) (hl : szA P B F R ≤ 1048576) (hA : IntsAt w a P) (hB : IntsAt w b B) (hC : IntsAt w c F) (hE : RowsAt w e R) (hA' : IntsAt w a' P) (hB' : IntsAt w b' B) (hC' : IntsAt w c' F) (hE' : RowsAt w e' R) :
    Calls Try.prog 23 #[.agg #[.slice a P.length ca, .slice b B.length cb, .slice c F.length cc, .slice e R.length ce], .agg #[.slice a' P.length ca', .slice b' B.length cb', .slice c' F.length cc', .slice e' R.length ce']] w fun r w' => r = .returned (.bool true) ∧ Below w.heap.size w w' := by
  have HA : Hid _ := hA
  have HB : Hid _ := hB
  have HC : Hid _ := hC
  have HE : Hid _ := hE
  have HA' : Hid _ := hA'
  have HB' : Hid _ := hB'
  have HC' : Hid _ := hC'
  have HE' : Hid _ := hE'
  have hlP : P.length ≤ 1048576 := by unfold szA at hl; omega
  have hlB : B.length ≤ 1048576 := by unfold szA at hl; omega
  have hlF : F.length ≤ 1048576 := by unfold szA at hl; omega
  have HLR : Hid (szR R ≤ 1048576) := by unfold szA at hl; exact (by omega : szR R ≤ 1048576)
  have A2 : ∀ o p, Below w.heap.size w ((w.alloc o).alloc p) := fun o p => ((Below.refl _ _).alloc (Nat.le_refl _) o).alloc (by simp) p
  clear hA hB hC hE hA' hB' hC' hE' hl
  go_enter Try.func23, Try.ntmps23
  go_wp2_with fail
  refine (eq_any P _ _ _ _ _ hlP (IntsAt.keepB HA.out (A2 _ _)) (IntsAt.keepB HA'.out (A2 _ _))).mono ?_
  rintro r w1 ⟨rfl, b1⟩
  have hb2 : w1.heap[w.heap.size]? = some (.cells #[.slice a P.length ca, .slice b B.length cb, .slice c F.length cc, .slice e R.length ce] 28) := (b1.block w.heap.size (by simp; omega)).trans ((heap_prev _ _ _ (by simp)).trans (heap_last2 _ _ _ rfl))
  have hb3 : w1.heap[w.heap.size + 1]? = some (.cells #[.slice a' P.length ca', .slice b' B.length cb', .slice c' F.length cc', .slice e' R.length ce'] 28) := (b1.block (w.heap.size + 1) (by simp)).trans (heap_last2 _ _ _ (by simp))
  have c1 : w1.cell? ⟨w.heap.size, 1, none⟩ = some (.slice b B.length cb) := cell_of hb2 1
  have d1 : w1.cell? ⟨w.heap.size + 1, 1, none⟩ = some (.slice b' B.length cb') := cell_of hb3 1
  have hs1 : w.heap.size + 2 ≤ w1.heap.size := Nat.le_trans (by simp) b1.size
  have B1 : Hid (Below w.heap.size w w1) := (A2 _ _).trans (b1.mono (A2 _ _).size)
  clear b1 A2
  go_wp2_with fail
  refine (eq_any B _ _ _ _ _ hlB (IntsAt.keepB HB.out B1.out) (IntsAt.keepB HB'.out B1.out)).mono ?_
  rintro r w2 ⟨rfl, b2⟩
  have hb2' := (b2.block w.heap.size (by omega)).trans hb2
  have hb3' := (b2.block (w.heap.size + 1) (by omega)).trans hb3
  have c2 : w2.cell? ⟨w.heap.size, 2, none⟩ = some (.slice c F.length cc) := cell_of hb2' 2
  have d2 : w2.cell? ⟨w.heap.size + 1, 2, none⟩ = some (.slice c' F.length cc') := cell_of hb3' 2
  have hs2 : w.heap.size + 2 ≤ w2.heap.size := Nat.le_trans hs1 b2.size
  have B2 : Hid (Below w.heap.size w w2) := B1.out.trans (b2.mono B1.out.size)
  clear b2 c1 d1 hb2 hb3
  go_wp2_with fail
  refine (eq_any F _ _ _ _ _ hlF (IntsAt.keepB HC.out B2.out) (IntsAt.keepB HC'.out B2.out)).mono ?_
  rintro r w3 ⟨rfl, b3⟩
  have c3 : w3.cell? ⟨w.heap.size, 3, none⟩ = some (.slice e R.length ce) := cell_of ((b3.block w.heap.size (by omega)).trans hb2') 3
  have d3 : w3.cell? ⟨w.heap.size + 1, 3, none⟩ = some (.slice e' R.length ce') := cell_of ((b3.block (w.heap.size + 1) (by omega)).trans hb3') 3
  have hs3 : w.heap.size + 2 ≤ w3.heap.size := Nat.le_trans hs2 b3.size
  have B3 : Hid (Below w.heap.size w w3) := B2.out.trans (b3.mono B2.out.size)
  clear b3 c2 d2 hb2' hb3'
  go_wp2_with fail
  refine (eqIntSS_any R _ _ _ _ _ HLR.out (RowsAt.keepB HE.out B3.out) (RowsAt.keepB HE'.out B3.out)).mono ?_
  rintro r w4 ⟨rfl, b4⟩
  have B4 : Hid (Below w.heap.size w w4) := B3.out.trans (b4.mono B3.out.size)
  clear b4
  go_wp2
  go_ret
  exact ⟨rfl, B4.out⟩
end Go.Proofs.Ytdhppigjlldfmaa
