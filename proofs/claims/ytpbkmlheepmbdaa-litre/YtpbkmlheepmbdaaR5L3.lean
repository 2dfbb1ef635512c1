/-
  LitRe of the specification.
-/
import Derived.Test.YtpbkmlheepmbdaaR5L2
namespace Go.Proofs.Ytpbkmlheepmbdaa
open Go.ChangeShapes Go.WideShapes Go.ChangeAt Go.RowKit
def litOk (L : List Int) : Bool := allG L && decide (L.length ≤ 20)
def litA (L : List Int) : List Nd := if litOk L = true then litL L else []
theorem litL_good (L : List Int) : goodP (litL L) = litOk L := by
  unfold litL litOk
  by_cases h0 : L.length = 0
  · rw [if_pos h0]
    obtain rfl : L = [] := List.length_eq_zero_iff.1 h0
    decide
  · rw [if_neg h0, lit_good L (by omega)]
theorem litL_sz (L : List Int) (h : L.length ≤ 40) : szP (litL L) ≤ 1048576 := by
  unfold litL
  by_cases h0 : L.length = 0
  · rw [if_pos h0]; decide
  · rw [if_neg h0]
    have := litK_sz L L.length
    omega
set_option maxRecDepth 100000 in
set_option maxHeartbeats 2000000 in
theorem slitRe_any (L : List Int) (ao : Option Addr) (cap : Nat) (w : World) (hl : L.length ≤ 1048576) (hA : IntsAt w ao L) :
    Calls Try.prog 42 #[.slice ao L.length cap] w fun e w' => ∃ v, e = .returned (.tuple #[v, .bool (litOk L)]) ∧ OwnF w' w.heap.size v (litA L).length (nd (litA L)) ∧ Below w.heap.size w w' := by
  have HA : Hid _ := hA
  clear hA
  cases hg : allG L && decide (L.length ≤ 1000)
  · have HG : Hid _ := hg
    have HO : Hid (litOk L = false) := by
      show litOk L = false
      unfold litOk
      cases h : allG L with
      | false => rfl
      | true =>
        rw [h] at hg
        simp only [Bool.true_and, decide_eq_false_iff_not] at hg ⊢
        omega
    have HN : Hid (litA L = []) := by show litA L = []; unfold litA; rw [HO.out]; rfl
    clear hg
    go_enter Try.func42, Try.ntmps42
    go_wp2_with fail
    refine (all_any L ao cap _ hl HA.out).mono ?_
    rintro e w1 ⟨rfl, b⟩
    rw [HG.out]
    go_wp2
    go_ret2
    exact ⟨_, by rw [HO.out] <;> rfl, by rw [HN.out]; exact own_none _ _ _, b⟩
  · have HG : Hid _ := hg
    have hag : allG L = true := by
      cases h : allG L with
      | true => rfl
      | false => rw [h] at hg; cases hg
    have HOK : Hid (litOk L = decide (L.length ≤ 20)) := by show litOk L = _; unfold litOk; rw [hag]; rfl
    clear hg hag
    by_cases h40 : L.length ≤ 40
    · have h40I : ¬ (40 : Int) < (L.length : Int) := by omega
      have HSZ : Hid _ := litL_sz L h40
      have HGD : Hid _ := litL_good L
      by_cases h20 : L.length ≤ 20
      · have HO : Hid (litOk L = true) := by show litOk L = true; rw [HOK.out]; exact decide_eq_true h20
        have HN : Hid (litA L = litL L) := by show litA L = _; unfold litA; rw [HO.out]; rfl
        go_enter Try.func42, Try.ntmps42
        go_wp2_with fail
        refine (all_any L ao cap _ hl HA.out).mono ?_
        rintro e w1 ⟨rfl, b⟩
        rw [HG.out]
        have B1 : Hid (Below w.heap.size w w1) := b
        clear b
        go_wp2_with fail
        refine (slit_any L ao cap _ h40 (IntsAt.keepB HA.out B1.out)).mono ?_
        rintro e w2 ⟨v2, rfl, o2, b⟩
        obtain ⟨ax, cx, rfl, hres⟩ := OwnF.res o2
        have HRS : Hid _ := hres
        have B2 : Hid (Below w.heap.size w w2) := B1.out.trans (b.mono B1.out.size)
        clear b o2 hres
        go_wp2_with fail
        refine (sgoodRe_any (litL L) ax cx _ HSZ.out HRS.out).mono ?_
        rintro e w3 ⟨rfl, b⟩
        have B3 : Hid (Below w.heap.size w w3) := B2.out.trans (b.mono B2.out.size)
        rw [HGD.out, HO.out]
        clear b
        go_wp2_with fail
        refine (slit_any L ao cap _ h40 (IntsAt.keepB HA.out B3.out)).mono ?_
        rintro e w4 ⟨v4, rfl, o4, b⟩
        have O4 : Hid (OwnF w4 w3.heap.size v4 (litL L).length (nd (litL L))) := o4
        have B4 : Hid (Below w.heap.size w w4) := B3.out.trans (b.mono B3.out.size)
        clear b o4
        go_wp2
        go_ret2
        exact ⟨_, by rw [HO.out] <;> rfl, by rw [HN.out]; exact OwnF.mono O4.out B3.out.size, B4.out⟩
      · have HO : Hid (litOk L = false) := by show litOk L = false; rw [HOK.out]; exact decide_eq_false h20
        have HN : Hid (litA L = []) := by show litA L = []; unfold litA; rw [HO.out]; rfl
        go_enter Try.func42, Try.ntmps42
        go_wp2_with fail
        refine (all_any L ao cap _ hl HA.out).mono ?_
        rintro e w1 ⟨rfl, b⟩
        rw [HG.out]
        have B1 : Hid (Below w.heap.size w w1) := b
        clear b
        go_wp2_with fail
        refine (slit_any L ao cap _ h40 (IntsAt.keepB HA.out B1.out)).mono ?_
        rintro e w2 ⟨v2, rfl, o2, b⟩
        obtain ⟨ax, cx, rfl, hres⟩ := OwnF.res o2
        have HRS : Hid _ := hres
        have B2 : Hid (Below w.heap.size w w2) := B1.out.trans (b.mono B1.out.size)
        clear b o2 hres
        go_wp2_with fail
        refine (sgoodRe_any (litL L) ax cx _ HSZ.out HRS.out).mono ?_
        rintro e w3 ⟨rfl, b⟩
        have B3 : Hid (Below w.heap.size w w3) := B2.out.trans (b.mono B2.out.size)
        rw [HGD.out, HO.out]
        clear b
        go_wp2
        go_ret2
        exact ⟨_, by rw [HO.out] <;> rfl, by rw [HN.out]; exact own_none _ _ _, B3.out⟩
    · have h40I : (40 : Int) < (L.length : Int) := by omega
      have HO : Hid (litOk L = false) := by show litOk L = false; rw [HOK.out]; exact decide_eq_false (by omega)
      have HN : Hid (litA L = []) := by show litA L = []; unfold litA; rw [HO.out]; rfl
      go_enter Try.func42, Try.ntmps42
      go_wp2_with fail
      refine (all_any L ao cap _ hl HA.out).mono ?_
      rintro e w1 ⟨rfl, b⟩
      rw [HG.out]
      go_wp2
      go_ret2
      exact ⟨_, by rw [HO.out] <;> rfl, by rw [HN.out]; exact own_none _ _ _, b⟩
end Go.Proofs.Ytpbkmlheepmbdaa
