/-
  For every list of ints, laws.FnExactLitRe returns true: impl.LitRe answers as the specification's LitRe, nodes and flag, in memory of its own that a second call leaves alone and that is no part of the list, which stays as it was. No conditions.
-/
import Derived.Test.YtpbkmlheepmbdaaR5L4
namespace Go.Proofs.Ytpbkmlheepmbdaa
open Go.ChangeShapes Go.WideShapes Go.ChangeAt Go.WideMaps Go.WideElems Go.RowKit
namespace LawLitRe
theorem own : ownKnob Try.prog.godebug = none := by kernel_rfl
theorem laidOut : laidOutB Try.prog = true := by kernel_rfl
theorem litA_sz (L : List Int) : szP (litA L) ≤ 1048576 := by
  unfold litA
  by_cases h : litOk L = true
  · rw [if_pos h]
    have h20 : L.length ≤ 20 := by
      unfold litOk at h
      simp only [Bool.and_eq_true, decide_eq_true_eq] at h
      exact h.2
    exact litL_sz L (by omega)
  · rw [if_neg h]; decide
set_option maxRecDepth 100000 in
set_option maxHeartbeats 8000000 in
theorem core (L : List Int) (ao : Option Addr) (cap : Nat) (w : World) (hA : IntsAt w ao L) (hl : ¬ (1048576 : Int) < L.length) :
    Calls Try.prog 12 #[.slice ao L.length cap] w fun e w' => e = .returned (.bool true) ∧ Below w.heap.size w w' := by
  have hl' : L.length ≤ 1048576 := by omega
  have HA : Hid (IntsAt w ao L) := hA
  have HSZ : Hid (szP (litA L) ≤ 1048576) := litA_sz L
  have B0 : Hid (Below w.heap.size w w) := Below.refl _ _
  have HSP : Hid (∀ w ao cap, IntsAt w ao L → Calls Try.prog 42 #[.slice ao L.length cap] w fun e w' => ∃ v, e = .returned (.tuple #[v, .bool (litOk L)]) ∧ OwnF w' w.heap.size v (litA L).length (nd (litA L)) ∧ Below w.heap.size w w') := fun w ao cap h => slitRe_any L ao cap w hl' h
  have HIM : Hid (∀ w ao cap, IntsAt w ao L → Calls Try.prog 43 #[.slice ao L.length cap] w fun e w' => ∃ v, e = .returned (.tuple #[v, .bool (litOk L)]) ∧ OwnF w' w.heap.size v (litA L).length (nd (litA L)) ∧ Below w.heap.size w w') := fun w ao cap h => ilitRe_any L ao cap w h
  clear hA
  generalize litA L = G at *
  generalize litOk L = ok at *
  have bb : (ok == ok) = true := by simp
  have hq : ¬ (1 + (szP G : Int)) < 0 := by omega
  have hq1 : ¬ (1 + (L.length : Int)) < 0 := by omega
  go_enter Try.func12, Try.ntmps12
  go_wp2_with fail
  refine (Calls.mono (toI_any L _ _ _ hl' (IntsAt.keepB HA.out B0.out)) ?_)
  rintro e w1 ⟨vP, rfl, ox, b⟩
  have B1 : Hid (Below w.heap.size w w1) := B0.out.trans (b.mono B0.out.size)
  obtain ⟨-, aP, cP, rfl, iP⟩ := ints_of_own ox
  have IP : Hid _ := iP
  clear iP ox b B0
  go_wp2_with fail
  refine (Calls.mono (HSP.out _ _ _ IP.out) ?_)
  rintro e w2 ⟨vW, rfl, oW, b⟩
  have B2 : Hid (Below w.heap.size w w2) := B1.out.trans (b.mono B1.out.size)
  have C2 : Hid (Below w2.heap.size w2 w2) := Below.refl _ _
  have hw2 : w.heap.size ≤ w2.heap.size := B2.out.size
  obtain ⟨aW, cW, hvW, rW⟩ := OwnF.res oW
  subst hvW
  have RW : Hid (ResAt w2 aW G) := rW
  clear rW oW b IP B1
  go_wp2_with fail
  refine (Calls.mono (toI_any L _ _ _ hl' (IntsAt.keepB HA.out B2.out)) ?_)
  rintro e w3 ⟨vX, rfl, ox, b⟩
  have B3 : Hid (Below w.heap.size w w3) := B2.out.trans (b.mono B2.out.size)
  have C3 : Hid (Below w2.heap.size w2 w3) := C2.out.trans (b.mono C2.out.size)
  have X3 : Hid (w3.ownsRow w2.heap.size 3 1 vX L.length (ints L)) := ox
  have hXb : ∀ g, vX.ownBlock = some g → w2.heap.size ≤ g ∧ g < w3.heap.size := World.ownsRow.lt ox
  have HXB : Hid _ := hXb
  obtain ⟨-, aX, cX, hvX, iX⟩ := ints_of_own ox
  subst hvX
  have IX3 : Hid _ := iX
  clear iX ox b hXb B2 C2
  go_wp2_with fail
  refine (Calls.mono (HIM.out _ _ _ IX3.out) ?_)
  rintro e w4 ⟨vG, rfl, oG, b⟩
  have B4 : Hid (Below w.heap.size w w4) := B3.out.trans (b.mono B3.out.size)
  have C4 : Hid (Below w2.heap.size w2 w4) := C3.out.trans (b.mono C3.out.size)
  have X4 : Hid _ := World.ownsRow.keepB X3.out b
  have G4 : Hid (OwnF w4 w3.heap.size vG G.length (nd G)) := oG
  have hw3 : w2.heap.size ≤ w3.heap.size := C3.out.size
  obtain ⟨aG, cG, hvG, -⟩ := OwnF.res oG
  subst hvG
  clear oG b B3 C3 X3 IX3
  obtain ⟨aG', cG', hvG', rG'⟩ := OwnF.res G4.out
  simp only [Value.slice.injEq, true_and] at hvG'
  obtain ⟨rfl, rfl⟩ := hvG'
  have RG4 : Hid (ResAt w4 aG G) := rG'
  clear rG'
  go_wp2_with fail
  refine (Calls.mono (eqReS_any G _ _ _ _ _ HSZ.out RG4.out (ResAt.keepB RW.out C4.out)) ?_)
  rintro e w5 ⟨rfl, b⟩
  have B5 : Hid (Below w.heap.size w w5) := B4.out.trans (b.mono B4.out.size)
  have C5 : Hid (Below w2.heap.size w2 w5) := C4.out.trans (b.mono C4.out.size)
  have X5 : Hid _ := World.ownsRow.keepB X4.out b
  have G5 : Hid (OwnF w5 w3.heap.size (.slice aG G.length cG) G.length (nd G)) := OwnF.keepB G4.out b
  clear b B4 C4 RG4 G4 X4
  go_wp2_with fail
  refine (Calls.mono (toI_any L _ _ _ hl' (IntsAt.keepB HA.out B5.out)) ?_)
  rintro e w6 ⟨vZ, rfl, ox, b⟩
  have B6 : Hid (Below w.heap.size w w6) := B5.out.trans (b.mono B5.out.size)
  have C6 : Hid (Below w2.heap.size w2 w6) := C5.out.trans (b.mono C5.out.size)
  have X6 : Hid _ := World.ownsRow.keepB X5.out b
  have G6 : Hid (OwnF w6 w3.heap.size (.slice aG G.length cG) G.length (nd G)) := OwnF.keepB G5.out b
  obtain ⟨-, aZ, cZ, rfl, iZ⟩ := ints_of_own ox
  have IZ : Hid _ := iZ
  clear iZ ox b B5 C5 X5 G5
  go_wp2_with fail
  refine (Calls.mono (eq_any L _ _ _ _ _ hl' (own_ints X6.out) IZ.out) ?_)
  rintro e w7 ⟨rfl, b⟩
  have B7 : Hid (Below w.heap.size w w7) := B6.out.trans (b.mono B6.out.size)
  have C7 : Hid (Below w2.heap.size w2 w7) := C6.out.trans (b.mono C6.out.size)
  have X7 : Hid _ := World.ownsRow.keepB X6.out b
  have G7 : Hid (OwnF w7 w3.heap.size (.slice aG G.length cG) G.length (nd G)) := OwnF.keepB G6.out b
  clear b B6 C6 X6 G6 IZ
  go_wp2_with fail
  refine (Calls.mono (mark_any L _ _ _ _ hl' X7.out) ?_)
  rintro e w8 ⟨rfl, og, gr⟩
  have G8 : Hid (OwnF w8 w3.heap.size (.slice aG G.length cG) G.length (nd G)) := OwnF.kept G7.out gr (fun g hg => (HXB.out g hg).2)
  have C8 : Hid (Below w2.heap.size w2 w8) := Below.grown C7.out gr C7.out.size (fun g hg => (HXB.out g hg).1)
  have B8 : Hid (Below w.heap.size w w8) := Below.grown B7.out gr B7.out.size (fun g hg => by have h1 := (HXB.out g hg).1; have h2 := hw2; omega)
  clear og gr B7 C7 X7 G7
  obtain ⟨aG', cG', hvG', rG'⟩ := OwnF.res G8.out
  simp only [Value.slice.injEq, true_and] at hvG'
  obtain ⟨rfl, rfl⟩ := hvG'
  have RG8 : Hid (ResAt w8 aG G) := rG'
  clear rG'
  go_wp2_with fail
  refine (Calls.mono (eqReS_any G _ _ _ _ _ HSZ.out RG8.out (ResAt.keepB RW.out C8.out)) ?_)
  rintro e w9 ⟨rfl, b⟩
  have B9 : Hid (Below w.heap.size w w9) := B8.out.trans (b.mono B8.out.size)
  have C9 : Hid (Below w2.heap.size w2 w9) := C8.out.trans (b.mono C8.out.size)
  have G9 : Hid (OwnF w9 w3.heap.size (.slice aG G.length cG) G.length (nd G)) := OwnF.keepB G8.out b
  clear b B8 C8 RG8 G8
  go_wp2_with fail
  refine (Calls.mono (markR_any G _ _ _ HSZ.out G9.out) ?_)
  rintro e w10 ⟨rfl, og, b⟩
  have G10 : Hid (OwnF w10 w3.heap.size (.slice aG G.length cG) G.length (mkR G)) := og
  have C10 : Hid (Below w2.heap.size w2 w10) := C9.out.trans (b.mono hw3)
  have B10 : Hid (Below w.heap.size w w10) := B9.out.trans (b.mono (Nat.le_trans hw2 hw3))
  clear og b B9 C9 G9
  obtain ⟨aG', cG', hvG', rG'⟩ := OwnF.form G10.out
  simp only [Value.slice.injEq, true_and] at hvG'
  obtain ⟨rfl, rfl⟩ := hvG'
  have RF10 : Hid (ReF w10 aG G.length (mkR G)) := rG'
  clear rG'
  go_wp2_with fail
  refine (Calls.mono (heldR_any G _ _ _ HSZ.out RF10.out) ?_)
  rintro e w11 ⟨rfl, b⟩
  have B11 : Hid (Below w.heap.size w w11) := B10.out.trans (b.mono B10.out.size)
  have C11 : Hid (Below w2.heap.size w2 w11) := C10.out.trans (b.mono C10.out.size)
  have G11 : Hid (OwnF w11 w3.heap.size (.slice aG G.length cG) G.length (mkR G)) := OwnF.keepB G10.out b
  clear b B10 C10 G10 RF10
  go_wp2_with fail
  refine (Calls.mono (toI_any L _ _ _ hl' (IntsAt.keepB HA.out B11.out)) ?_)
  rintro e w12 ⟨vQ, rfl, ox, b⟩
  have B12 : Hid (Below w.heap.size w w12) := B11.out.trans (b.mono B11.out.size)
  have C12 : Hid (Below w2.heap.size w2 w12) := C11.out.trans (b.mono C11.out.size)
  have G12 : Hid (OwnF w12 w3.heap.size (.slice aG G.length cG) G.length (mkR G)) := OwnF.keepB G11.out b
  obtain ⟨-, aQ, cQ, rfl, iQ⟩ := ints_of_own ox
  have IQ : Hid _ := iQ
  clear iQ ox b B11 C11 G11
  go_wp2_with fail
  refine (Calls.mono (HIM.out _ _ _ IQ.out) ?_)
  rintro e w13 ⟨vK, rfl, oK, b⟩
  have B13 : Hid (Below w.heap.size w w13) := B12.out.trans (b.mono B12.out.size)
  have C13 : Hid (Below w2.heap.size w2 w13) := C12.out.trans (b.mono C12.out.size)
  have G13 : Hid (OwnF w13 w3.heap.size (.slice aG G.length cG) G.length (mkR G)) := OwnF.keepB G12.out b
  obtain ⟨aK, cK, hvK, rK⟩ := OwnF.res oK
  subst hvK
  have RK : Hid (ResAt w13 aK G) := rK
  clear rK oK b B12 C12 G12 IQ
  go_wp2_with fail
  refine (Calls.mono (eqReS_any G _ _ _ _ _ HSZ.out RK.out (ResAt.keepB RW.out C13.out)) ?_)
  rintro e w14 ⟨rfl, b⟩
  have B14 : Hid (Below w.heap.size w w14) := B13.out.trans (b.mono B13.out.size)
  have C14 : Hid (Below w2.heap.size w2 w14) := C13.out.trans (b.mono C13.out.size)
  have G14 : Hid (OwnF w14 w3.heap.size (.slice aG G.length cG) G.length (mkR G)) := OwnF.keepB G13.out b
  clear b B13 C13 G13 RK
  obtain ⟨aG', cG', hvG', rG'⟩ := OwnF.form G14.out
  simp only [Value.slice.injEq, true_and] at hvG'
  obtain ⟨rfl, rfl⟩ := hvG'
  have RF14 : Hid (ReF w14 aG G.length (mkR G)) := rG'
  clear rG'
  go_wp2_with fail
  refine (Calls.mono (heldR_any G _ _ _ HSZ.out RF14.out) ?_)
  rintro e w15 ⟨rfl, b⟩
  have B15 : Hid (Below w.heap.size w w15) := B14.out.trans (b.mono B14.out.size)
  have C15 : Hid (Below w2.heap.size w2 w15) := C14.out.trans (b.mono C14.out.size)
  have G15 : Hid (OwnF w15 w3.heap.size (.slice aG G.length cG) G.length (mkR G)) := OwnF.keepB G14.out b
  clear b B14 C14 G14 RF14
  go_wp2
  go_ret
  exact ⟨rfl, B15.out⟩
set_option maxRecDepth 100000 in
set_option maxHeartbeats 1000000 in
theorem bigS (L : List Int) (ao : Option Addr) (cap : Nat) (w : World) (hb : (1048576 : Int) < L.length) :
    Calls Try.prog 12 #[.slice ao L.length cap] w fun e w' => e = .returned (.bool true) ∧ Below w.heap.size w w' := by
  go_enter Try.func12, Try.ntmps12
  go_wp2
  go_ret
  exact ⟨rfl, Below.refl _ _⟩
theorem walk (L : List Int) (ao : Option Addr) (cap : Nat) (w : World) (hA : IntsAt w ao L) :
    Calls Try.prog 12 #[.slice ao L.length cap] w fun e w' => e = .returned (.bool true) ∧ Below w.heap.size w w' := by
  by_cases hS : (1048576 : Int) < L.length
  · exact bigS L ao cap w hS
  · exact core L ao cap w hA hS
set_option maxRecDepth 100000 in
theorem lifted (os : Os) (started : os.Started) (H : Type) (enc : TypeId × Value → H) :
    ReturnsInHanded {} Try.checked os 12 .any (Rows.fnExactLitReSpec.pre6 enc Try.prog Try.f12 Rows.fnExactLitReRow.domain false) (Rows.fnExactLitReSpec.post enc Try.prog Try.f12 false true false false) := by
  refine returnsInHanded_of_change (C := Try.checked) own started (by kernel_rfl) Try.func12
    (ChangeSpec.witness6 (enc := enc) (C := Try.checked) false ⟨#[], #[.slice none 0 0], []⟩ 8 (by kernel_rfl) (by kernel_rfl) (by kernel_rfl) (by kernel_rfl)) ?_
  intro W base args ds gs before hval0 hW hcnd _
  have hval : ∀ (j : Nat) t v, Try.f12.params[j]? = some t → args[j]? = some v → Value.okWide Try.prog W .any base t v := hval0
  have hW' := hW
  obtain ⟨p, q, hA0, hV, rfl, hfz, hnd⟩ := hW
  have hA : DataW.TrodAll enc Try.prog W 0 (fun _ => true) true Try.f12.params.toList args.toList ds p := hA0
  rw [Try.params12] at hA hval
  obtain ⟨v0, d0, rfl, rfl, h0⟩ := trodAll_one hA
  obtain ⟨rfl, rfl⟩ := trodVars_none hV
  obtain ⟨a0, len0, cap0, rfl⟩ := okWide_slice Try.underlying33 (hval 0 33 v0 rfl rfl)
  have k0 := h0
  have lt0 : ∀ x ∈ p, x.block < W.heap.size := by obtain ⟨m, hm⟩ := k0; exact DataW.trod_lt m _ _ _ hm
  obtain ⟨L, hL, i0⟩ : ∃ L : List Int, L.length = len0 ∧ IntsAt W a0 L := by obtain ⟨fuel, hf⟩ := h0; exact argI_of hf
  clear hA0 hval0
  subst hL
  refine (walk L a0 cap0 W i0).mono fun e W' ⟨he, bel⟩ => ?_
  subst he
  exact ⟨_, rfl, _, _, _, [], _, [], hW', trodAll_mk1 (shut_bool Try.underlying4 _), trodAll_mk1 (Below.trod laidOut (by kernel_rfl) (of_decide_eq_true (by kernel_rfl)) k0 bel lt0), rfl, bel.frame _, fun h => by cases h⟩
theorem row : Rows.FnExactLitReSaid :=
  OpenClaim.holds_of_wide 12 Try.f12 rfl rfl rfl rfl rfl rfl rfl ⟨rfl, rfl, rfl, rfl, rfl⟩ rfl rfl rfl rfl rfl (by kernel_rfl) Try.func12 (by kernel_rfl)
    (of_decide_eq_true (by kernel_rfl)) (by unfold Func.isWrapper; first | (rw [if_pos (by decide +kernel)]; kernel_rfl) | (rw [if_neg (by decide +kernel)]; exact ⟨rfl, rfl⟩))
    (fun os started H enc _ => lifted os started H enc)
end LawLitRe
theorem litRe_holds : Rows.FnExactLitReSaid := LawLitRe.row
#print axioms litRe_holds
end Go.Proofs.Ytpbkmlheepmbdaa
