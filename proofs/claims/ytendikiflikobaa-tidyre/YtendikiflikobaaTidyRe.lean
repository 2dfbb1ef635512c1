/-
  For every list of nodes, laws.FnExactTidyRe returns true: impl.TidyRe answers as the specification's TidyRe, nodes and flag, in memory of its own that a second call leaves alone and that is no part of the list, which stays as it was. No conditions.
-/
import Derived.Test.YtendikiflikobaaT5K7
import Derived.Test.YtendikiflikobaaR5N
namespace Go.Proofs.Ytendikiflikobaa
open Go.ChangeShapes Go.WideShapes Go.ChangeAt Go.WideMaps Go.WideElems Go.RowKit
namespace LawTidyRe
theorem own : ownKnob Try.prog.godebug = none := by kernel_rfl
theorem laidOut : laidOutB Try.prog = true := by kernel_rfl
theorem formC {w : World} {base : Nat} {v : Value} {P : List Nd} (h : OwnF w base v P.length (nd P)) : ∃ ao cap, v = .slice ao P.length cap ∧ P.length ≤ cap ∧ ResAt w ao P := by
  obtain ⟨ao, cap, hv, hr⟩ := OwnF.res h
  obtain ⟨Q, -, hq, -⟩ := h
  refine ⟨ao, cap, hv, ?_, hr⟩
  rcases hq.2 with ⟨e, e0⟩ | ⟨g, c, cur, e, -, -, hc, -⟩
  · omega
  · rw [hv] at e
    simp only [Value.slice.injEq] at e
    omega
set_option maxRecDepth 100000 in
set_option maxHeartbeats 8000000 in
theorem core (P : List Nd) (G : List Nd) (ok : Bool) (ao : Option Addr) (cap : Nat) (w : World) (hA : ResAt w ao P) (hl : P.length ≤ maxLen) (hx : ∀ y ∈ P, y.2.length ≤ maxLen) (hs : szP P ≤ 1048576) (hsG : szP G ≤ 1048576)
    (SP : ∀ (w : World) (ao : Option Addr) (cap : Nat), P.length ≤ cap → ResAt w ao P → Calls Try.prog 32 #[.slice ao P.length cap] w fun e w' => ∃ v, e = .returned (.tuple #[v, .bool ok]) ∧ OwnF w' w.heap.size v G.length (nd G) ∧ Below w.heap.size w w')
    (IM : ∀ (w : World) (ao : Option Addr) (cap : Nat), P.length ≤ cap → ResAt w ao P → Calls Try.prog 33 #[.slice ao P.length cap] w fun e w' => ∃ v, e = .returned (.tuple #[v, .bool ok]) ∧ OwnF w' w.heap.size v G.length (nd G) ∧ Below w.heap.size w w') :
    Calls Try.prog 6 #[.slice ao P.length cap] w fun e w' => e = .returned (.bool true) ∧ Below w.heap.size w w' := by
  have HA : Hid (ResAt w ao P) := hA
  have HS : Hid (szP P ≤ 1048576) := hs
  have HSG : Hid (szP G ≤ 1048576) := hsG
  have HSP : Hid _ := SP
  have HIM : Hid _ := IM
  have HSZ : Hid _ := szReS_any P ao cap w hl hx hA
  have bb : (ok == ok) = true := by simp
  have hq : ¬ (1 + (szP G : Int)) < 0 := by omega
  have hq1 : ¬ (1 + (szP P : Int)) < 0 := by omega
  have hz : ¬ (1048576 : Int) - (szP P : Int) < 0 := by omega
  have hpl : P.length ≤ 1048576 := by unfold szP at hs; omega
  have hgl : G.length ≤ 1048576 := by unfold szP at hsG; omega
  clear hA hl hx SP IM hsG
  go_enter Try.func6, Try.ntmps6
  go_wp2_with fail
  refine Calls.mono HSZ.out ?_
  rintro e w1 ⟨hs1, b⟩
  have B1 : Hid (Below w.heap.size w w1) := b
  clear b HSZ
  obtain rfl : e = .returned (.int .i64 (1048576 - szP P)) := by
    rcases hs1 with ⟨-, h⟩ | ⟨h, -⟩
    · exact h
    · omega
  clear hs1 hs
  obtain ⟨zP, hzP⟩ : ∃ z, z = szP P := ⟨_, rfl⟩
  obtain ⟨zG, hzG⟩ : ∃ z, z = szP G := ⟨_, rfl⟩
  rw [← hzP] at hz hq1
  rw [← hzG] at hq
  have HZP : Hid _ := hzP
  have HZG : Hid _ := hzG
  clear hzP hzG
  rw [← HZP.out]
  go_wp2_with fail
  refine (Calls.mono (toReT_any P ao cap _ HS.out (ResAt.keepB HA.out B1.out)) ?_)
  rintro e w2 ⟨vS, rfl, ox, b⟩
  have B2 : Hid (Below w.heap.size w w2) := B1.out.trans (b.mono B1.out.size)
  obtain ⟨aS, cS, rfl, hcS, rS⟩ := formC ox
  have RS : Hid (ResAt w2 aS P) := rS
  clear rS ox b B1
  go_wp2_with fail
  refine (Calls.mono (HSP.out _ _ _ hcS RS.out) ?_)
  rintro e w3 ⟨vW, rfl, oW, b⟩
  have B3 : Hid (Below w.heap.size w w3) := B2.out.trans (b.mono B2.out.size)
  have C3 : Hid (Below w3.heap.size w3 w3) := Below.refl _ _
  have hw3 : w.heap.size ≤ w3.heap.size := B3.out.size
  obtain ⟨aW, cW, hvW, rW⟩ := OwnF.res oW
  subst hvW
  have RW : Hid (ResAt w3 aW G) := rW
  clear rW oW b RS B2 hcS
  go_wp2_with fail
  refine (Calls.mono (toReT_any P ao cap _ HS.out (ResAt.keepB HA.out B3.out)) ?_)
  rintro e w4 ⟨vX, rfl, ox, b⟩
  have B4 : Hid (Below w.heap.size w w4) := B3.out.trans (b.mono B3.out.size)
  have C4 : Hid (Below w3.heap.size w3 w4) := C3.out.trans (b.mono C3.out.size)
  have X4 : Hid (OwnT w4 w3.heap.size w4.heap.size vX P.length (nd P)) := OwnF.top ox
  obtain ⟨aX, cX, hvX, hcX, rX⟩ := formC ox
  subst hvX
  have RX4 : Hid (ResAt w4 aX P) := rX
  have hw4 : w3.heap.size ≤ w4.heap.size := C4.out.size
  clear rX ox b B3 C3
  go_wp2_with fail
  refine (Calls.mono (HIM.out _ _ _ hcX RX4.out) ?_)
  rintro e w5 ⟨vG, rfl, oG, b⟩
  have B5 : Hid (Below w.heap.size w w5) := B4.out.trans (b.mono B4.out.size)
  have C5 : Hid (Below w3.heap.size w3 w5) := C4.out.trans (b.mono C4.out.size)
  have X5 : Hid (OwnT w5 w3.heap.size w4.heap.size (.slice aX P.length cX) P.length (nd P)) := OwnT.keepB X4.out b
  have G5 : Hid (OwnF w5 w4.heap.size vG G.length (nd G)) := oG
  obtain ⟨aG, cG, hvG, -⟩ := OwnF.res oG
  subst hvG
  clear oG b B4 C4 X4 RX4
  obtain ⟨aG', cG', hvG', rG'⟩ := OwnF.res G5.out
  simp only [Value.slice.injEq, true_and] at hvG'
  obtain ⟨rfl, rfl⟩ := hvG'
  have RG5 : Hid (ResAt w5 aG G) := rG'
  clear rG'
  go_wp2_with fail
  refine (Calls.mono (eqReS_any G _ _ _ _ _ HSG.out RG5.out (ResAt.keepB RW.out C5.out)) ?_)
  rintro e w6 ⟨rfl, b⟩
  have B6 : Hid (Below w.heap.size w w6) := B5.out.trans (b.mono B5.out.size)
  have C6 : Hid (Below w3.heap.size w3 w6) := C5.out.trans (b.mono C5.out.size)
  have X6 : Hid (OwnT w6 w3.heap.size w4.heap.size (.slice aX P.length cX) P.length (nd P)) := OwnT.keepB X5.out b
  have G6 : Hid (OwnF w6 w4.heap.size (.slice aG G.length cG) G.length (nd G)) := OwnF.keepB G5.out b
  clear b B5 C5 G5 X5 RG5
  go_wp2_with fail
  refine (Calls.mono (toReT_any P ao cap _ HS.out (ResAt.keepB HA.out B6.out)) ?_)
  rintro e w7 ⟨vZ, rfl, ox, b⟩
  have B7 : Hid (Below w.heap.size w w7) := B6.out.trans (b.mono B6.out.size)
  have C7 : Hid (Below w3.heap.size w3 w7) := C6.out.trans (b.mono C6.out.size)
  obtain ⟨aZ, cZ, rfl, -, rZ⟩ := formC ox
  have RZ : Hid (ResAt w7 aZ P) := rZ
  have X7 : Hid (OwnT w7 w3.heap.size w4.heap.size (.slice aX P.length cX) P.length (nd P)) := OwnT.keepB X6.out b
  have G7 : Hid (OwnF w7 w4.heap.size (.slice aG G.length cG) G.length (nd G)) := OwnF.keepB G6.out b
  clear b B6 C6 G6 X6 rZ ox
  obtain ⟨aX', cX', hvX', rX'⟩ := OwnF.res X7.out.f
  simp only [Value.slice.injEq, true_and] at hvX'
  obtain ⟨rfl, rfl⟩ := hvX'
  have RX7 : Hid (ResAt w7 aX P) := rX'
  clear rX'
  go_wp2_with fail
  refine (Calls.mono (eqReS_any P _ _ _ _ _ HS.out RX7.out RZ.out) ?_)
  rintro e w8 ⟨rfl, b⟩
  have B8 : Hid (Below w.heap.size w w8) := B7.out.trans (b.mono B7.out.size)
  have C8 : Hid (Below w3.heap.size w3 w8) := C7.out.trans (b.mono C7.out.size)
  have X8 : Hid (OwnT w8 w3.heap.size w4.heap.size (.slice aX P.length cX) P.length (nd P)) := OwnT.keepB X7.out b
  have G8 : Hid (OwnF w8 w4.heap.size (.slice aG G.length cG) G.length (nd G)) := OwnF.keepB G7.out b
  clear b B7 C7 G7 X7 RX7 RZ
  go_wp2_with fail
  refine (Calls.mono (markT_any P _ _ _ _ HS.out X8.out) ?_)
  rintro e w9 ⟨rfl, og, mid⟩
  rw [← HZP.out]
  have G9 : Hid (OwnF w9 w4.heap.size (.slice aG G.length cG) G.length (nd G)) := OwnF.mid G8.out mid (Nat.le_refl _)
  have C9 : Hid (Below w3.heap.size w3 w9) := C8.out.trans mid.1
  have B9 : Hid (Below w.heap.size w w9) := B8.out.trans (mid.1.mono hw3)
  clear og mid B8 C8 X8 G8
  obtain ⟨aG', cG', hvG', rG'⟩ := OwnF.res G9.out
  simp only [Value.slice.injEq, true_and] at hvG'
  obtain ⟨rfl, rfl⟩ := hvG'
  have RG9 : Hid (ResAt w9 aG G) := rG'
  clear rG'
  go_wp2_with fail
  refine (Calls.mono (eqReS_any G _ _ _ _ _ HSG.out RG9.out (ResAt.keepB RW.out C9.out)) ?_)
  rintro e w10 ⟨rfl, b⟩
  have B10 : Hid (Below w.heap.size w w10) := B9.out.trans (b.mono B9.out.size)
  have C10 : Hid (Below w3.heap.size w3 w10) := C9.out.trans (b.mono C9.out.size)
  have G10 : Hid (OwnF w10 w4.heap.size (.slice aG G.length cG) G.length (nd G)) := OwnF.keepB G9.out b
  clear b B9 C9 G9 RG9
  go_wp2_with fail
  refine (Calls.mono (markR_any G _ _ _ HSG.out G10.out) ?_)
  rintro e w11 ⟨rfl, og, b⟩
  rw [← HZG.out]
  have G11 : Hid (OwnF w11 w4.heap.size (.slice aG G.length cG) G.length (mkR G)) := og
  have C11 : Hid (Below w3.heap.size w3 w11) := C10.out.trans (b.mono hw4)
  have B11 : Hid (Below w.heap.size w w11) := B10.out.trans (b.mono (Nat.le_trans hw3 hw4))
  clear og b B10 C10 G10
  obtain ⟨aG', cG', hvG', rG'⟩ := OwnF.form G11.out
  simp only [Value.slice.injEq, true_and] at hvG'
  obtain ⟨rfl, rfl⟩ := hvG'
  have RF11 : Hid (ReF w11 aG G.length (mkR G)) := rG'
  clear rG'
  go_wp2_with fail
  refine (Calls.mono (heldR_any G _ _ _ HSG.out RF11.out) ?_)
  rintro e w12 ⟨rfl, b⟩
  have B12 : Hid (Below w.heap.size w w12) := B11.out.trans (b.mono B11.out.size)
  have C12 : Hid (Below w3.heap.size w3 w12) := C11.out.trans (b.mono C11.out.size)
  rw [← HZG.out]
  have G12 : Hid (OwnF w12 w4.heap.size (.slice aG G.length cG) G.length (mkR G)) := OwnF.keepB G11.out b
  clear b B11 C11 G11 RF11
  go_wp2_with fail
  refine (Calls.mono (toReT_any P ao cap _ HS.out (ResAt.keepB HA.out B12.out)) ?_)
  rintro e w13 ⟨vQ, rfl, ox, b⟩
  have B13 : Hid (Below w.heap.size w w13) := B12.out.trans (b.mono B12.out.size)
  have C13 : Hid (Below w3.heap.size w3 w13) := C12.out.trans (b.mono C12.out.size)
  obtain ⟨aQ, cQ, rfl, hcQ, rQ⟩ := formC ox
  have RQ : Hid (ResAt w13 aQ P) := rQ
  have G13 : Hid (OwnF w13 w4.heap.size (.slice aG G.length cG) G.length (mkR G)) := OwnF.keepB G12.out b
  clear rQ ox b B12 C12 G12
  go_wp2_with fail
  refine (Calls.mono (HIM.out _ _ _ hcQ RQ.out) ?_)
  rintro e w14 ⟨vK, rfl, oK, b⟩
  have B14 : Hid (Below w.heap.size w w14) := B13.out.trans (b.mono B13.out.size)
  have C14 : Hid (Below w3.heap.size w3 w14) := C13.out.trans (b.mono C13.out.size)
  have G14 : Hid (OwnF w14 w4.heap.size (.slice aG G.length cG) G.length (mkR G)) := OwnF.keepB G13.out b
  obtain ⟨aK, cK, hvK, rK⟩ := OwnF.res oK
  subst hvK
  have RK : Hid (ResAt w14 aK G) := rK
  clear rK oK b B13 C13 G13 RQ hcQ
  go_wp2_with fail
  refine (Calls.mono (eqReS_any G _ _ _ _ _ HSG.out RK.out (ResAt.keepB RW.out C14.out)) ?_)
  rintro e w15 ⟨rfl, b⟩
  have B15 : Hid (Below w.heap.size w w15) := B14.out.trans (b.mono B14.out.size)
  have C15 : Hid (Below w3.heap.size w3 w15) := C14.out.trans (b.mono C14.out.size)
  have G15 : Hid (OwnF w15 w4.heap.size (.slice aG G.length cG) G.length (mkR G)) := OwnF.keepB G14.out b
  clear b B14 C14 G14 RK
  obtain ⟨aG', cG', hvG', rG'⟩ := OwnF.form G15.out
  simp only [Value.slice.injEq, true_and] at hvG'
  obtain ⟨rfl, rfl⟩ := hvG'
  have RF15 : Hid (ReF w15 aG G.length (mkR G)) := rG'
  clear rG'
  go_wp2_with fail
  refine (Calls.mono (heldR_any G _ _ _ HSG.out RF15.out) ?_)
  rintro e w16 ⟨rfl, b⟩
  have B16 : Hid (Below w.heap.size w w16) := B15.out.trans (b.mono B15.out.size)
  have C16 : Hid (Below w3.heap.size w3 w16) := C15.out.trans (b.mono C15.out.size)
  rw [← HZG.out]
  have G16 : Hid (OwnF w16 w4.heap.size (.slice aG G.length cG) G.length (mkR G)) := OwnF.keepB G15.out b
  clear b B15 C15 G15 RF15
  go_wp2
  go_ret
  exact ⟨rfl, B16.out⟩
set_option maxRecDepth 100000 in
set_option maxHeartbeats 1000000 in
theorem bigS (P : List Nd) (ao : Option Addr) (cap : Nat) (w : World) (hA : ResAt w ao P) (hl : P.length ≤ maxLen) (hx : ∀ y ∈ P, y.2.length ≤ maxLen) (hs : 1048576 < szP P) :
    Calls Try.prog 6 #[.slice ao P.length cap] w fun e w' => e = .returned (.bool true) ∧ Below w.heap.size w w' := by
  have HSZ : Hid _ := szReS_any P ao cap w hl hx hA
  clear hA hl hx
  go_enter Try.func6, Try.ntmps6
  go_wp2_with fail
  refine Calls.mono HSZ.out ?_
  rintro e w1 ⟨hs1, b⟩
  obtain rfl : e = .returned (.int .i64 (-1)) := by
    rcases hs1 with ⟨h, -⟩ | ⟨-, h⟩
    · omega
    · exact h
  clear hs1
  go_wp2
  go_ret
  exact ⟨rfl, b⟩
def answer (P : List Nd) : List Nd := ansT tidyT P
def flag (P : List Nd) : Bool := goodP P
theorem answer_sz (P : List Nd) (hs : szP P ≤ 1048576) : szP (answer P) ≤ 1048576 := by
  unfold answer
  cases hg : goodP P with
  | false => rw [ansT_no hg]; decide
  | true =>
    have h1 := hg
    unfold goodP at h1
    simp only [Bool.and_eq_true, decide_eq_true_eq] at h1
    obtain ⟨t, ht⟩ := (oneP_tree P).1 h1.2
    rw [ansT_yes hg ht]
    refine Nat.le_trans (tidy_sz _) ?_
    rw [(tree_of ht).2]
    exact hs
theorem walk (P : List Nd) (ao : Option Addr) (cap : Nat) (w : World) (hA : ResAt w ao P) (hl : P.length ≤ maxLen) (hx : ∀ y ∈ P, y.2.length ≤ maxLen) :
    Calls Try.prog 6 #[.slice ao P.length cap] w fun e w' => e = .returned (.bool true) ∧ Below w.heap.size w w' := by
  by_cases hs : szP P ≤ 1048576
  · exact core P (answer P) (flag P) ao cap w hA hl hx hs (answer_sz P hs) (fun w ao cap hc h => stidyRe_any P ao cap w hc hs h) (fun w ao cap hc h => itidyRe_any P ao cap w hs h (tidy_ansLen' P))
  · exact bigS P ao cap w hA hl hx (by omega)
set_option maxRecDepth 100000 in
theorem lifted (os : Os) (started : os.Started) (H : Type) (enc : TypeId × Value → H) :
    ReturnsInHanded {} Try.checked os 6 .any (Rows.fnExactTidyReSpec.pre6 enc Try.prog Try.f6 Rows.fnExactTidyReRow.domain false) (Rows.fnExactTidyReSpec.post enc Try.prog Try.f6 false true false false) := by
  refine returnsInHanded_of_change (C := Try.checked) own started (by kernel_rfl) Try.func6
    (ChangeSpec.witness6 (enc := enc) (C := Try.checked) false ⟨#[], #[.slice none 0 0], []⟩ 8 (by kernel_rfl) (by kernel_rfl) (by kernel_rfl) (by kernel_rfl)) ?_
  intro W base args ds gs before hval0 hW hcnd _
  have hval : ∀ (j : Nat) t v, Try.f6.params[j]? = some t → args[j]? = some v → Value.okWide Try.prog W .any base t v := hval0
  have hW' := hW
  obtain ⟨p, q, hA0, hV, rfl, hfz, hnd⟩ := hW
  have hA : DataW.TrodAll enc Try.prog W 0 (fun _ => true) true Try.f6.params.toList args.toList ds p := hA0
  rw [Try.params6] at hA hval
  obtain ⟨v0, d0, rfl, rfl, h0⟩ := trodAll_one hA
  obtain ⟨rfl, rfl⟩ := trodVars_none hV
  obtain ⟨a0, len0, cap0, rfl⟩ := okWide_slice Try.underlying39 (hval 0 39 v0 rfl rfl)
  have k0 := h0
  have lt0 : ∀ x ∈ p, x.block < W.heap.size := by obtain ⟨m, hm⟩ := k0; exact DataW.trod_lt m _ _ _ hm
  obtain ⟨P, hP, i0, hm0, hx0⟩ : ∃ P : List Nd, P.length = len0 ∧ ResAt W a0 P ∧ len0 ≤ maxLen ∧ ∀ y ∈ P, y.2.length ≤ maxLen := by obtain ⟨fuel, hf⟩ := h0; exact argRe_of hf
  clear hA0 hval0
  subst hP
  refine (walk P a0 cap0 W i0 hm0 hx0).mono fun e W' ⟨he, bel⟩ => ?_
  subst he
  exact ⟨_, rfl, _, _, _, [], _, [], hW', trodAll_mk1 (shut_bool Try.underlying4 _), trodAll_mk1 (Below.trod laidOut (by kernel_rfl) (of_decide_eq_true (by kernel_rfl)) k0 bel lt0), rfl, bel.frame _, fun h => by cases h⟩
theorem row : Rows.FnExactTidyReSaid :=
  OpenClaim.holds_of_wide 6 Try.f6 rfl rfl rfl rfl rfl rfl rfl ⟨rfl, rfl, rfl, rfl, rfl⟩ rfl rfl rfl rfl rfl (by kernel_rfl) Try.func6 (by kernel_rfl)
    (of_decide_eq_true (by kernel_rfl)) (by unfold Func.isWrapper; first | (rw [if_pos (by decide +kernel)]; kernel_rfl) | (rw [if_neg (by decide +kernel)]; exact ⟨rfl, rfl⟩))
    (fun os started H enc _ => lifted os started H enc)
end LawTidyRe
theorem tidyRe_holds : Rows.FnExactTidyReSaid := LawTidyRe.row
#print axioms tidyRe_holds
end Go.Proofs.Ytendikiflikobaa
