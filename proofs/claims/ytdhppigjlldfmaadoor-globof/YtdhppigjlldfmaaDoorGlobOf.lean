/-
  For every list of ints, laws.FnExactGlobOf returns true: impl.GlobOf answers as the specification's GlobOf, text and flag, and leaves its argument as it was. Condition: the two package-level tables of forms hold what the program's text lays in them (tied to the text by the given card).
-/
import Derived.Test.YtdhppigjlldfmaaDoorG9B
import Derived.Test.YtdhppigjlldfmaaDoorFrame
import Derived.Test.YtdhppigjlldfmaaDoorEq
import Derived.ChangeOld
namespace Go.Proofs.YtdhppigjlldfmaaDoor
open Go.ChangeShapes Go.WideShapes Go.ChangeAt Go.WideMaps Go.WideElems Go.RowKit
namespace LawGlobOf
set_option maxRecDepth 100000 in
set_option maxHeartbeats 2000000 in
theorem walk (L : List Int) (ao : Option Addr) (cap : Nat) (w : World) (hA : IntsAt w ao L) (hT : Tabs w) :
    Calls Tryd.prog 3 #[.slice ao L.length cap] w fun e w' => e = .returned (.bool true) ∧ Below w.heap.size w w' := by
  by_cases hbig : (1048576 : Int) < L.length
  · clear hT hA
    go_enter Tryd.func3, Tryd.ntmps3
    go_wp2
    go_ret
    exact ⟨rfl, Below.refl _ _⟩
  · have HT : Hid _ := hT
    have HA : Hid _ := hA
    have HL : Hid (L.length ≤ 1048576) := by show L.length ≤ 1048576; omega
    clear hT hA
    go_enter Tryd.func3, Tryd.ntmps3
    go_wp2_with fail
    refine (toI_any L _ _ _ HL.out HA.out).mono ?_
    rintro e w1 ⟨v1, rfl, o1, b1⟩
    have B1 : Hid _ := b1
    obtain ⟨_, a1, c1, rfl, i1⟩ := ints_of_own o1
    have I1 : Hid _ := i1
    clear o1 b1 i1
    go_wp2_with fail
    refine (sglobOf_any L _ _ _ HL.out I1.out).mono ?_
    rintro e w2 ⟨rfl, b2⟩
    have B2 : Hid (Below w.heap.size w w2) := Below.trans B1.out (b2.mono (Below.size B1.out))
    clear b2 I1
    go_wp2_with fail
    refine (toI_any L _ _ _ HL.out (IntsAt.below HA.out B2.out)).mono ?_
    rintro e w3 ⟨v3, rfl, o3, b3⟩
    have B3 : Hid (Below w.heap.size w w3) := Below.trans B2.out (b3.mono (Below.size B2.out))
    obtain ⟨_, a3, c3, rfl, i3⟩ := ints_of_own o3
    have I3 : Hid _ := i3
    clear o3 b3 i3
    go_wp2_with fail
    refine (iglobOf_any L _ _ _ I3.out (Tabs.below HT.out B3.out)).mono ?_
    rintro e w4 ⟨rfl, b4⟩
    have B4 : Hid (Below w.heap.size w w4) := Below.trans B3.out (b4.mono (Below.size B3.out))
    have I4 : Hid _ := IntsAt.below I3.out b4
    clear b4
    generalize gS L = ts at *
    generalize gB L = tb at *
    cases tb
    all_goals
      go_wp2_with fail
      refine (toI_any L _ _ _ HL.out (IntsAt.below HA.out B4.out)).mono ?_
      rintro e w5 ⟨v5, rfl, o5, b5⟩
      have B5 : Hid (Below w.heap.size w w5) := Below.trans B4.out (b5.mono (Below.size B4.out))
      have I4' : Hid _ := IntsAt.below I4.out b5
      obtain ⟨_, a5, c5, rfl, i5⟩ := ints_of_own o5
      have I5 : Hid _ := i5
      clear o5 b5 i5
      go_wp2_with fail
      refine (eq_any L _ _ _ _ _ HL.out I4'.out I5.out).mono ?_
      rintro e w6 ⟨rfl, b6⟩
      have B6 : Hid (Below w.heap.size w w6) := Below.trans B5.out (b6.mono (Below.size B5.out))
      clear b6
      go_wp2
      go_ret
      exact ⟨rfl, B6.out⟩
set_option maxRecDepth 100000 in
theorem lifted (os : Os) (started : os.Started) (H : Type) (enc : TypeId × Value → H) :
    ReturnsInHanded {} Tryd.checked os 3 .any (fun w args => (Rows.fnExactGlobOfSpec.pre enc Tryd.prog Tryd.f3 [] false w args ∧ laidMetH Tryd.prog laid2 w) ∧ sizedMet enc Tryd.prog Tryd.f3 (OpenSpec.ofChange Rows.fnExactGlobOfSpec) false w args)
      (Rows.fnExactGlobOfSpec.post enc Tryd.prog Tryd.f3 false true false false) := by
  refine returnsInHanded_of_change_and (C := Tryd.checked) (X := fun w _ => laidMetH Tryd.prog laid2 w) (fun _ _ _ hh h => h.of_heap hh) own started (by kernel_rfl) Tryd.func3
    (ChangeSpec.witness_shaped (enc := enc) (C := Tryd.checked) (os := os) (X := fun w _ => laidMetH Tryd.prog laid2 w) false (World.doorLaid Tryd.prog 400 os) #[.slice none 0 0] 8 rfl (World.shaped_of_RefB (by kernel_rfl) (by kernel_rfl)) (by kernel_rfl) (by kernel_rfl) (by kernel_rfl) (door_met os _)) ?_
  intro W base args ds gs before hval0 hW _ _ hL _
  have hval : ∀ (j : Nat) t v, Tryd.f3.params[j]? = some t → args[j]? = some v → Value.okWide Tryd.prog W .any base t v := hval0
  have hW' := hW
  obtain ⟨p, q, hA0, hV0, rfl, hfz, hnd⟩ := hW
  have hA : DataW.TrodAll enc Tryd.prog W 0 (fun _ => true) true Tryd.f3.params.toList args.toList ds p := hA0
  have hV : DataW.TrodVars enc Tryd.prog W (fun _ => true) vars2 gs q := hV0
  rw [Tryd.params3] at hA hval
  obtain ⟨v0, vs0, d0, ds0, p0, q0, hargs, rfl, rfl, h0, r0⟩ := trodAll_cons hA
  obtain ⟨rfl, rfl, rfl⟩ := trodAll_nil r0
  obtain rfl : args = #[v0] := by cases args; simp_all
  obtain ⟨g, t, cs, fuel, d, q1, g', t', cs', fuel', d', q2, rfl, _⟩ := trodVars_two hV
  obtain ⟨a0, len0, cap0, rfl⟩ := okWide_slice Tryd.underlying22 (hval 0 22 v0 rfl rfl)
  have k0 := h0
  have lt0 : ∀ x ∈ p0, x.block < W.heap.size := by obtain ⟨m, hm⟩ := k0; exact DataW.trod_lt m _ _ _ hm
  obtain ⟨L, hlen, hI⟩ : ∃ L : List Int, len0 = L.length ∧ IntsAt W a0 L := by
    obtain ⟨fuel, hf⟩ := h0
    rcases open_ints Tryd.underlying22 Tryd.underlying3 (by kernel_rfl) hf with ⟨hcs, _⟩ | ⟨x, l, c, zs, hcs, _, hl, hm, hz, _, hcell, hwz⟩
    · simp [Value.cells] at hcs
      obtain ⟨rfl, rfl, rfl⟩ := hcs
      exact ⟨[], rfl, fun j hj => absurd hj (by simp)⟩
    · simp [Value.cells] at hcs
      obtain ⟨rfl, rfl, rfl⟩ := hcs
      have hz' : zs.length = cap0 := by simpa using hz
      refine ⟨zs.take len0, by rw [List.length_take]; omega, fun j hj => ?_⟩
      rw [List.length_take] at hj
      obtain ⟨b, off, rfl, hc⟩ := ints_at hcell (by omega)
      have hcj := hc j (by omega)
      refine ⟨b, off, rfl, World.block_lt_of_cell? W _ hcj, ?_⟩
      have e : (zs.take len0).getD j 0 = zs.getD j 0 := by simp [List.getD, show j < len0 by omega]
      rw [e]
      exact hcj
  subst hlen
  clear hA0 hval0
  refine (walk L a0 cap0 W hI (tabs_of_laid hL)).mono fun e W' ⟨he, bel⟩ => ?_
  subst he
  exact ⟨_, rfl, _, _, _, [], _, q, hW', trodAll_mk1 (shut_bool Tryd.underlying4 _), (trodAll_cons_mk (Below.trod laidOut (by kernel_rfl) (of_decide_eq_true (by kernel_rfl)) k0 bel lt0) trodAll_mk0), bel.trodVars laidOut (by kernel_rfl) hV, bel.frame _, fun h => by cases h⟩
theorem row : Rows.FnExactGlobOfSaid :=
  OpenClaim.holds_of_wide 3 Tryd.f3 rfl rfl rfl rfl rfl rfl rfl ⟨rfl, rfl, rfl, rfl, rfl⟩ rfl rfl rfl rfl rfl (by kernel_rfl) Tryd.func3 (by kernel_rfl)
    (of_decide_eq_true (by kernel_rfl)) (by unfold Func.isWrapper; first | (rw [if_pos (by decide +kernel)]; kernel_rfl) | (rw [if_neg (by decide +kernel)]; exact ⟨rfl, rfl⟩))
    (fun os started H enc _ => lifted os started H enc)
end LawGlobOf
theorem globOf_card : Rows.FnExactGlobOfCardSaid :=
  Claim7.holds_tied_plain_at .later [] [.data, .data] true Rows.fnExactGlobOfCard.stood.harness false
    LawGlobOf.row (fun _ h => by cases h) (by kernel_rfl) (fun _ h => by cases h) fnExactGlobOf_row_tie rfl ⟨rfl, rfl⟩ (by kernel_rfl) rfl
    (fun f fn hf hfn => by
      obtain rfl : f = 3 := Option.some.inj ((show Tryd.prog.funcNamed "loop.example/g00692/laws.FnExactGlobOf" = some 3 by kernel_rfl).symm.trans hf) |>.symm
      obtain rfl : fn = Tryd.f3 := (Option.some.inj (Tryd.func3.symm.trans hfn)).symm
      exact ⟨by kernel_rfl, fun j t ht => by
        rw [Tryd.params3] at ht
        have hm : t ∈ [22] := by simpa using Array.mem_of_getElem? ht
        have hall : ([22].all fun u => !Tryd.prog.wantsStandIn u) = true := by kernel_rfl
        exact (show Tryd.prog.wantsStandIn t = false by simpa using List.all_eq_true.1 hall t hm)⟩)
    (by kernel_rfl)
#print axioms globOf_card
end Go.Proofs.YtdhppigjlldfmaaDoor
