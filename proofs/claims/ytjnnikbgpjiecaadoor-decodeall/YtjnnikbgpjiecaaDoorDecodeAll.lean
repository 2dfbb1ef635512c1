/-
  For every int and text, laws.FnExactDecodeAll returns true: impl.DecodeAll answers as the specification's DecodeAll, lists and flag, in memory of its own that a second call leaves alone. Condition: the two package-level tables of forms hold what the program's text lays in them (tied to the text by the given card).
-/
import Derived.Test.YtjnnikbgpjiecaaDoorFrame
import Derived.Test.YtjnnikbgpjiecaaDoorI2DecA
import Derived.Test.YtjnnikbgpjiecaaDoorMarks2
namespace Go.Proofs.YtjnnikbgpjiecaaDoor
open Go.ChangeShapes Go.WideShapes Go.ChangeAt Go.WideMaps Go.WideElems Go.RowKit
open Go.ChangeMaps (open_string shut_string)
namespace LawDecodeAll
set_option maxRecDepth 100000 in
set_option maxHeartbeats 1000000 in
theorem bigS (en : Int) (s : ByteArray) (w : World) (hb : (1048576 : Int) < s.size) :
    Calls Tryd.prog 8 #[.int .i64 en, .string s] w fun e w' => e = .returned (.bool true) ∧ Below w.heap.size w w' := by
  go_enter Tryd.func8, Tryd.ntmps8
  go_wp2
  go_ret
  exact ⟨rfl, Below.refl _ _⟩
set_option maxRecDepth 100000 in
set_option maxHeartbeats 4000000 in
theorem core (en : Int) (s : ByteArray) (hsI : ¬ (1048576 : Int) < s.size) (w : World) (hT : Tabs w) (ok : Bool) (L1 L2 : List Int) (n1 : L1.length ≤ 3000) (n2 : L2.length ≤ 3000)
    (SP : ∀ w, Calls Tryd.prog 27 #[.int .i64 en, .string s] w fun e w' => ∃ v1 v2, e = .returned (.tuple #[v1, v2, .bool ok]) ∧ Two w.heap.size w' v1 L1 v2 L2 ∧ Below w.heap.size w w')
    (IM : ∀ w, Tabs w → Calls Tryd.prog 25 #[.int .i64 en, .string s] w fun e w' => ∃ v1 v2, e = .returned (.tuple #[v1, v2, .bool ok]) ∧ Two w.heap.size w' v1 L1 v2 L2 ∧ Below w.heap.size w w') :
    Calls Tryd.prog 8 #[.int .i64 en, .string s] w fun e w' => e = .returned (.bool true) ∧ Below w.heap.size w w' := by
  have HT : Hid _ := hT
  have HSP : Hid _ := SP
  have HIM : Hid _ := IM
  have HN1 : Hid (L1.length ≤ 1048576) := by show L1.length ≤ 1048576; omega
  have HN2 : Hid (L2.length ≤ 1048576) := by show L2.length ≤ 1048576; omega
  have hq1 : ¬ (1 + (L1.length : Int)) < 0 := by omega
  have hq2 : ¬ (1 + (L1.length : Int) + (L2.length : Int)) < 0 := by omega
  clear hT SP IM
  have B0 : Hid (Below w.heap.size w w) := Below.refl _ _
  go_enter Tryd.func8, Tryd.ntmps8
  go_wp2_with fail
  refine (HSP.out _).mono ?_
  rintro e w1 ⟨vw1, vw2, rfl, tw, b⟩
  have B1 : Hid (Below w.heap.size w w1) := Below.trans (B0.out) (b.mono (Below.size (B0.out)))
  clear b
  have LW : Hid _ := tw.lies
  obtain ⟨aw1, cw1, aw2, cw2, rfl, rfl⟩ := tw.form
  have TW1 : Hid _ := tw
  clear tw
  go_wp2_with fail
  refine (HIM.out _ (Tabs.below HT.out (B1.out))).mono ?_
  rintro e w2 ⟨vg1, vg2, rfl, tg, b⟩
  have TW2 : Hid _ := Two.below (TW1.out) b
  have B2 : Hid (Below w.heap.size w w2) := Below.trans (B1.out) (b.mono (Below.size (B1.out)))
  clear b
  have LG : Hid _ := tg.lies
  obtain ⟨ag1, cg1, ag2, cg2, rfl, rfl⟩ := tg.form
  have TG2 : Hid _ := tg
  clear tg
  have SZ1 : Hid (w1.heap.size ≤ w1.heap.size) := by
    exact Nat.le_refl _
  go_wp2_with fail
  refine (eq_any L1 _ _ _ _ _ HN1.out (Two.i1 (TG2.out)) (Two.i1 (TW2.out))).mono ?_
  rintro e w3 ⟨rfl, b⟩
  have TW3 : Hid _ := Two.below (TW2.out) b
  have TG3 : Hid _ := Two.below (TG2.out) b
  have B3 : Hid (Below w.heap.size w w3) := Below.trans (B2.out) (b.mono (Below.size (B2.out)))
  clear b
  go_wp2_with fail
  refine (eq_any L2 _ _ _ _ _ HN2.out (Two.i2 (TG3.out)) (Two.i2 (TW3.out))).mono ?_
  rintro e w4 ⟨rfl, b⟩
  have TW4 : Hid _ := Two.below (TW3.out) b
  have TG4 : Hid _ := Two.below (TG3.out) b
  have B4 : Hid (Below w.heap.size w w4) := Below.trans (B3.out) (b.mono (Below.size (B3.out)))
  clear b
  go_wp2_with fail
  refine (mark_c (1) (by omega) (by omega) L1 _ _ _ _ HN1.out (Two.a (TG4.out))).mono ?_
  rintro e w5 ⟨rfl, og, gr⟩
  have TG5 : Hid _ := Two.turn1 (TG4.out) (mk2_len L1 (1) L1.length) og gr
  have TW5 : Hid _ := Two.keep (TW4.out) gr LW.out (fun g h => by have h3 := ((LG.out).a g h).1; have h4 := SZ1.out; omega)
  have B5 : Hid (Below w.heap.size w w5) := Below.grown (B4.out) gr (Below.size (B4.out)) (fun g h => by have h3 := ((LG.out).a g h).1; have h4 := Below.size (B1.out); omega)
  clear og gr
  go_wp2_with fail
  refine (mark_c (1 + (L1.length : Int)) (by omega) (by omega) L2 _ _ _ _ HN2.out (Two.b (TG5.out))).mono ?_
  rintro e w6 ⟨rfl, og, gr⟩
  have TG6 : Hid _ := Two.turn2 (TG5.out) (mk2_len L2 (1 + (L1.length : Int)) L2.length) og gr
  have TW6 : Hid _ := Two.keep (TW5.out) gr LW.out (fun g h => by have h3 := ((LG.out).b g h).1; have h4 := SZ1.out; omega)
  have B6 : Hid (Below w.heap.size w w6) := Below.grown (B5.out) gr (Below.size (B5.out)) (fun g h => by have h3 := ((LG.out).b g h).1; have h4 := Below.size (B1.out); omega)
  clear og gr
  go_wp2_with fail
  refine (held_c 1 (by omega) (by omega) L1 _ _ _ HN1.out (Two.i1 (TG6.out))).mono ?_
  rintro e w7 ⟨rfl, b⟩
  have TW7 : Hid _ := Two.below (TW6.out) b
  have TG7 : Hid _ := Two.below (TG6.out) b
  have B7 : Hid (Below w.heap.size w w7) := Below.trans (B6.out) (b.mono (Below.size (B6.out)))
  clear b
  go_wp2_with fail
  refine (held_c (1 + (L1.length : Int)) (by omega) (by omega) L2 _ _ _ HN2.out (Two.i2 (TG7.out))).mono ?_
  rintro e w8 ⟨rfl, b⟩
  have TW8 : Hid _ := Two.below (TW7.out) b
  have TG8 : Hid _ := Two.below (TG7.out) b
  have B8 : Hid (Below w.heap.size w w8) := Below.trans (B7.out) (b.mono (Below.size (B7.out)))
  clear b
  go_wp2_with fail
  refine (HIM.out _ (Tabs.below HT.out (B8.out))).mono ?_
  rintro e w9 ⟨vh1, vh2, rfl, th, b⟩
  have TW9 : Hid _ := Two.below (TW8.out) b
  have TG9 : Hid _ := Two.below (TG8.out) b
  have B9 : Hid (Below w.heap.size w w9) := Below.trans (B8.out) (b.mono (Below.size (B8.out)))
  clear b
  obtain ⟨ah1, ch1, ah2, ch2, rfl, rfl⟩ := th.form
  have TH9 : Hid _ := th
  clear th
  go_wp2_with fail
  refine (eq_any L1 _ _ _ _ _ HN1.out (Two.i1 (TH9.out)) (Two.i1 (TW9.out))).mono ?_
  rintro e w10 ⟨rfl, b⟩
  have TW10 : Hid _ := Two.below (TW9.out) b
  have TG10 : Hid _ := Two.below (TG9.out) b
  have TH10 : Hid _ := Two.below (TH9.out) b
  have B10 : Hid (Below w.heap.size w w10) := Below.trans (B9.out) (b.mono (Below.size (B9.out)))
  clear b
  go_wp2_with fail
  refine (eq_any L2 _ _ _ _ _ HN2.out (Two.i2 (TH10.out)) (Two.i2 (TW10.out))).mono ?_
  rintro e w11 ⟨rfl, b⟩
  have TW11 : Hid _ := Two.below (TW10.out) b
  have TG11 : Hid _ := Two.below (TG10.out) b
  have TH11 : Hid _ := Two.below (TH10.out) b
  have B11 : Hid (Below w.heap.size w w11) := Below.trans (B10.out) (b.mono (Below.size (B10.out)))
  clear b
  go_wp2_with fail
  refine (held_c 1 (by omega) (by omega) L1 _ _ _ HN1.out (Two.i1 (TG11.out))).mono ?_
  rintro e w12 ⟨rfl, b⟩
  have TG12 : Hid _ := Two.below (TG11.out) b
  have B12 : Hid (Below w.heap.size w w12) := Below.trans (B11.out) (b.mono (Below.size (B11.out)))
  clear b
  go_wp2_with fail
  refine (held_c (1 + (L1.length : Int)) (by omega) (by omega) L2 _ _ _ HN2.out (Two.i2 (TG12.out))).mono ?_
  rintro e w13 ⟨rfl, b⟩
  have TG13 : Hid _ := Two.below (TG12.out) b
  have B13 : Hid (Below w.heap.size w w13) := Below.trans (B12.out) (b.mono (Below.size (B12.out)))
  clear b
  go_wp2
  go_ret
  exact ⟨rfl, B13.out⟩
theorem walk (en : Int) (_hw : (Lit.int .i64 en).wf = true) (s : ByteArray) (_hzs : s.size ≤ maxLen) (w : World) (hT : Tabs w) :
    Calls Tryd.prog 8 #[.int .i64 en, .string s] w fun e w' => e = .returned (.bool true) ∧ Below w.heap.size w w' := by
  by_cases hS : (1048576 : Int) < s.size
  · exact bigS en s w hS
  · cases hc : codeB en
    · exact core en s hS w hT false [] [] (by simp) (by simp)
        (fun w => (decA_bad en s w hc).mono fun e w' ⟨he, hw⟩ => ⟨_, _, he, Two.nil _ _, by rw [hw]; exact Below.refl _ _⟩)
        (fun w hT => (idecA_no en s w hT hc).mono fun e w' ⟨he, hw⟩ => ⟨_, _, he, Two.nil _ _, hw⟩)
    · by_cases hs : s.size ≤ 1000
      · have h := feedD_sizes en 0 0 ⟨#[]⟩ s hs (Nat.zero_le _)
        have hl := flushN_len (unitsB en) (feedD en 0 0 ⟨#[]⟩ s).held.size (feedD en 0 0 ⟨#[]⟩ s).held.size
        exact core en s hS w hT true (decRs en s) (decLs en s) (by unfold decRs; rw [List.length_append, bads_len]; omega) (by unfold decLs; rw [List.length_append]; omega)
          (fun w => decA_yes en s w hc hs) (fun w hT => idecA_yes en s w hT hc hs)
      · exact core en s hS w hT false [] [] (by simp) (by simp)
          (fun w => (decA_long en s w hc hs).mono fun e w' ⟨he, hw⟩ => ⟨_, _, he, Two.nil _ _, by rw [hw]; exact Below.refl _ _⟩)
          (fun w hT => (idecA_long en s w hT hc hs).mono fun e w' ⟨he, hw⟩ => ⟨_, _, he, Two.nil _ _, hw⟩)
set_option maxRecDepth 100000 in
theorem lifted (os : Os) (started : os.Started) (H : Type) (enc : TypeId × Value → H) :
    ReturnsInHanded {} Tryd.checked os 8 .any (fun w args => (Rows.fnExactDecodeAllSpec.pre enc Tryd.prog Tryd.f8 [] false w args ∧ laidMetH Tryd.prog laid2 w) ∧ sizedMet enc Tryd.prog Tryd.f8 (OpenSpec.ofChange Rows.fnExactDecodeAllSpec) false w args)
      (Rows.fnExactDecodeAllSpec.post enc Tryd.prog Tryd.f8 false true false false) := by
  refine returnsInHanded_of_change_and (C := Tryd.checked) (X := fun w _ => laidMetH Tryd.prog laid2 w) (fun _ _ _ hh h => h.of_heap hh) own started (by kernel_rfl) Tryd.func8
    (ChangeSpec.witness_shaped (enc := enc) (C := Tryd.checked) (os := os) (X := fun w _ => laidMetH Tryd.prog laid2 w) false (World.doorLaid Tryd.prog 400 os) #[.int .i64 0, .string ByteArray.empty] 8 rfl (World.shaped_of_RefB (by kernel_rfl) (by kernel_rfl)) (by kernel_rfl) (by kernel_rfl) (by kernel_rfl) (door_met os _)) ?_
  intro W base args ds gs before hval0 hW _ _ hL _
  have hval : ∀ (j : Nat) t v, Tryd.f8.params[j]? = some t → args[j]? = some v → Value.okWide Tryd.prog W .any base t v := hval0
  have hW' := hW
  obtain ⟨p, q, hA0, hV0, rfl, hfz, hnd⟩ := hW
  have hA : DataW.TrodAll enc Tryd.prog W 0 (fun _ => true) true Tryd.f8.params.toList args.toList ds p := hA0
  have hV : DataW.TrodVars enc Tryd.prog W (fun _ => true) vars2 gs q := hV0
  rw [Tryd.params8] at hA hval
  obtain ⟨v0, v1, d0, d1, p0, p1, rfl, rfl, rfl, h0, h1⟩ := trodAll_two hA
  obtain ⟨x0, rfl, rfl, rfl, w0⟩ := open_int Tryd.underlying3 (hval 0 3 v0 rfl rfl) h0
  obtain ⟨x1, rfl, rfl, rfl, w1⟩ := open_string Tryd.underlying9 (hval 1 9 v1 rfl rfl) h1
  obtain ⟨g, t, cs, fuel, d, q1, g', t', cs', fuel', d', q2, rfl, _⟩ := trodVars_two hV
  clear hA0 hval0
  refine (walk x0 w0 x1 w1 W (tabs_of_laid hL)).mono fun e W' ⟨he, bel⟩ => ?_
  subst he
  exact ⟨_, rfl, _, _, _, [], [], q, hW', trodAll_mk1 (shut_bool Tryd.underlying4 _), trodAll_mk2 (shut_int Tryd.underlying3 w0) (shut_string Tryd.underlying9 w1), bel.trodVars laidOut (by kernel_rfl) hV, bel.frame _, fun h => by cases h⟩
theorem row : Rows.FnExactDecodeAllSaid :=
  OpenClaim.holds_of_wide 8 Tryd.f8 rfl rfl rfl rfl rfl rfl rfl ⟨rfl, rfl, rfl, rfl, rfl⟩ rfl rfl rfl rfl rfl (by kernel_rfl) Tryd.func8 (by kernel_rfl)
    (of_decide_eq_true (by kernel_rfl)) (by unfold Func.isWrapper; first | (rw [if_pos (by decide +kernel)]; kernel_rfl) | (rw [if_neg (by decide +kernel)]; exact ⟨rfl, rfl⟩))
    (fun os started H enc _ => lifted os started H enc)
end LawDecodeAll
theorem decodeAll_card : Rows.FnExactDecodeAllCardSaid :=
  Claim7.holds_tied_plain_at .later [] [.data, .data] true Rows.fnExactDecodeAllCard.stood.harness Rows.fnExactDecodeAllCard.stood.looks
    LawDecodeAll.row (fun _ h => by cases h) (by kernel_rfl) (fun _ h => by cases h) fnExactDecodeAll_row_tie rfl ⟨rfl, rfl⟩ (by kernel_rfl) rfl
    (fun f fn hf hfn => by
      obtain rfl : f = 8 := Option.some.inj ((show Tryd.prog.funcNamed "loop.example/g00692/laws.FnExactDecodeAll" = some 8 by kernel_rfl).symm.trans hf) |>.symm
      obtain rfl : fn = Tryd.f8 := (Option.some.inj (Tryd.func8.symm.trans hfn)).symm
      exact ⟨by kernel_rfl, fun j t ht => by
        rw [Tryd.params8] at ht
        have hm : t ∈ [3, 9] := by simpa using Array.mem_of_getElem? ht
        have hall : ([3, 9].all fun u => !Tryd.prog.wantsStandIn u) = true := by kernel_rfl
        exact (show Tryd.prog.wantsStandIn t = false by simpa using List.all_eq_true.1 hall t hm)⟩)
    (by kernel_rfl)
#print axioms decodeAll_card
end Go.Proofs.YtjnnikbgpjiecaaDoor
