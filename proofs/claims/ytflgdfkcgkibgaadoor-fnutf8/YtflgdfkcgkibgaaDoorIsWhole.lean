/-
  For every text, laws.FnExactIsWhole returns true: impl.IsWhole answers as the specification's IsWhole. Condition: the two package-level tables of forms hold what the program's text lays in them (tied to the text by the given card).
-/
import Derived.Test.YtflgdfkcgkibgaaDoorFrame
import Derived.Test.YtflgdfkcgkibgaaDoorTof
namespace Go.Proofs.YtflgdfkcgkibgaaDoor
open Go.ChangeShapes Go.WideShapes Go.ChangeAt Go.WideMaps Go.WideElems Go.RowKit
open Go.ChangeMaps (open_string shut_string)
set_option maxRecDepth 100000 in
set_option maxHeartbeats 1000000 in
theorem swhole_any (s : ByteArray) (w : World) (hs : s.size ≤ 1000) :
    Calls Tryd.prog 22 #[.string s] w fun e w' => e = .returned (.bool ((textS (runes s)).toList == s.toList)) ∧ Below w.heap.size w w' := by
  have HT : Hid (decide ((s.size : Int) ≤ 1000) = true) := decide_eq_true (by omega)
  have HS : Hid _ := hs
  have HLn : Hid ((runes s).length ≤ 1048576) := by have := runes_len s; show (runes s).length ≤ 1048576; omega
  have HG : Hid _ := runes_good s
  clear hs
  go_enter Tryd.func22, Tryd.ntmps22
  go_wp2_with fail
  refine (text_any s _).mono ?_
  rintro e w1 ⟨rfl, rfl⟩
  rw [HT.out]
  go_wp2_with fail
  refine (runes_any s _ HS.out).mono ?_
  rintro e w2 ⟨v, rfl, hown, hb⟩
  obtain ⟨_, ao, cap, rfl, hA⟩ := ints_of_own hown
  have HA : Hid _ := hA
  have HB : Hid _ := hb
  clear hA hown hb
  go_wp2_with fail
  refine (text_of_any (runes s) _ _ _ HLn.out HG.out HA.out).mono ?_
  rintro e w3 ⟨rfl, b3⟩
  go_wp2
  go_ret
  exact ⟨rfl, Below.trans HB.out (b3.mono (Below.size HB.out))⟩
set_option maxRecDepth 100000 in
set_option maxHeartbeats 1000000 in
theorem swhole_big (s : ByteArray) (w : World) (hs : (1000 : Int) < s.size) :
    Calls Tryd.prog 22 #[.string s] w fun e w' => e = .returned (.bool false) ∧ Below w.heap.size w w' := by
  have HT : Hid (decide ((s.size : Int) ≤ 1000) = false) := decide_eq_false (by omega)
  go_enter Tryd.func22, Tryd.ntmps22
  go_wp2_with fail
  refine (text_any s _).mono ?_
  rintro e w1 ⟨rfl, rfl⟩
  rw [HT.out]
  go_wp2
  go_ret
  exact ⟨rfl, Below.refl _ _⟩
set_option maxRecDepth 100000 in
set_option maxHeartbeats 1000000 in
theorem iwhole_big (s : ByteArray) (w : World) (hs : (1000 : Int) < s.size) :
    Calls Tryd.prog 17 #[.string s] w fun e w' => e = .returned (.bool false) ∧ Below w.heap.size w w' := by
  have HS : Hid _ := hs
  clear hs
  go_enter Tryd.func17, Tryd.ntmps17
  go_wp2_with fail
  refine (irunes_big s _ HS.out).mono ?_
  rintro e w1 ⟨rfl, rfl⟩
  go_wp2
  go_ret
  exact ⟨rfl, Below.refl _ _⟩
theorem toList_inj {a b : ByteArray} (h : a.toList = b.toList) : a.size = b.size := by
  rw [Lib.toList_data, Lib.toList_data] at h
  have := congrArg List.length h
  simpa using this
set_option maxRecDepth 100000 in
set_option maxHeartbeats 1000000 in
theorem iwhole_any (s : ByteArray) (w : World) (hs : s.size ≤ 1000) (hT : Tabs w) :
    Calls Tryd.prog 17 #[.string s] w fun e w' => e = .returned (.bool ((textS (runes s)).toList == s.toList)) ∧ Below w.heap.size w w' := by
  have HS : Hid _ := hs
  have HLn : Hid ((runes s).length ≤ 1000) := by have := runes_len s; show (runes s).length ≤ 1000; omega
  have HT : Hid _ := hT
  have hall : allG (runes s) = true := List.all_eq_true.2 (runes_good s)
  by_cases ht : (textB (runes s)).length ≤ 1000
  · have hy : tB (runes s) = true := by unfold tB; rw [hall, decide_eq_true HLn.out, decide_eq_true ht]; rfl
    have HY : Hid _ := hy
    have HY2 : Hid _ := tS_yes hy
    clear hs hT hall ht hy
    go_enter Tryd.func17, Tryd.ntmps17
    go_wp2_with fail
    refine (irunes_any s _ HS.out).mono ?_
    rintro e w2 ⟨v, rfl, hown, hb⟩
    obtain ⟨_, ao, cap, rfl, hA⟩ := ints_of_own hown
    have HA : Hid _ := hA
    have HB : Hid _ := hb
    clear hA hown hb
    go_wp2_with fail
    refine (itext_any (runes s) _ _ _ HLn.out HA.out (Tabs.below HT.out HB.out)).mono ?_
    rintro e w3 ⟨rfl, b3⟩
    rw [HY.out, HY2.out]
    go_wp2
    go_ret
    exact ⟨rfl, Below.trans HB.out (b3.mono (Below.size HB.out))⟩
  · have hn : tB (runes s) = false := by unfold tB; rw [decide_eq_false ht, Bool.and_false]
    have HN : Hid _ := hn
    have HN2 : Hid _ := tS_no hn
    have hf : ((textS (runes s)).toList == s.toList) = false := by
      rw [beq_eq_false_iff_ne]
      intro h
      have := toList_inj h
      rw [textS_size] at this
      omega
    rw [hf]
    clear hs hT hall ht hn hf
    go_enter Tryd.func17, Tryd.ntmps17
    go_wp2_with fail
    refine (irunes_any s _ HS.out).mono ?_
    rintro e w2 ⟨v, rfl, hown, hb⟩
    obtain ⟨_, ao, cap, rfl, hA⟩ := ints_of_own hown
    have HA : Hid _ := hA
    have HB : Hid _ := hb
    clear hA hown hb
    go_wp2_with fail
    refine (itext_any (runes s) _ _ _ HLn.out HA.out (Tabs.below HT.out HB.out)).mono ?_
    rintro e w3 ⟨rfl, b3⟩
    rw [HN.out, HN2.out]
    go_wp2
    go_ret
    exact ⟨rfl, Below.trans HB.out (b3.mono (Below.size HB.out))⟩
namespace LawIsWhole
/-- Both answer the same. -/
theorem both (s : ByteArray) : ∃ B : Bool, (∀ w, Calls Tryd.prog 22 #[.string s] w fun e w' => e = .returned (.bool B) ∧ Below w.heap.size w w') ∧
    (∀ w, Tabs w → Calls Tryd.prog 17 #[.string s] w fun e w' => e = .returned (.bool B) ∧ Below w.heap.size w w') := by
  by_cases hs : s.size ≤ 1000
  · exact ⟨_, fun w => swhole_any s w hs, fun w hT => iwhole_any s w hs hT⟩
  · exact ⟨false, fun w => swhole_big s w (by omega), fun w _ => iwhole_big s w (by omega)⟩
set_option maxRecDepth 100000 in
set_option maxHeartbeats 1000000 in
theorem walk (s : ByteArray) (_hz : s.size ≤ maxLen) (w : World) (hT : Tabs w) :
    Calls Tryd.prog 8 #[.string s] w fun e w' => e = .returned (.bool true) ∧ Below w.heap.size w w' := by
  by_cases hbig : (1048576 : Int) < s.size
  · clear hT
    go_enter Tryd.func8, Tryd.ntmps8
    go_wp2
    go_ret
    exact ⟨rfl, Below.refl _ _⟩
  · have HT : Hid _ := hT
    obtain ⟨B, h1, h2⟩ := both s
    have H1 : Hid _ := h1
    have H2 : Hid _ := h2
    clear hT h1 h2
    cases B
    all_goals
      go_enter Tryd.func8, Tryd.ntmps8
      go_wp2_with fail
      refine (H1.out _).mono ?_
      rintro e w1 ⟨rfl, hb1⟩
      go_wp2_with fail
      refine (H2.out _ (HT.out.below hb1)).mono ?_
      rintro e w2 ⟨rfl, hb2⟩
      go_wp2
      go_ret
      exact ⟨rfl, hb1.trans (hb2.mono hb1.size)⟩
set_option maxRecDepth 100000 in
theorem lifted (os : Os) (started : os.Started) (H : Type) (enc : TypeId × Value → H) :
    ReturnsInHanded {} Tryd.checked os 8 .any (fun w args => (Rows.fnExactIsWholeSpec.pre enc Tryd.prog Tryd.f8 [] false w args ∧ laidMetH Tryd.prog laid2 w) ∧ sizedMet enc Tryd.prog Tryd.f8 (OpenSpec.ofChange Rows.fnExactIsWholeSpec) false w args)
      (Rows.fnExactIsWholeSpec.post enc Tryd.prog Tryd.f8 false true false false) := by
  refine returnsInHanded_of_change_and (C := Tryd.checked) (X := fun w _ => laidMetH Tryd.prog laid2 w) (fun _ _ _ hh h => h.of_heap hh) own started (by kernel_rfl) Tryd.func8
    (ChangeSpec.witness_shaped (enc := enc) (C := Tryd.checked) (os := os) (X := fun w _ => laidMetH Tryd.prog laid2 w) false (World.doorLaid Tryd.prog 400 os) #[.string ByteArray.empty] 8 rfl (World.shaped_of_RefB (by kernel_rfl) (by kernel_rfl)) (by kernel_rfl) (by kernel_rfl) (by kernel_rfl) (door_met os _)) ?_
  intro W base args ds gs before hval0 hW _ _ hL _
  have hval : ∀ (j : Nat) t v, Tryd.f8.params[j]? = some t → args[j]? = some v → Value.okWide Tryd.prog W .any base t v := hval0
  have hW' := hW
  obtain ⟨p, q, hA0, hV0, rfl, hfz, hnd⟩ := hW
  have hA : DataW.TrodAll enc Tryd.prog W 0 (fun _ => true) true Tryd.f8.params.toList args.toList ds p := hA0
  have hV : DataW.TrodVars enc Tryd.prog W (fun _ => true) vars2 gs q := hV0
  rw [Tryd.params8] at hA hval
  obtain ⟨v0, d0, rfl, rfl, h0⟩ := trodAll_one hA
  obtain ⟨x0, rfl, rfl, rfl, w0⟩ := open_string Tryd.underlying9 (hval 0 9 v0 rfl rfl) h0
  obtain ⟨g, t, cs, fuel, d, q1, g', t', cs', fuel', d', q2, rfl, _⟩ := trodVars_two hV
  clear hA0 hval0
  refine (walk x0 w0 W (tabs_of_laid hL)).mono fun e W' ⟨he, bel⟩ => ?_
  subst he
  exact ⟨_, rfl, _, _, _, [], [], q, hW', trodAll_mk1 (shut_bool Tryd.underlying4 _), trodAll_mk1 (shut_string Tryd.underlying9 w0), bel.trodVars laidOut (by kernel_rfl) hV, bel.frame _, fun h => by cases h⟩
theorem row : Rows.FnExactIsWholeSaid :=
  OpenClaim.holds_of_wide 8 Tryd.f8 rfl rfl rfl rfl rfl rfl rfl ⟨rfl, rfl, rfl, rfl, rfl⟩ rfl rfl rfl rfl rfl (by kernel_rfl) Tryd.func8 (by kernel_rfl)
    (of_decide_eq_true (by kernel_rfl)) (by unfold Func.isWrapper; first | (rw [if_pos (by decide +kernel)]; kernel_rfl) | (rw [if_neg (by decide +kernel)]; exact ⟨rfl, rfl⟩))
    (fun os started H enc _ => lifted os started H enc)
end LawIsWhole
theorem isWhole_card : Rows.FnExactIsWholeCardSaid :=
  Claim7.holds_tied_plain_at .later [] [.data, .data] true Rows.fnExactIsWholeCard.stood.harness false
    LawIsWhole.row (fun _ h => by cases h) (by kernel_rfl) (fun _ h => by cases h) fnExactIsWhole_row_tie rfl ⟨rfl, rfl⟩ (by kernel_rfl) rfl
    (fun f fn hf hfn => by
      obtain rfl : f = 8 := Option.some.inj ((show Tryd.prog.funcNamed "loop.example/g00692/laws.FnExactIsWhole" = some 8 by kernel_rfl).symm.trans hf) |>.symm
      obtain rfl : fn = Tryd.f8 := (Option.some.inj (Tryd.func8.symm.trans hfn)).symm
      exact ⟨by kernel_rfl, fun j t ht => by
        rw [Tryd.params8] at ht
        have hm : t ∈ [9] := by simpa using Array.mem_of_getElem? ht
        have hall : ([9].all fun u => !Tryd.prog.wantsStandIn u) = true := by kernel_rfl
        exact (show Tryd.prog.wantsStandIn t = false by simpa using List.all_eq_true.1 hall t hm)⟩)
    (by kernel_rfl)
#print axioms isWhole_card
end Go.Proofs.YtflgdfkcgkibgaaDoor
