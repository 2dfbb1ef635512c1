/-
  For every decoder, laws.FnExactGoodDecoder returns true: impl.GoodDecoder answers as the specification's GoodDecoder. Condition: the two package-level tables of forms hold what the program's text lays in them (tied to the text by the given card).
-/
import Derived.Test.YtjnnikbgpjiecaaDoorFrameD
import Derived.Test.YtjnnikbgpjiecaaDoorI2Good
import Derived.Test.YtjnnikbgpjiecaaDoorD2Two
namespace Go.Proofs.YtjnnikbgpjiecaaDoor
open Go.ChangeShapes Go.WideShapes Go.ChangeAt Go.WideMaps Go.WideElems Go.RowKit
open Go.ChangeMaps (open_string shut_string)
namespace LawGoodDecoder
set_option maxRecDepth 100000 in
set_option maxHeartbeats 1000000 in
theorem walk (en sh lo : Int) (held : ByteArray) (hz : held.size ≤ maxLen) (w : World) (hT : Tabs w) :
    Calls Tryd.prog 5 #[decV en sh lo held] w fun e w' => e = .returned (.bool true) ∧ Below w.heap.size w w' := by
  have HT : Hid _ := hT
  have HZ : Hid _ := hz
  clear hT hz
  have b0 : Below w.heap.size w (w.alloc (.cells #[.int .i64 en, .int .i64 sh, .int .i64 lo, .string held] 50)) := (Below.refl _ _).alloc (Nat.le_refl _) _
  have D0 := DecAt.new w en sh lo held 50 _ rfl
  by_cases hb : 1048576 < held.size
  · have HB : Hid _ := hb
    clear hb
    go_enter Tryd.func5, Tryd.ntmps5
    go_wp2_with fail
    refine (szDec_big en sh lo held _ HB.out HZ.out).mono ?_
    rintro e w1 ⟨rfl, b1⟩
    go_wp2
    go_ret
    exact ⟨rfl, b0.trans (b1.mono b0.size)⟩
  · have hb' : ¬ (1048576 - (held.size : Int)) < 0 := by omega
    have HB : Hid (held.size ≤ 1048576) := by show held.size ≤ 1048576; omega
    generalize hG : goodD en sh lo held = G
    have HS : Hid (∀ w : World, _) := fun w => gd_any en sh lo held w
    have HI : Hid (∀ w : World, Tabs w → _) := fun w hT => igd_any en sh lo held w hT
    rw [hG] at HS HI
    clear hb hG
    cases G
    all_goals
      go_enter Tryd.func5, Tryd.ntmps5
      go_wp2_with fail
      refine (szDec_yes en sh lo held _ HB.out).mono ?_
      rintro e w1 ⟨rfl, b1⟩
      have D1 := D0.below b1
      replace b1 := b0.trans (b1.mono b0.size)
      clear D0 b0
      obtain ⟨c0, c1, c2, c3, -, -⟩ := id D1
      go_wp2_with fail
      refine (toDec_any en sh lo held _).mono ?_
      rintro e w2 ⟨rfl, b2⟩
      have D2 := D1.below b2
      replace b2 := b1.trans (b2.mono b1.size)
      clear D1 b1 c0 c1 c2 c3
      go_wp2_with fail
      refine (HS.out _).mono ?_
      rintro e w3 ⟨rfl, b3⟩
      have D3 := D2.below b3
      replace b3 := b2.trans (b3.mono b2.size)
      clear D2 b2
      obtain ⟨c0, c1, c2, c3, -, -⟩ := D3
      go_wp2_with fail
      refine (toDec_any en sh lo held _).mono ?_
      rintro e w4 ⟨rfl, b4⟩
      replace b4 := b3.trans (b4.mono b3.size)
      clear c0 c1 c2 c3 b3
      go_wp2_with fail
      refine (HI.out _ (HT.out.below b4)).mono ?_
      rintro e w5 ⟨rfl, b5⟩
      replace b5 := b4.trans (b5.mono b4.size)
      go_wp2
      go_ret
      exact ⟨rfl, b5⟩
set_option maxRecDepth 100000 in
theorem lifted (os : Os) (started : os.Started) (H : Type) (enc : TypeId × Value → H) :
    ReturnsInHanded {} Tryd.checked os 5 .any (fun w args => (Rows.fnExactGoodDecoderSpec.pre enc Tryd.prog Tryd.f5 [] false w args ∧ laidMetH Tryd.prog laid2 w) ∧ sizedMet enc Tryd.prog Tryd.f5 (OpenSpec.ofChange Rows.fnExactGoodDecoderSpec) false w args)
      (Rows.fnExactGoodDecoderSpec.post enc Tryd.prog Tryd.f5 false true false false) := by
  refine returnsInHanded_of_change_and (C := Tryd.checked) (X := fun w _ => laidMetH Tryd.prog laid2 w) (fun _ _ _ hh h => h.of_heap hh) own started (by kernel_rfl) Tryd.func5
    (ChangeSpec.witness_shaped (enc := enc) (C := Tryd.checked) (os := os) (X := fun w _ => laidMetH Tryd.prog laid2 w) false (World.doorLaid Tryd.prog 400 os) #[decV 0 0 0 ByteArray.empty] 8 rfl (World.shaped_of_RefB (by kernel_rfl) (by kernel_rfl)) (by kernel_rfl) (by kernel_rfl) (by kernel_rfl) (door_met os _)) ?_
  intro W base args ds gs before hval0 hW _ _ hL _
  have hval : ∀ (j : Nat) t v, Tryd.f5.params[j]? = some t → args[j]? = some v → Value.okWide Tryd.prog W .any base t v := hval0
  have hW' := hW
  obtain ⟨p, q, hA0, hV0, rfl, hfz, hnd⟩ := hW
  have hA : DataW.TrodAll enc Tryd.prog W 0 (fun _ => true) true Tryd.f5.params.toList args.toList ds p := hA0
  have hV : DataW.TrodVars enc Tryd.prog W (fun _ => true) vars2 gs q := hV0
  rw [Tryd.params5] at hA hval
  obtain ⟨v0, d0, rfl, rfl, h0⟩ := trodAll_one hA
  obtain ⟨en, sh, lo, held, rfl, rfl, rfl, wa, wb, wc, wd⟩ := open_dec (hval 0 50 v0 rfl rfl) h0
  obtain ⟨g, t, cs, fuel, d, q1, g', t', cs', fuel', d', q2, rfl, _⟩ := trodVars_two hV
  clear hA0 hval0
  refine (walk en sh lo held wd W (tabs_of_laid hL)).mono fun e W' ⟨he, bel⟩ => ?_
  subst he
  exact ⟨_, rfl, _, _, _, [], [], q, hW', trodAll_mk1 (shut_bool Tryd.underlying4 _), trodAll_mk1 (shut_dec wa wb wc wd), bel.trodVars laidOut (by kernel_rfl) hV, bel.frame _, fun h => by cases h⟩
theorem row : Rows.FnExactGoodDecoderSaid :=
  OpenClaim.holds_of_wide 5 Tryd.f5 rfl rfl rfl rfl rfl rfl rfl ⟨rfl, rfl, rfl, rfl, rfl⟩ rfl rfl rfl rfl rfl (by kernel_rfl) Tryd.func5 (by kernel_rfl)
    (of_decide_eq_true (by kernel_rfl)) (by unfold Func.isWrapper; first | (rw [if_pos (by decide +kernel)]; kernel_rfl) | (rw [if_neg (by decide +kernel)]; exact ⟨rfl, rfl⟩))
    (fun os started H enc _ => lifted os started H enc)
end LawGoodDecoder
theorem goodDecoder_card : Rows.FnExactGoodDecoderCardSaid :=
  Claim7.holds_tied_plain_at .later [] [.data, .data] true Rows.fnExactGoodDecoderCard.stood.harness Rows.fnExactGoodDecoderCard.stood.looks
    LawGoodDecoder.row (fun _ h => by cases h) (by kernel_rfl) (fun _ h => by cases h) fnExactGoodDecoder_row_tie rfl ⟨rfl, rfl⟩ (by kernel_rfl) rfl
    (fun f fn hf hfn => by
      obtain rfl : f = 5 := Option.some.inj ((show Tryd.prog.funcNamed "loop.example/g00692/laws.FnExactGoodDecoder" = some 5 by kernel_rfl).symm.trans hf) |>.symm
      obtain rfl : fn = Tryd.f5 := (Option.some.inj (Tryd.func5.symm.trans hfn)).symm
      exact ⟨by kernel_rfl, fun j t ht => by
        rw [Tryd.params5] at ht
        have hm : t ∈ [50] := by simpa using Array.mem_of_getElem? ht
        have hall : ([50].all fun u => !Tryd.prog.wantsStandIn u) = true := by kernel_rfl
        exact (show Tryd.prog.wantsStandIn t = false by simpa using List.all_eq_true.1 hall t hm)⟩)
    (by kernel_rfl)
#print axioms goodDecoder_card
end Go.Proofs.YtjnnikbgpjiecaaDoor
