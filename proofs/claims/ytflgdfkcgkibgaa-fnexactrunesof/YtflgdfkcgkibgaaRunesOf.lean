/-
  For every text, laws.FnExactRunesOf returns true: impl.RunesOf answers as the specification's RunesOf, list and flag, in memory of its own that a second call leaves alone. No conditions.
-/
import Derived.Test.YtflgdfkcgkibgaaMarks
namespace Go.Proofs.Ytflgdfkcgkibgaa
open Go.ChangeShapes Go.WideShapes Go.ChangeAt Go.RowKit
open Go.ChangeMaps (open_string shut_string)
namespace LawRunesOf
theorem own : ownKnob Try.prog.godebug = none := by kernel_rfl
set_option maxRecDepth 100000 in
set_option maxHeartbeats 2000000 in
theorem walk (s : ByteArray) (w : World) :
    Calls Try.prog 4 #[.string s] w fun e w' => e = .returned (.bool true) ∧ Below w.heap.size w w' := by
  by_cases hbig : (1048576 : Int) < s.size
  · go_enter Try.func4, Try.ntmps4
    go_wp2
    go_ret
    exact ⟨rfl, Below.refl _ _⟩
  · by_cases hs : s.size ≤ 1000
    · have HS : Hid _ := hs
      have HLn : Hid ((runes s).length ≤ 1048576) := by have := runes_len s; show (runes s).length ≤ 1048576; omega
      have hq : ¬ (1 + ((runes s).length : Int)) < 0 := by omega
      clear hs
      go_enter Try.func4, Try.ntmps4
      go_wp2_with fail
      refine (srunes_any s _ HS.out).mono ?_
      rintro e w1 ⟨vw, rfl, ow1, b1⟩
      have OW1 : Hid _ := ow1
      have B1 : Hid _ := b1
      obtain ⟨_, aw, cw, rfl, _⟩ := ints_of_own ow1
      clear ow1 b1
      go_wp2_with fail
      refine (irunes_any s _ HS.out).mono ?_
      rintro e w2 ⟨vg, rfl, og2, b2⟩
      have OW2 : Hid _ := ownsRow_below OW1.out b2
      have OG2 : Hid _ := og2
      have B2 : Hid (Below w.heap.size w w2) := B1.out.trans (b2.mono B1.out.size)
      obtain ⟨_, ag, cg, rfl, ig2⟩ := ints_of_own og2
      obtain ⟨_, aw', cw', ew, iw2⟩ := ints_of_own OW2.out
      simp only [Value.slice.injEq, true_and] at ew
      obtain ⟨rfl, rfl⟩ := ew
      have IG : Hid _ := ig2
      have IW : Hid _ := iw2
      have SZ : Hid (w1.heap.size ≤ w2.heap.size) := b2.size
      clear og2 b2 ig2 iw2
      go_wp2_with fail
      refine (eq_any (runes s) _ _ _ _ _ HLn.out IG.out IW.out).mono ?_
      rintro e w3 ⟨rfl, b3⟩
      have OW3 : Hid _ := ownsRow_below OW2.out b3
      have OG3 : Hid _ := ownsRow_below OG2.out b3
      have B3 : Hid (Below w.heap.size w w3) := B2.out.trans (b3.mono B2.out.size)
      have SZ3 : Hid (w1.heap.size ≤ w3.heap.size) := Nat.le_trans SZ.out b3.size
      clear b3
      go_wp2_with fail
      refine (mark_any (runes s) _ _ _ _ HLn.out OG3.out).mono ?_
      rintro e w4 ⟨rfl, og4, gr⟩
      have hne : Value.ownBlock (.slice aw (runes s).length cw) = none ∨ Value.ownBlock (.slice aw (runes s).length cw) ≠ Value.ownBlock (.slice ag (runes s).length cg) := by
        cases hb : Value.ownBlock (.slice aw (runes s).length cw) with
        | none => exact .inl rfl
        | some g =>
          refine .inr fun e' => ?_
          have h1 := (World.ownsRow.lt OW1.out g hb).2
          have h2 := (World.ownsRow.lt OG3.out g e'.symm).1
          omega
      have OW4 : Hid _ := World.ownsRow.kept OW3.out gr hne
      have OG4 : Hid _ := og4
      have B4 : Hid (Below w.heap.size w w4) := Below.grown B3.out gr B3.out.size (fun g hg => by
        have h1 := (World.ownsRow.lt OG3.out g hg).1
        have h2 := B1.out.size
        omega)
      have ig4 : IntsAt w4 ag (mk2 (runes s) 1 (runes s).length) := by
        have h1 := ints_of_own (L := mk2 (runes s) 1 (runes s).length) og4
        obtain ⟨h2, a', c', e', i'⟩ := h1
        simp only [Value.slice.injEq, true_and] at e'
        obtain ⟨rfl, rfl⟩ := e'
        exact i'
      have IG4 : Hid _ := ig4
      clear og4 gr hne ig4
      go_wp2_with fail
      refine (held_any (runes s) _ _ _ HLn.out IG4.out).mono ?_
      rintro e w5 ⟨rfl, b5⟩
      have OW5 : Hid _ := ownsRow_below OW4.out b5
      have IG5 : Hid _ := IntsAt.below IG4.out b5
      have B5 : Hid (Below w.heap.size w w5) := B4.out.trans (b5.mono B4.out.size)
      clear b5
      go_wp2_with fail
      refine (irunes_any s _ HS.out).mono ?_
      rintro e w6 ⟨vh, rfl, oh6, b6⟩
      have OW6 : Hid _ := ownsRow_below OW5.out b6
      have IG6 : Hid _ := IntsAt.below IG5.out b6
      have B6 : Hid (Below w.heap.size w w6) := B5.out.trans (b6.mono B5.out.size)
      obtain ⟨_, ah, ch, rfl, ih6⟩ := ints_of_own oh6
      obtain ⟨_, aw', cw', ew, iw6⟩ := ints_of_own OW6.out
      simp only [Value.slice.injEq, true_and] at ew
      obtain ⟨rfl, rfl⟩ := ew
      have IH6 : Hid _ := ih6
      have IW6 : Hid _ := iw6
      clear oh6 b6 ih6 iw6
      go_wp2_with fail
      refine (eq_any (runes s) _ _ _ _ _ HLn.out IH6.out IW6.out).mono ?_
      rintro e w7 ⟨rfl, b7⟩
      have IG7 : Hid _ := IntsAt.below IG6.out b7
      have B7 : Hid (Below w.heap.size w w7) := B6.out.trans (b7.mono B6.out.size)
      clear b7
      go_wp2_with fail
      refine (held_any (runes s) _ _ _ HLn.out IG7.out).mono ?_
      rintro e w8 ⟨rfl, b8⟩
      have B8 : Hid (Below w.heap.size w w8) := B7.out.trans (b8.mono B7.out.size)
      clear b8
      go_wp2
      go_ret
      exact ⟨rfl, B8.out⟩
    · have HS : Hid ((1000 : Int) < s.size) := by show (1000 : Int) < s.size; omega
      have nil : ∀ w, IntsAt w none [] := fun w j hj => absurd hj (by simp)
      have NIL : Hid _ := nil
      have EQ : Hid (∀ w, Calls Try.prog 9 #[.slice none 0 0, .slice none 0 0] w fun e w' => e = .returned (.bool true) ∧ Below w.heap.size w w') := fun w => eq_any [] none none 0 0 w (by simp) (nil w) (nil w)
      have MK : Hid (∀ w, Calls Try.prog 10 #[.slice none 0 0, .int .i64 1] w fun e w' => e = .returned (.int .i64 1) ∧ Below w.heap.size w w') := fun w => by
        refine (mark_any [] (.slice none 0 0) 0 w.heap.size w (by simp) (World.ownsRow_nil _ _ _ _)).mono ?_
        rintro e w' ⟨rfl, _, gr⟩
        exact ⟨rfl, Below.grown (Below.refl _ _) gr (Nat.le_refl _) (fun k hk => by cases hk)⟩
      have HD : Hid (∀ w, Calls Try.prog 11 #[.slice none 0 0, .int .i64 1] w fun e w' => e = .returned (.int .i64 1) ∧ Below w.heap.size w w') := fun w => held_any [] none 0 w (by simp) (nil w)
      clear hs nil
      go_enter Try.func4, Try.ntmps4
      go_wp2_with fail
      refine (srunes_big s _ HS.out).mono ?_
      rintro e w1 ⟨rfl, rfl⟩
      go_wp2_with fail
      refine (irunes_big s _ HS.out).mono ?_
      rintro e w2 ⟨rfl, rfl⟩
      go_wp2_with fail
      refine (EQ.out _).mono ?_
      rintro e w3 ⟨rfl, b3⟩
      go_wp2_with fail
      refine (MK.out _).mono ?_
      rintro e w4 ⟨rfl, b4⟩
      go_wp2_with fail
      refine (HD.out _).mono ?_
      rintro e w5 ⟨rfl, b5⟩
      go_wp2_with fail
      refine (irunes_big s _ HS.out).mono ?_
      rintro e w6 ⟨rfl, rfl⟩
      go_wp2_with fail
      refine (EQ.out _).mono ?_
      rintro e w7 ⟨rfl, b7⟩
      go_wp2_with fail
      refine (HD.out _).mono ?_
      rintro e w8 ⟨rfl, b8⟩
      go_wp2
      go_ret
      have c4 := b3.trans (b4.mono b3.size)
      have c5 := c4.trans (b5.mono c4.size)
      have c7 := c5.trans (b7.mono c5.size)
      exact ⟨rfl, c7.trans (b8.mono c7.size)⟩
set_option maxRecDepth 100000 in
theorem lifted (os : Os) (started : os.Started) (H : Type) (enc : TypeId × Value → H) :
    ReturnsInHanded {} Try.checked os 4 .any (Rows.fnExactRunesOfSpec.pre6 enc Try.prog Try.f4 Rows.fnExactRunesOfRow.domain false) (Rows.fnExactRunesOfSpec.post enc Try.prog Try.f4 false true false false) := by
  refine returnsInHanded_of_change (C := Try.checked) own started (by kernel_rfl) Try.func4
    (ChangeSpec.witness6 (enc := enc) (C := Try.checked) false ⟨#[], #[.string ByteArray.empty], []⟩ 8 (by kernel_rfl) (by kernel_rfl) (by kernel_rfl) (by kernel_rfl)) ?_
  intro W base args ds gs before hval0 hW hcnd _
  have hval : ∀ (j : Nat) t v, Try.f4.params[j]? = some t → args[j]? = some v → Value.okWide Try.prog W .any base t v := hval0
  have hW' := hW
  obtain ⟨p, q, hA0, hV, rfl, hfz, hnd⟩ := hW
  have hA : DataW.TrodAll enc Try.prog W 0 (fun _ => true) true Try.f4.params.toList args.toList ds p := hA0
  rw [Try.params4] at hA hval
  obtain ⟨v0, d0, rfl, rfl, h0⟩ := trodAll_one hA
  obtain ⟨rfl, rfl⟩ := trodVars_none hV
  obtain ⟨s, rfl, rfl, rfl, w0⟩ := open_string Try.underlying9 (hval 0 9 v0 rfl rfl) h0
  clear hA0 hval0
  refine (walk s W).mono fun e W' ⟨he, bel⟩ => ?_
  subst he
  exact ⟨_, rfl, _, _, _, [], [], [], hW', trodAll_mk1 (shut_bool Try.underlying4 _), trodAll_mk1 (shut_string Try.underlying9 w0), rfl, bel.frame _, fun h => by cases h⟩
theorem row : Rows.FnExactRunesOfSaid :=
  OpenClaim.holds_of_wide 4 Try.f4 rfl rfl rfl rfl rfl rfl rfl ⟨rfl, rfl, rfl, rfl, rfl⟩ rfl rfl rfl rfl rfl (by kernel_rfl) Try.func4 (by kernel_rfl)
    (of_decide_eq_true (by kernel_rfl)) (by unfold Func.isWrapper; first | (rw [if_pos (by decide +kernel)]; kernel_rfl) | (rw [if_neg (by decide +kernel)]; exact ⟨rfl, rfl⟩))
    (fun os started H enc _ => lifted os started H enc)
end LawRunesOf
theorem runesOf_holds : Rows.FnExactRunesOfSaid := LawRunesOf.row
#print axioms runesOf_holds
end Go.Proofs.Ytflgdfkcgkibgaa
