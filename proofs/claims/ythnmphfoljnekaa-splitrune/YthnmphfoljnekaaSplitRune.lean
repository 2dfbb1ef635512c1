/-
  For every int, laws.FnExactSplitRune returns true: impl.SplitRune answers as the specification's SplitRune, list and flag, in memory of its own that a second call leaves alone. No conditions.
-/
import Derived.Test.YthnmphfoljnekaaN3C
namespace Go.Proofs.Ythnmphfoljnekaa
open Go.ChangeShapes Go.WideShapes Go.ChangeAt Go.WideMaps Go.WideElems Go.RowKit
namespace LawSplitRune
theorem own : ownKnob Try.prog.godebug = none := by kernel_rfl
set_option maxRecDepth 100000 in
set_option maxHeartbeats 4000000 in
theorem core (a0 : Int) (w : World) (ok : Bool) (G : List Int) (hn : G.length ≤ 1048576)
    (SP : ∀ w, Calls Try.prog 25 #[.int .i64 a0] w fun e w' => ∃ v, e = .returned (.tuple #[v, .bool ok]) ∧ w'.ownsRow w.heap.size 3 1 v G.length (ints G) ∧ Below w.heap.size w w')
    (IM : ∀ w, Calls Try.prog 26 #[.int .i64 a0] w fun e w' => ∃ v, e = .returned (.tuple #[v, .bool ok]) ∧ w'.ownsRow w.heap.size 3 1 v G.length (ints G) ∧ Below w.heap.size w w') :
    Calls Try.prog 6 #[.int .i64 a0] w fun e w' => e = .returned (.bool true) ∧ Below w.heap.size w w' := by
  have HSP : Hid _ := SP
  have HIM : Hid _ := IM
  have HN : Hid _ := hn
  have hq : ¬ (1 + (G.length : Int)) < 0 := by omega
  clear SP IM hn
  go_enter Try.func6, Try.ntmps6
  go_wp2_with fail
  refine (HSP.out _).mono ?_
  rintro e w1 ⟨vw, rfl, ow, b⟩
  have B1 : Hid (Below w.heap.size w w1) := b
  have OW : Hid (w1.ownsRow w.heap.size 3 1 vw G.length (ints G)) := ow
  obtain ⟨_, aw, cw, rfl, _⟩ := ints_of_own ow
  clear ow b
  go_wp2_with fail
  refine (HIM.out _).mono ?_
  rintro e w2 ⟨vg, rfl, og, b⟩
  have OW2 : Hid (w2.ownsRow w.heap.size 3 1 (.slice aw G.length cw) G.length (ints G)) := ownsRow_below OW.out b
  have OG2 : Hid (w2.ownsRow w1.heap.size 3 1 vg G.length (ints G)) := og
  have B2 : Hid (Below w.heap.size w w2) := B1.out.trans (b.mono B1.out.size)
  obtain ⟨_, ag, cg, rfl, _⟩ := ints_of_own og
  clear og b
  go_wp2_with fail
  refine (eq_any G _ _ _ _ _ HN.out (own_ints OG2.out) (own_ints OW2.out)).mono ?_
  rintro e w3 ⟨rfl, b⟩
  have OW3 : Hid _ := World.ownsRow.keepB OW2.out b
  have OG3 : Hid _ := World.ownsRow.keepB OG2.out b
  have B3 : Hid (Below w.heap.size w w3) := B2.out.trans (b.mono B2.out.size)
  clear b
  go_wp2_with fail
  refine (mark_any G _ _ _ _ HN.out OG3.out).mono ?_
  rintro e w4 ⟨rfl, og, gr⟩
  have OW4 : Hid _ := World.ownsRow.kept OW3.out gr (own_apart OW.out OG3.out (Nat.le_refl _))
  have OG4 : Hid (w4.ownsRow w1.heap.size 3 1 (.slice ag G.length cg) G.length (ints (mk2 G 1 G.length))) := og
  have B4 : Hid (Below w.heap.size w w4) := Below.grown B3.out gr B3.out.size (fun g hg => by have h1 := (World.ownsRow.lt OG3.out g hg).1; have h2 := B1.out.size; omega)
  clear og gr
  go_wp2_with fail
  refine (held_any G _ _ _ HN.out (own_ints2 OG4.out)).mono ?_
  rintro e w5 ⟨rfl, b⟩
  have OW5 : Hid _ := World.ownsRow.keepB OW4.out b
  have OG5 : Hid _ := World.ownsRow.keepB OG4.out b
  have B5 : Hid (Below w.heap.size w w5) := B4.out.trans (b.mono B4.out.size)
  clear b
  go_wp2_with fail
  refine (HIM.out _).mono ?_
  rintro e w6 ⟨vh, rfl, oh, b⟩
  have OW6 : Hid _ := World.ownsRow.keepB OW5.out b
  have OG6 : Hid _ := World.ownsRow.keepB OG5.out b
  have OH6 : Hid _ := oh
  have B6 : Hid (Below w.heap.size w w6) := B5.out.trans (b.mono B5.out.size)
  obtain ⟨_, ah, ch, rfl, _⟩ := ints_of_own oh
  clear oh b
  go_wp2_with fail
  refine (eq_any G _ _ _ _ _ HN.out (own_ints OH6.out) (own_ints OW6.out)).mono ?_
  rintro e w7 ⟨rfl, b⟩
  have OG7 : Hid _ := World.ownsRow.keepB OG6.out b
  have B7 : Hid (Below w.heap.size w w7) := B6.out.trans (b.mono B6.out.size)
  clear b
  go_wp2_with fail
  refine (held_any G _ _ _ HN.out (own_ints2 OG7.out)).mono ?_
  rintro e w8 ⟨rfl, b⟩
  have B8 : Hid (Below w.heap.size w w8) := B7.out.trans (b.mono B7.out.size)
  clear b
  go_wp2
  go_ret
  exact ⟨rfl, B8.out⟩
theorem walk (a0 : Int) (w : World) : Calls Try.prog 6 #[.int .i64 a0] w fun e w' => e = .returned (.bool true) ∧ Below w.heap.size w w' := by
  cases hg : goodB a0
  · exact core a0 w false [] (by simp)
      (fun w => (ssplitR_no a0 w hg).mono fun e w' ⟨he, hw⟩ => ⟨_, he, World.ownsRow_nil _ _ _ _, by rw [hw]; exact Below.refl _ _⟩)
      (fun w => (isplitR_no a0 w hg).mono fun e w' ⟨he, hw⟩ => ⟨_, he, World.ownsRow_nil _ _ _ _, by rw [hw]; exact Below.refl _ _⟩)
  · exact core a0 w true (splitL a0) (by have := splitL_len a0; omega) (fun w => ssplitR_yes a0 w hg) (fun w => isplitR_yes a0 w hg)
set_option maxRecDepth 100000 in
theorem lifted (os : Os) (started : os.Started) (H : Type) (enc : TypeId × Value → H) :
    ReturnsInHanded {} Try.checked os 6 .any (Rows.fnExactSplitRuneSpec.pre6 enc Try.prog Try.f6 Rows.fnExactSplitRuneRow.domain false) (Rows.fnExactSplitRuneSpec.post enc Try.prog Try.f6 false true false false) := by
  refine returnsInHanded_of_change (C := Try.checked) own started (by kernel_rfl) Try.func6
    (ChangeSpec.witness6 (enc := enc) (C := Try.checked) false ⟨#[], #[.int .i64 0], []⟩ 8 (by kernel_rfl) (by kernel_rfl) (by kernel_rfl) (by kernel_rfl)) ?_
  intro W base args ds gs before hval0 hW hcnd _
  have hval : ∀ (j : Nat) t v, Try.f6.params[j]? = some t → args[j]? = some v → Value.okWide Try.prog W .any base t v := hval0
  have hW' := hW
  obtain ⟨p, q, hA0, hV, rfl, hfz, hnd⟩ := hW
  have hA : DataW.TrodAll enc Try.prog W 0 (fun _ => true) true Try.f6.params.toList args.toList ds p := hA0
  rw [Try.params6] at hA hval
  obtain ⟨v0, d0, rfl, rfl, h0⟩ := trodAll_one hA
  obtain ⟨rfl, rfl⟩ := trodVars_none hV
  obtain ⟨a0, rfl, rfl, rfl, w0⟩ := open_int Try.underlying3 (hval 0 3 v0 rfl rfl) h0
  clear hA0 hval0
  refine (walk a0 W).mono fun e W' ⟨he, bel⟩ => ?_
  subst he
  exact ⟨_, rfl, _, _, _, [], [], [], hW', trodAll_mk1 (shut_bool Try.underlying4 _), trodAll_mk1 (shut_int Try.underlying3 w0), rfl, bel.frame _, fun h => by cases h⟩
theorem row : Rows.FnExactSplitRuneSaid :=
  OpenClaim.holds_of_wide 6 Try.f6 rfl rfl rfl rfl rfl rfl rfl ⟨rfl, rfl, rfl, rfl, rfl⟩ rfl rfl rfl rfl rfl (by kernel_rfl) Try.func6 (by kernel_rfl)
    (of_decide_eq_true (by kernel_rfl)) (by unfold Func.isWrapper; first | (rw [if_pos (by decide +kernel)]; kernel_rfl) | (rw [if_neg (by decide +kernel)]; exact ⟨rfl, rfl⟩))
    (fun os started H enc _ => lifted os started H enc)
end LawSplitRune
theorem splitRune_holds : Rows.FnExactSplitRuneSaid := LawSplitRune.row
#print axioms splitRune_holds
end Go.Proofs.Ythnmphfoljnekaa
