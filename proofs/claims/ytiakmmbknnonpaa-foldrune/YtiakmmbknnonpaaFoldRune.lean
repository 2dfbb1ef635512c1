/-
  For every int, laws.FnExactFoldRune returns true: impl.FoldRune answers as the specification's FoldRune. No conditions.
-/
import Derived.Test.YtiakmmbknnonpaaN3A
import Derived.WalkKit
import Derived.ProofKit
import Derived.OpenShut
import Derived.ShutString
namespace Go.Proofs.Ytiakmmbknnonpaa
open Go.ChangeShapes Go.WideShapes Go.ChangeAt Go.RowKit
/-- A rune and the one that it counts as. -/
def foldN (r : Int) : Int := if 65 ≤ r ∧ r ≤ 90 then r + 32 else r
theorem sfold4_any (r : Int) (w : World) (h0 : 0 ≤ r) (hh : r ≤ 1114111) :
    Calls Try.prog 86 #[.int .i64 r] w fun e w' => e = .returned (.int .i64 (foldN r)) ∧ w = w' := by
  unfold foldN
  by_cases h : 65 ≤ r ∧ r ≤ 90
  · rw [if_pos h]
    obtain ⟨h1, h2⟩ := h
    go_enter Try.func86, Try.ntmps86
    go_wp2_with fail
    refine (in_yes ⟨h1, h2⟩ _).mono ?_
    rintro e w1 ⟨rfl, rfl⟩
    go_wp2
    go_ret
    exact ⟨rfl, rfl⟩
  · rw [if_neg h]
    have HN : Hid _ := h
    clear h
    go_enter Try.func86, Try.ntmps86
    go_wp2_with fail
    refine (in_no HN.out _).mono ?_
    rintro e w1 ⟨rfl, rfl⟩
    go_wp2
    go_ret
    exact ⟨rfl, rfl⟩
theorem sfoldR_yes (r : Int) (w : World) (hg : goodB r = true) :
    Calls Try.prog 48 #[.int .i64 r] w fun e w' => e = .returned (.tuple #[.int .i64 (foldN r), .bool true]) ∧ w = w' := by
  have HG : Hid _ := hg
  have g1 := goodB_true hg
  have h0 := g1.1
  have h1 := g1.2.1
  clear hg g1
  go_enter Try.func48, Try.ntmps48
  go_wp2_with fail
  refine (good_yes HG.out _).mono ?_
  rintro e w1 ⟨rfl, rfl⟩
  go_wp2_with fail
  refine (sfold4_any r _ h0 h1).mono ?_
  rintro e w2 ⟨rfl, rfl⟩
  go_wp2
  go_ret2
  exact ⟨rfl, rfl⟩
theorem sfoldR_no (r : Int) (w : World) (hg : goodB r = false) :
    Calls Try.prog 48 #[.int .i64 r] w fun e w' => e = .returned (.tuple #[.int .i64 0, .bool false]) ∧ w = w' := by
  have HG : Hid _ := hg
  clear hg
  go_enter Try.func48, Try.ntmps48
  go_wp2_with fail
  refine (good_not HG.out _).mono ?_
  rintro e w1 ⟨rfl, rfl⟩
  go_wp2
  go_ret2
  exact ⟨rfl, rfl⟩
theorem ifoldR_no (r : Int) (w : World) (hg : goodB r = false) :
    Calls Try.prog 47 #[.int .i64 r] w fun e w' => e = .returned (.tuple #[.int .i64 0, .bool false]) ∧ w = w' := by
  have HG : Hid _ := hg
  clear hg
  go_enter Try.func47, Try.ntmps47
  go_wp2_with fail
  refine (igood_not HG.out _).mono ?_
  rintro e w1 ⟨rfl, rfl⟩
  go_wp2
  go_ret2
  exact ⟨rfl, rfl⟩
theorem ifoldR_yes (r : Int) (w : World) (hg : goodB r = true) :
    Calls Try.prog 47 #[.int .i64 r] w fun e w' => e = .returned (.tuple #[.int .i64 (foldN r), .bool true]) ∧ w = w' := by
  have HG : Hid _ := hg
  have g1 := goodB_true hg
  have h0 := g1.1
  have h1 := g1.2.1
  clear hg g1
  unfold foldN
  by_cases h : 65 ≤ r ∧ r ≤ 90
  · rw [if_pos h]
    obtain ⟨h2, h3⟩ := h
    go_enter Try.func47, Try.ntmps47
    go_wp2_with fail
    refine (igood_yes HG.out _).mono ?_
    rintro e w1 ⟨rfl, rfl⟩
    go_wp2_with fail
    refine (among_yes (by omega) (by omega) _).mono ?_
    rintro e w2 ⟨rfl, rfl⟩
    go_wp2
    go_ret2
    exact ⟨rfl, rfl⟩
  · rw [if_neg h]
    have HN : Hid _ := h
    have hn : ¬ (65 ≤ r ∧ r < 65 + 26) := by omega
    have HN2 : Hid _ := hn
    clear h hn
    go_enter Try.func47, Try.ntmps47
    go_wp2_with fail
    refine (igood_yes HG.out _).mono ?_
    rintro e w1 ⟨rfl, rfl⟩
    go_wp2_with fail
    refine (among_no (by omega) HN2.out _).mono ?_
    rintro e w2 ⟨rfl, rfl⟩
    go_wp2
    go_ret2
    exact ⟨rfl, rfl⟩
end Go.Proofs.Ytiakmmbknnonpaa
namespace Go.Proofs.Ytiakmmbknnonpaa.fnExactFoldRune
open Go.ChangeShapes Go.WideShapes Go.ChangeAt Go.RowKit
open Go.ChangeMaps (open_string shut_string)
set_option linter.unusedVariables false

theorem own : ownKnob Try.prog.godebug = none := by kernel_rfl

theorem walk (a0 : Int) (w0 : (Lit.int .i64 a0).wf = true) (w : World) :
    Calls Try.prog 13 #[.int .i64 a0] w fun e w' => e = .returned (.bool true) ∧ Grown w w' := by
  cases hg : goodB a0
  · have HG : Hid _ := hg
    clear hg
    go_enter Try.func13, Try.ntmps13
    go_wp2_with fail
    refine (sfoldR_no a0 _ HG.out).mono ?_
    rintro e w1 ⟨rfl, rfl⟩
    go_wp2_with fail
    refine (ifoldR_no a0 _ HG.out).mono ?_
    rintro e w2 ⟨rfl, rfl⟩
    go_wp2
    go_ret
    exact ⟨rfl, by repeat (first | exact Grown.refl _ | apply Grown.drew | apply Grown.alloc)⟩
  · have HG : Hid _ := hg
    clear hg
    go_enter Try.func13, Try.ntmps13
    go_wp2_with fail
    refine (sfoldR_yes a0 _ HG.out).mono ?_
    rintro e w1 ⟨rfl, rfl⟩
    go_wp2_with fail
    refine (ifoldR_yes a0 _ HG.out).mono ?_
    rintro e w2 ⟨rfl, rfl⟩
    go_wp2
    go_ret
    exact ⟨rfl, by repeat (first | exact Grown.refl _ | apply Grown.drew | apply Grown.alloc)⟩

set_option maxRecDepth 100000 in
theorem lifted (os : Os) (started : os.Started) (H : Type) (enc : TypeId × Value → H) :
    ReturnsInHanded {} Try.checked os 13 .any (Rows.fnExactFoldRuneSpec.pre6 enc Try.prog Try.f13 Rows.fnExactFoldRuneRow.domain false) (Rows.fnExactFoldRuneSpec.post enc Try.prog Try.f13 false true false false) := by
  refine returnsInHanded_of_change (C := Try.checked) own started (by kernel_rfl) Try.func13
    (ChangeSpec.witness6 (enc := enc) (C := Try.checked) false ⟨#[], #[.int .i64 0], []⟩ 8 (by kernel_rfl) (by kernel_rfl) (by kernel_rfl) (by kernel_rfl)) ?_
  intro W base args ds gs before hval0 hW hcnd _
  have hval : ∀ (j : Nat) t v, Try.f13.params[j]? = some t → args[j]? = some v → Value.okWide Try.prog W .any base t v := hval0
  have hW' := hW
  obtain ⟨p, q, hA0, hV, rfl, hfz, hnd⟩ := hW
  have hA : DataW.TrodAll enc Try.prog W 0 (fun _ => true) true Try.f13.params.toList args.toList ds p := hA0
  rw [Try.params13] at hA hval
  obtain ⟨v0, vs0, d0, ds0, p0, q0, hargs, rfl, rfl, h0, r0⟩ := trodAll_cons hA
  obtain ⟨rfl, rfl, rfl⟩ := trodAll_nil r0
  obtain rfl : args = #[v0] := by cases args; simp_all
  obtain ⟨rfl, rfl⟩ := trodVars_none hV
  obtain ⟨a0, rfl, rfl, rfl, w0⟩ := open_int Try.underlying3 (hval 0 3 v0 rfl rfl) h0
  clear hA0 hval0
  simp only [List.append_nil] at hW'
  refine (walk a0 w0 W).mono fun e W' ⟨he, hg⟩ => ?_
  subst he
  exact ⟨_, rfl, post_of_same (pa := []) (pv := []) hW' (fun _ _ _ => (trodAll_cons_mk (shut_bool Try.underlying4 _) trodAll_mk0)) (fun sp _ => (trodAll_cons_mk (shut_int Try.underlying3 w0) trodAll_mk0)) (fun _ _ => rfl) rfl
    (hg.frame _) hg.2.1 (ok_one (by kernel_rfl) rfl (okWide_bool_mk Try.underlying4 _))⟩

theorem over : Rows.fnExactFoldRuneRow.holds Try.pinned (OpenSpec.ofChange Rows.fnExactFoldRuneSpec) :=
  OpenClaim.holds_of_wide 13 Try.f13 rfl rfl rfl rfl rfl rfl rfl ⟨rfl, rfl, rfl, rfl, rfl⟩ rfl rfl rfl rfl rfl (by kernel_rfl) Try.func13 (by kernel_rfl)
    (of_decide_eq_true (by kernel_rfl)) (by unfold Func.isWrapper; first | (rw [if_pos (by decide +kernel)]; kernel_rfl) | (rw [if_neg (by decide +kernel)]; exact ⟨rfl, rfl⟩))
    (fun os started H enc _ => lifted os started H enc)

theorem proved : Rows.FnExactFoldRuneSaid :=
  over
end Go.Proofs.Ytiakmmbknnonpaa.fnExactFoldRune
namespace Go.Proofs.Ytiakmmbknnonpaa
theorem foldRune_holds : Rows.FnExactFoldRuneSaid := fnExactFoldRune.proved
#print axioms foldRune_holds
end Go.Proofs.Ytiakmmbknnonpaa
