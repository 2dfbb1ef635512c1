/-
  FoldRune of both.
-/
import Derived.Test.YtmmhgeaddldhlaaN3A
import Derived.WalkKit
import Derived.ProofKit
import Derived.OpenShut
import Derived.ShutString
namespace Go.Proofs.Ytmmhgeaddldhlaa
open Go.ChangeShapes Go.WideShapes Go.ChangeAt Go.RowKit
/-- A rune and the one that it counts as. -/
def foldN (r : Int) : Int := if 65 ≤ r ∧ r ≤ 90 then r + 32 else r
theorem sfold4_any (r : Int) (w : World) (h0 : 0 ≤ r) (hh : r ≤ 1114111) :
    Calls Try.prog 73 #[.int .i64 r] w fun e w' => e = .returned (.int .i64 (foldN r)) ∧ w = w' := by
  unfold foldN
  by_cases h : 65 ≤ r ∧ r ≤ 90
  · rw [if_pos h]
    obtain ⟨h1, h2⟩ := h
    go_enter Try.func73, Try.ntmps73
    go_wp2_with fail
    refine (in_yes ⟨h1, h2⟩ _).mono ?_
    rintro e w1 ⟨rfl, rfl⟩
    go_wp2
    go_ret
    exact ⟨rfl, rfl⟩
  · rw [if_neg h]
    have HN : Hid _ := h
    clear h
    go_enter Try.func73, Try.ntmps73
    go_wp2_with fail
    refine (in_no HN.out _).mono ?_
    rintro e w1 ⟨rfl, rfl⟩
    go_wp2
    go_ret
    exact ⟨rfl, rfl⟩
theorem sfoldR_yes (r : Int) (w : World) (hg : goodB r = true) :
    Calls Try.prog 39 #[.int .i64 r] w fun e w' => e = .returned (.tuple #[.int .i64 (foldN r), .bool true]) ∧ w = w' := by
  have HG : Hid _ := hg
  have g1 := goodB_true hg
  have h0 := g1.1
  have h1 := g1.2.1
  clear hg g1
  go_enter Try.func39, Try.ntmps39
  go_wp2_with fail
  refine (good_yes HG.out _).mono ?_
  rintro e w1 ⟨rfl, rfl⟩
  go_wp2_with fail
  refine (sfold4_any r _ h0 h1).mono ?_
  rintro e w2 ⟨rfl, rfl⟩
  go_wp2
  go_ret2
  exact ⟨rfl, rfl⟩
theorem sfoldR_no (r : Int) (w : World) (hg : goodB r = false) :
    Calls Try.prog 39 #[.int .i64 r] w fun e w' => e = .returned (.tuple #[.int .i64 0, .bool false]) ∧ w = w' := by
  have HG : Hid _ := hg
  clear hg
  go_enter Try.func39, Try.ntmps39
  go_wp2_with fail
  refine (good_not HG.out _).mono ?_
  rintro e w1 ⟨rfl, rfl⟩
  go_wp2
  go_ret2
  exact ⟨rfl, rfl⟩
theorem ifoldR_no (r : Int) (w : World) (hg : goodB r = false) :
    Calls Try.prog 38 #[.int .i64 r] w fun e w' => e = .returned (.tuple #[.int .i64 0, .bool false]) ∧ w = w' := by
  have HG : Hid _ := hg
  clear hg
  go_enter Try.func38, Try.ntmps38
  go_wp2_with fail
  refine (igood_not HG.out _).mono ?_
  rintro e w1 ⟨rfl, rfl⟩
  go_wp2
  go_ret2
  exact ⟨rfl, rfl⟩
theorem ifoldR_yes (r : Int) (w : World) (hg : goodB r = true) :
    Calls Try.prog 38 #[.int .i64 r] w fun e w' => e = .returned (.tuple #[.int .i64 (foldN r), .bool true]) ∧ w = w' := by
  have HG : Hid _ := hg
  have g1 := goodB_true hg
  have h0 := g1.1
  have h1 := g1.2.1
  clear hg g1
  unfold foldN
  by_cases h : 65 ≤ r ∧ r ≤ 90
  · rw [if_pos h]
    obtain ⟨h2, h3⟩ := h
    go_enter Try.func38, Try.ntmps38
    go_wp2_with fail
    refine (igood_yes HG.out _).mono ?_
    rintro e w1 ⟨rfl, rfl⟩
    go_wp2_with fail
    refine (among_yes (by omega) (by omega) _).mono ?_
    rintro e w2 ⟨rfl, rfl⟩
    go_wp2
    go_ret2
    exact ⟨rfl, rfl⟩
  · rw [if_neg h]
    have HN : Hid _ := h
    have hn : ¬ (65 ≤ r ∧ r < 65 + 26) := by omega
    have HN2 : Hid _ := hn
    clear h hn
    go_enter Try.func38, Try.ntmps38
    go_wp2_with fail
    refine (igood_yes HG.out _).mono ?_
    rintro e w1 ⟨rfl, rfl⟩
    go_wp2_with fail
    refine (among_no (by omega) HN2.out _).mono ?_
    rintro e w2 ⟨rfl, rfl⟩
    go_wp2
    go_ret2
    exact ⟨rfl, rfl⟩
end Go.Proofs.Ytmmhgeaddldhlaa
