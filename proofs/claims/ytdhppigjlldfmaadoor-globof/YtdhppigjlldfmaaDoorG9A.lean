/-
  The short pattern of a list of runes: GlobOf of the specification and of the program.
-/
import Derived.Test.YtdhppigjlldfmaaDoorTof
import Derived.Test.YtdhppigjlldfmaaDoorAlls
import Derived.Test.YtdhppigjlldfmaaDoorRof
namespace Go.Proofs.YtdhppigjlldfmaaDoor
open Go.ChangeShapes Go.WideShapes Go.ChangeAt Go.RowKit
def isMk (x : Int) : Bool := decide (x = 42) || (decide (x = 63) || (decide (x = 91) || decide (x = 92)))
def mk1 (x : Int) : List Int := if isMk x = true then [92, x] else [x]
def mkL (L : List Int) : List Int := L.flatMap mk1
theorem isMk_yes {x : Int} (h : isMk x = true) : x = 42 ∨ x = 63 ∨ x = 91 ∨ x = 92 := by
  unfold isMk at h
  simp only [Bool.or_eq_true, decide_eq_true_eq] at h
  exact h
theorem isMk_no {x : Int} (h : isMk x = false) : ¬ x = 42 ∧ ¬ x = 63 ∧ ¬ x = 91 ∧ ¬ x = 92 := by
  unfold isMk at h
  simp only [Bool.or_eq_false_iff, decide_eq_false_iff_not] at h
  exact h
theorem mk1_len (x : Int) : (mk1 x).length ≤ 2 := by
  unfold mk1; split <;> simp
theorem mkL_step (L : List Int) (k : Nat) (h : k < L.length) : mkL (L.take (k + 1)) = mkL (L.take k) ++ mk1 (L.getD k 0) := by
  rw [take_one L k h, mkL, List.flatMap_append]; simp [mkL]
theorem mkL_len : ∀ L : List Int, (mkL L).length ≤ 2 * L.length
  | [] => by simp [mkL]
  | x :: L => by
    have := mkL_len L
    have := mk1_len x
    simp only [mkL, List.flatMap_cons, List.length_append, List.length_cons] at *
    omega
theorem mkL_take (L : List Int) (k : Nat) : (mkL (L.take k)).length ≤ 2 * k := by
  have := mkL_len (L.take k)
  have := List.length_take_le k L
  omega
theorem mk1_good (x : Int) : allG (mk1 x) = goodB x := by
  unfold mk1 allG
  split
  · rename_i h
    simp only [List.all_cons, List.all_nil, Bool.and_true]
    rw [show goodB 92 = true by decide, Bool.true_and]
  · simp
theorem mkL_good : ∀ L : List Int, allG (mkL L) = allG L
  | [] => rfl
  | x :: L => by
    have h := mkL_good L
    have h1 := mk1_good x
    unfold allG mkL at *
    rw [List.flatMap_cons, List.all_append, h, h1, List.all_cons]
def gB (L : List Int) : Bool := decide (L.length ≤ 20) && allG L
def gS (L : List Int) : ByteArray := if gB L = true then textS (mkL L) else ⟨#[]⟩
theorem gS_yes {L : List Int} (h : gB L = true) : gS L = textS (mkL L) := by simp [gS, h]
theorem gS_no {L : List Int} (h : gB L = false) : gS L = ⟨#[]⟩ := by simp [gS, h]
theorem tB_mk {L : List Int} (h : L.length ≤ 20) : tB (mkL L) = gB L := by
  have h1 := mkL_len L
  have h2 := (textB_len (mkL L)).2
  unfold tB gB
  rw [mkL_good, decide_eq_true (show (mkL L).length ≤ 1000 by omega), decide_eq_true (show (textB (mkL L)).length ≤ 1000 by omega), decide_eq_true h]
  simp
theorem tS_mk {L : List Int} (h : L.length ≤ 20) : tS (mkL L) = gS L := by
  unfold tS gS
  rw [tB_mk h]
set_option maxRecDepth 100000 in
theorem isMark_any (x : Int) (w : World) :
    Calls Tryd.prog 10 #[.int .i64 x] w fun e w' => e = .returned (.bool (isMk x)) ∧ w' = w := by
  cases h : isMk x with
  | true =>
    rcases isMk_yes h with rfl | rfl | rfl | rfl
    all_goals
      clear h
      go_enter Tryd.func10, Tryd.ntmps10
      go_wp2
      go_ret
      exact ⟨rfl, rfl⟩
  | false =>
    obtain ⟨e1, e2, e3, e4⟩ := isMk_no h
    have d1 : decide (x = 42) = false := decide_eq_false e1
    have d2 : decide (x = 63) = false := decide_eq_false e2
    have d3 : decide (x = 91) = false := decide_eq_false e3
    have d4 : decide (x = 92) = false := decide_eq_false e4
    have b1 : (x == 42) = false := by simpa using e1
    have b2 : (x == 63) = false := by simpa using e2
    have b3 : (x == 91) = false := by simpa using e3
    have b4 : (x == 92) = false := by simpa using e4
    clear h
    go_enter Tryd.func10, Tryd.ntmps10
    go_wp2
    go_ret
    exact ⟨rfl, rfl⟩
end Go.Proofs.YtdhppigjlldfmaaDoor
