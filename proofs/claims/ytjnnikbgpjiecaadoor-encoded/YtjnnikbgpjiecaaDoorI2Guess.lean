/-
  Contract of impl.GuessCode.
-/
import Derived.Test.YtjnnikbgpjiecaaDoorD2Guess
import Derived.Test.YtjnnikbgpjiecaaDoorIWhole
import Derived.Test.YtjnnikbgpjiecaaDoorRAt
namespace Go.Proofs.YtjnnikbgpjiecaaDoor
open Go.ChangeShapes Go.WideShapes Go.ChangeAt Go.RowKit
abbrev mkB : ByteArray := ⟨#[254, 255]⟩
abbrev mkL : ByteArray := ⟨#[255, 254]⟩
abbrev mkU : ByteArray := ⟨#[239, 187, 191]⟩
theorem pf_B (s : ByteArray) : prefB s mkB = true ↔ 2 ≤ s.size ∧ ((s.extract 0 2).toList == [254, 255]) = true := by
  unfold prefB
  rw [Bool.and_eq_true, decide_eq_true_eq, show mkB.toList = [254, 255] by rw [Lib.toList_data]]
  exact Iff.rfl
theorem pf_L (s : ByteArray) : prefB s mkL = true ↔ 2 ≤ s.size ∧ ((s.extract 0 2).toList == [255, 254]) = true := by
  unfold prefB
  rw [Bool.and_eq_true, decide_eq_true_eq, show mkL.toList = [255, 254] by rw [Lib.toList_data]]
  exact Iff.rfl
theorem pf_U (s : ByteArray) : prefB s mkU = true ↔ 3 ≤ s.size ∧ ((s.extract 0 3).toList == [239, 187, 191]) = true := by
  unfold prefB
  rw [Bool.and_eq_true, decide_eq_true_eq, show mkU.toList = [239, 187, 191] by rw [Lib.toList_data]]
  exact Iff.rfl
theorem guess_is (s : ByteArray) : guessR s = if 1000 < s.size then ⟨0, 0, false⟩ else if prefB s mkB = true then ⟨2, 2, true⟩ else if prefB s mkL = true then ⟨3, 2, true⟩ else if prefB s mkU = true then ⟨1, 3, true⟩ else if wholeB s = true then ⟨1, 0, true⟩ else ⟨4, 0, true⟩ := by
  unfold guessR
  simp only [pf_B, pf_L, pf_U]
set_option maxRecDepth 100000 in
set_option maxHeartbeats 1000000 in
theorem iguess_any (s : ByteArray) (w : World) (hT : Tabs w) :
    Calls Tryd.prog 29 #[.string s] w fun e w' => e = .returned (.tuple #[.int .i64 (guessR s).en, .int .i64 (guessR s).n, .bool (guessR s).ok]) ∧ Below w.heap.size w w' := by
  rw [guess_is]
  by_cases hs : 1000 < s.size
  · rw [if_pos hs]
    have hsI : (1000 : Int) < s.size := by omega
    clear hT hs
    go_enter Tryd.func29, Tryd.ntmps29
    go_wp2
    go_ret3
    exact ⟨rfl, Below.refl _ _⟩
  · rw [if_neg hs]
    have hsI : ¬ (1000 : Int) < s.size := by omega
    have HW : Hid (∀ w : World, Tabs w → Calls Tryd.prog 69 #[.string s] w fun e w' => e = .returned (.bool (wholeB s)) ∧ Below w.heap.size w w') := fun w hT => iwhole_any s w (by omega) hT
    have HT : Hid _ := hT
    clear hT hs
    cases h1 : prefB s mkB
    · have P1 : Hid (∀ w : World, _) := fun w => hasp_no h1 w
      rw [if_neg Bool.false_ne_true]
      cases h2 : prefB s mkL
      · have P2 : Hid (∀ w : World, _) := fun w => hasp_no h2 w
        rw [if_neg Bool.false_ne_true]
        cases h3 : prefB s mkU
        · have P3 : Hid (∀ w : World, _) := fun w => hasp_no h3 w
          rw [if_neg Bool.false_ne_true]
          generalize wholeB s = B at *
          clear h1 h2 h3
          cases B
          all_goals
            go_enter Tryd.func29, Tryd.ntmps29
            go_wp2_with fail
            refine (P1.out _).mono ?_
            rintro e w1 ⟨rfl, rfl⟩
            go_wp2_with fail
            refine (P2.out _).mono ?_
            rintro e w2 ⟨rfl, rfl⟩
            go_wp2_with fail
            refine (P3.out _).mono ?_
            rintro e w3 ⟨rfl, rfl⟩
            go_wp2_with fail
            refine (HW.out _ HT.out).mono ?_
            rintro e w4 ⟨rfl, b4⟩
            go_wp2
            go_ret3
            exact ⟨rfl, b4⟩
        · have P3 : Hid (∀ w : World, _) := fun w => hasp_yes h3 w
          rw [if_pos rfl]
          clear h1 h2 h3
          go_enter Tryd.func29, Tryd.ntmps29
          go_wp2_with fail
          refine (P1.out _).mono ?_
          rintro e w1 ⟨rfl, rfl⟩
          go_wp2_with fail
          refine (P2.out _).mono ?_
          rintro e w2 ⟨rfl, rfl⟩
          go_wp2_with fail
          refine (P3.out _).mono ?_
          rintro e w3 ⟨rfl, rfl⟩
          go_wp2
          go_ret3
          exact ⟨rfl, Below.refl _ _⟩
      · have P2 : Hid (∀ w : World, _) := fun w => hasp_yes h2 w
        rw [if_pos rfl]
        clear h1 h2
        go_enter Tryd.func29, Tryd.ntmps29
        go_wp2_with fail
        refine (P1.out _).mono ?_
        rintro e w1 ⟨rfl, rfl⟩
        go_wp2_with fail
        refine (P2.out _).mono ?_
        rintro e w2 ⟨rfl, rfl⟩
        go_wp2
        go_ret3
        exact ⟨rfl, Below.refl _ _⟩
    · have P1 : Hid (∀ w : World, _) := fun w => hasp_yes h1 w
      rw [if_pos rfl]
      clear h1
      go_enter Tryd.func29, Tryd.ntmps29
      go_wp2_with fail
      refine (P1.out _).mono ?_
      rintro e w1 ⟨rfl, rfl⟩
      go_wp2
      go_ret3
      exact ⟨rfl, Below.refl _ _⟩
end Go.Proofs.YtjnnikbgpjiecaaDoor
