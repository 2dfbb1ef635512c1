/-
  Contract of spec.GuessCode.
-/
import Derived.Test.YtcclollclbegoaaDoorD2Enc
import Derived.Test.YtcclollclbegoaaDoorSWhole
namespace Go.Proofs.YtcclollclbegoaaDoor
open Go.ChangeShapes Go.WideShapes Go.ChangeAt Go.RowKit
theorem slice_to (s : ByteArray) (n : Nat) (N : Int) (hN : N = n) (h : n ≤ s.size) (w : World) : (Instr.slice 9 (.string s) none (some (.int .i64 N)) none).run Tryd.prog w = .ok (.string (s.extract 0 n)) w := by
  subst hN
  have h' : (n : Int) ≤ s.size := by omega
  go_simp
def wholeB (s : ByteArray) : Bool := (textS (runes s)).toList == s.toList
structure GuessR where
  en : Int
  n : Int
  ok : Bool
def guessR (s : ByteArray) : GuessR :=
  if 1000 < s.size then ⟨0, 0, false⟩
  else if 2 ≤ s.size ∧ ((s.extract 0 2).toList == [254, 255]) = true then ⟨2, 2, true⟩
  else if 2 ≤ s.size ∧ ((s.extract 0 2).toList == [255, 254]) = true then ⟨3, 2, true⟩
  else if 3 ≤ s.size ∧ ((s.extract 0 3).toList == [239, 187, 191]) = true then ⟨1, 3, true⟩
  else if wholeB s = true then ⟨1, 0, true⟩ else ⟨4, 0, true⟩
set_option maxRecDepth 100000 in
set_option maxHeartbeats 2000000 in
theorem guess_any (s : ByteArray) (w : World) :
    Calls Tryd.prog 27 #[.string s] w fun e w' => e = .returned (.tuple #[.int .i64 (guessR s).en, .int .i64 (guessR s).n, .bool (guessR s).ok]) ∧ Below w.heap.size w w' := by
  by_cases hs : 1000 < s.size
  · rw [show guessR s = ⟨0, 0, false⟩ from by simp [guessR, hs]]
    have HT : Hid (decide ((s.size : Int) ≤ 1000) = false) := decide_eq_false (by omega)
    go_enter Tryd.func27, Tryd.ntmps27
    go_wp2_with (go_at_call 38; refine (text_any _ _).mono ?_; rintro e w1 ⟨rfl, rfl⟩; rw [HT.out])
    go_ret3
    exact ⟨rfl, Below.refl _ _⟩
  · have HT : Hid (decide ((s.size : Int) ≤ 1000) = true) := decide_eq_true (by omega)
    have HW : Hid (∀ w : World, Calls Tryd.prog 64 #[.string s] w fun e w' => e = .returned (.bool (wholeB s)) ∧ Below w.heap.size w w') := fun w => swhole_any s w (by omega)
    by_cases h2 : 2 ≤ s.size
    · have h2I : (2 : Int) ≤ s.size := by omega
      have sl2 := slice_to s 2 2 rfl h2
      cases m1 : ((s.extract 0 2).toList == [254, 255])
      · cases m2 : ((s.extract 0 2).toList == [255, 254])
        · by_cases h3 : 3 ≤ s.size
          · have h3I : (3 : Int) ≤ s.size := by omega
            have sl3 := slice_to s 3 3 rfl h3
            cases m3 : ((s.extract 0 3).toList == [239, 187, 191])
            · cases hw : wholeB s
              · rw [show guessR s = ⟨4, 0, true⟩ from by simp [guessR, hs, h2, h3, m1, m2, m3, hw]]
                rw [hw] at HW
                clear hs hw
                go_enter Tryd.func27, Tryd.ntmps27
                go_wp2_with (first | (go_at_call 38; refine (text_any _ _).mono ?_; rintro e w1 ⟨rfl, rfl⟩; rw [HT.out]) | (go_at_call 64; refine (HW.out _).mono ?_; rintro e w2 ⟨rfl, b2⟩))
                go_ret3
                exact ⟨rfl, b2⟩
              · rw [show guessR s = ⟨1, 0, true⟩ from by simp [guessR, hs, h2, h3, m1, m2, m3, hw]]
                rw [hw] at HW
                clear hs hw
                go_enter Tryd.func27, Tryd.ntmps27
                go_wp2_with (first | (go_at_call 38; refine (text_any _ _).mono ?_; rintro e w1 ⟨rfl, rfl⟩; rw [HT.out]) | (go_at_call 64; refine (HW.out _).mono ?_; rintro e w2 ⟨rfl, b2⟩))
                go_ret3
                exact ⟨rfl, b2⟩
            · rw [show guessR s = ⟨1, 3, true⟩ from by simp [guessR, hs, h2, h3, m1, m2, m3]]
              clear hs
              go_enter Tryd.func27, Tryd.ntmps27
              go_wp2_with (go_at_call 38; refine (text_any _ _).mono ?_; rintro e w1 ⟨rfl, rfl⟩; rw [HT.out])
              go_ret3
              exact ⟨rfl, Below.refl _ _⟩
          · have h3I : ¬ (3 : Int) ≤ s.size := by omega
            cases hw : wholeB s
            · rw [show guessR s = ⟨4, 0, true⟩ from by simp [guessR, hs, h2, h3, m1, m2, hw]]
              rw [hw] at HW
              clear hs hw
              go_enter Tryd.func27, Tryd.ntmps27
              go_wp2_with (first | (go_at_call 38; refine (text_any _ _).mono ?_; rintro e w1 ⟨rfl, rfl⟩; rw [HT.out]) | (go_at_call 64; refine (HW.out _).mono ?_; rintro e w2 ⟨rfl, b2⟩))
              go_ret3
              exact ⟨rfl, b2⟩
            · rw [show guessR s = ⟨1, 0, true⟩ from by simp [guessR, hs, h2, h3, m1, m2, hw]]
              rw [hw] at HW
              clear hs hw
              go_enter Tryd.func27, Tryd.ntmps27
              go_wp2_with (first | (go_at_call 38; refine (text_any _ _).mono ?_; rintro e w1 ⟨rfl, rfl⟩; rw [HT.out]) | (go_at_call 64; refine (HW.out _).mono ?_; rintro e w2 ⟨rfl, b2⟩))
              go_ret3
              exact ⟨rfl, b2⟩
        · rw [show guessR s = ⟨3, 2, true⟩ from by simp [guessR, hs, h2, m1, m2]]
          clear hs
          go_enter Tryd.func27, Tryd.ntmps27
          go_wp2_with (go_at_call 38; refine (text_any _ _).mono ?_; rintro e w1 ⟨rfl, rfl⟩; rw [HT.out])
          go_ret3
          exact ⟨rfl, Below.refl _ _⟩
      · rw [show guessR s = ⟨2, 2, true⟩ from by simp [guessR, hs, h2, m1]]
        clear hs
        go_enter Tryd.func27, Tryd.ntmps27
        go_wp2_with (go_at_call 38; refine (text_any _ _).mono ?_; rintro e w1 ⟨rfl, rfl⟩; rw [HT.out])
        go_ret3
        exact ⟨rfl, Below.refl _ _⟩
    · have h2I : ¬ (2 : Int) ≤ s.size := by omega
      have h3 : ¬ 3 ≤ s.size := by omega
      have h3I : ¬ (3 : Int) ≤ s.size := by omega
      cases hw : wholeB s
      · rw [show guessR s = ⟨4, 0, true⟩ from by simp [guessR, hs, h2, h3, hw]]
        rw [hw] at HW
        clear hs hw
        go_enter Tryd.func27, Tryd.ntmps27
        go_wp2_with (first | (go_at_call 38; refine (text_any _ _).mono ?_; rintro e w1 ⟨rfl, rfl⟩; rw [HT.out]) | (go_at_call 64; refine (HW.out _).mono ?_; rintro e w2 ⟨rfl, b2⟩))
        go_ret3
        exact ⟨rfl, b2⟩
      · rw [show guessR s = ⟨1, 0, true⟩ from by simp [guessR, hs, h2, h3, hw]]
        rw [hw] at HW
        clear hs hw
        go_enter Tryd.func27, Tryd.ntmps27
        go_wp2_with (first | (go_at_call 38; refine (text_any _ _).mono ?_; rintro e w1 ⟨rfl, rfl⟩; rw [HT.out]) | (go_at_call 64; refine (HW.out _).mono ?_; rintro e w2 ⟨rfl, b2⟩))
        go_ret3
        exact ⟨rfl, b2⟩
end Go.Proofs.YtcclollclbegoaaDoor
