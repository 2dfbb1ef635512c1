/-
  Contract of spec.IsWhole.
-/
import Derived.Test.YtcclollclbegoaaDoorTxt
namespace Go.Proofs.YtcclollclbegoaaDoor
open Go.ChangeShapes Go.WideShapes Go.ChangeAt Go.RowKit
set_option maxRecDepth 100000 in
set_option maxHeartbeats 1000000 in
theorem swhole_any (s : ByteArray) (w : World) (hs : s.size ≤ 1000) :
    Calls Tryd.prog 64 #[.string s] w fun e w' => e = .returned (.bool ((textS (runes s)).toList == s.toList)) ∧ Below w.heap.size w w' := by
  have HT : Hid (decide ((s.size : Int) ≤ 1000) = true) := decide_eq_true (by omega)
  have HS : Hid _ := hs
  have HLn : Hid ((runes s).length ≤ 1048576) := by have := runes_len s; show (runes s).length ≤ 1048576; omega
  have HG : Hid _ := runes_good s
  clear hs
  go_enter Tryd.func64, Tryd.ntmps64
  go_wp2_with fail
  refine (text_any s _).mono ?_
  rintro e w1 ⟨rfl, rfl⟩
  rw [HT.out]
  go_wp2_with fail
  refine (runes_any s _ HS.out).mono ?_
  rintro e w2 ⟨v, rfl, hown, hb⟩
  obtain ⟨_, ao, cap, rfl, hA⟩ := ints_of_own hown
  have HA : Hid _ := hA
  have HB : Hid _ := hb
  clear hA hown hb
  go_wp2_with fail
  refine (text_of_any (runes s) _ _ _ HLn.out HG.out HA.out).mono ?_
  rintro e w3 ⟨rfl, b3⟩
  go_wp2
  go_ret
  exact ⟨rfl, Below.trans HB.out (b3.mono (Below.size HB.out))⟩
set_option maxRecDepth 100000 in
set_option maxHeartbeats 1000000 in
theorem swhole_big (s : ByteArray) (w : World) (hs : (1000 : Int) < s.size) :
    Calls Tryd.prog 64 #[.string s] w fun e w' => e = .returned (.bool false) ∧ Below w.heap.size w w' := by
  have HT : Hid (decide ((s.size : Int) ≤ 1000) = false) := decide_eq_false (by omega)
  go_enter Tryd.func64, Tryd.ntmps64
  go_wp2_with fail
  refine (text_any s _).mono ?_
  rintro e w1 ⟨rfl, rfl⟩
  rw [HT.out]
  go_wp2
  go_ret
  exact ⟨rfl, Below.refl _ _⟩
end Go.Proofs.YtcclollclbegoaaDoor
