/-
  Contract of impl.IsWhole.
-/
import Derived.Test.YtjnnikbgpjiecaaDoorTof
import Derived.Test.YtjnnikbgpjiecaaDoorSWhole
namespace Go.Proofs.YtjnnikbgpjiecaaDoor
open Go.ChangeShapes Go.WideShapes Go.ChangeAt Go.WideMaps Go.WideElems Go.RowKit
set_option maxRecDepth 100000 in
set_option maxHeartbeats 1000000 in
theorem iwhole_big (s : ByteArray) (w : World) (hs : (1000 : Int) < s.size) :
    Calls Tryd.prog 69 #[.string s] w fun e w' => e = .returned (.bool false) ∧ Below w.heap.size w w' := by
  have HS : Hid _ := hs
  clear hs
  go_enter Tryd.func69, Tryd.ntmps69
  go_wp2_with fail
  refine (irunes_big s _ HS.out).mono ?_
  rintro e w1 ⟨rfl, rfl⟩
  go_wp2
  go_ret
  exact ⟨rfl, Below.refl _ _⟩
theorem toList_inj {a b : ByteArray} (h : a.toList = b.toList) : a.size = b.size := by
  rw [Lib.toList_data, Lib.toList_data] at h
  have := congrArg List.length h
  simpa using this
set_option maxRecDepth 100000 in
set_option maxHeartbeats 1000000 in
theorem iwhole_any (s : ByteArray) (w : World) (hs : s.size ≤ 1000) (hT : Tabs w) :
    Calls Tryd.prog 69 #[.string s] w fun e w' => e = .returned (.bool ((textS (runes s)).toList == s.toList)) ∧ Below w.heap.size w w' := by
  have HS : Hid _ := hs
  have HLn : Hid ((runes s).length ≤ 1000) := by have := runes_len s; show (runes s).length ≤ 1000; omega
  have HT : Hid _ := hT
  have hall : allG (runes s) = true := List.all_eq_true.2 (runes_good s)
  by_cases ht : (textB (runes s)).length ≤ 1000
  · have hy : tB (runes s) = true := by unfold tB; rw [hall, decide_eq_true HLn.out, decide_eq_true ht]; rfl
    have HY : Hid _ := hy
    have HY2 : Hid _ := tS_yes hy
    clear hs hT hall ht hy
    go_enter Tryd.func69, Tryd.ntmps69
    go_wp2_with fail
    refine (irunes_any s _ HS.out).mono ?_
    rintro e w2 ⟨v, rfl, hown, hb⟩
    obtain ⟨_, ao, cap, rfl, hA⟩ := ints_of_own hown
    have HA : Hid _ := hA
    have HB : Hid _ := hb
    clear hA hown hb
    go_wp2_with fail
    refine (itext_any (runes s) _ _ _ HLn.out HA.out (Tabs.below HT.out HB.out)).mono ?_
    rintro e w3 ⟨rfl, b3⟩
    rw [HY.out, HY2.out]
    go_wp2
    go_ret
    exact ⟨rfl, Below.trans HB.out (b3.mono (Below.size HB.out))⟩
  · have hn : tB (runes s) = false := by unfold tB; rw [decide_eq_false ht, Bool.and_false]
    have HN : Hid _ := hn
    have HN2 : Hid _ := tS_no hn
    have hf : ((textS (runes s)).toList == s.toList) = false := by
      rw [beq_eq_false_iff_ne]
      intro h
      have := toList_inj h
      rw [textS_size] at this
      omega
    rw [hf]
    clear hs hT hall ht hn hf
    go_enter Tryd.func69, Tryd.ntmps69
    go_wp2_with fail
    refine (irunes_any s _ HS.out).mono ?_
    rintro e w2 ⟨v, rfl, hown, hb⟩
    obtain ⟨_, ao, cap, rfl, hA⟩ := ints_of_own hown
    have HA : Hid _ := hA
    have HB : Hid _ := hb
    clear hA hown hb
    go_wp2_with fail
    refine (itext_any (runes s) _ _ _ HLn.out HA.out (Tabs.below HT.out HB.out)).mono ?_
    rintro e w3 ⟨rfl, b3⟩
    rw [HN.out, HN2.out]
    go_wp2
    go_ret
    exact ⟨rfl, Below.trans HB.out (b3.mono (Below.size HB.out))⟩
end Go.Proofs.YtjnnikbgpjiecaaDoor
