/-
  Contract of spec.l2One: the rune at the front of some bytes in a code.
-/
import Derived.Test.YtcclollclbegoaaDoorD2Good
namespace Go.Proofs.YtcclollclbegoaaDoor
open Go.ChangeShapes Go.WideShapes Go.ChangeAt Go.RowKit
theorem at_zero2 (x : ByteArray) (w : World) (hs : x.size ≤ 2000) (hi : 0 < x.size) :
    Calls Tryd.prog 71 #[.string x, .int .i64 0] w fun e w' => e = .returned (.tuple #[.int .i64 (decR x 0), .int .i64 (decW x 0)]) ∧ Below w.heap.size w w' := at_any2 x 0 w hs hi
theorem slice_two (s : ByteArray) (h2 : 2 ≤ s.size) (w : World) : (Instr.slice 9 (.string s) (some (.int .i64 2)) none none).run Tryd.prog w = .ok (.string (s.extract 2 s.size)) w := by
  have h' : (2 : Int) ≤ s.size := by omega
  go_simp
theorem tail2_byt (s : ByteArray) (k : Nat) (h : 2 + k < s.size) : byt (s.extract 2 s.size) k = byt s (2 + k) := by
  have hz : (s.extract 2 s.size).size = s.size - 2 := by rw [ByteArray.size_extract]; omega
  have e1 : (s.extract 2 s.size).data.toList[k]? = some s[2 + k] := by
    rw [Lib.extract_data, List.getElem?_take, if_pos (by omega), List.getElem?_drop]
    exact byt_list s (2 + k) h
  rw [byt_of e1, byt_eq h]
theorem unit_tail (en : Int) (s : ByteArray) (h : 4 ≤ s.size) : unitN en (s.extract 2 s.size) 0 = unitN en s 2 := by
  unfold unitN
  have a := tail2_byt s 0 (by omega)
  have b := tail2_byt s 1 (by omega)
  simp only [Nat.add_zero, Nat.zero_add] at a b ⊢
  rw [a, b]
set_option maxRecDepth 100000 in
set_option maxHeartbeats 1000000 in
theorem l2one_any (en : Int) (s : ByteArray) (w : World) (h0 : 0 < s.size) (hs : s.size ≤ 2000) :
    Calls Tryd.prog 67 #[.int .i64 en, .string s] w fun e w' => e = .returned (.tuple #[.int .i64 (oneS en s).1, .int .i64 (oneS en s).2]) ∧ Below w.heap.size w w' := by
  have HS : Hid _ := hs
  have H0 : Hid _ := h0
  by_cases h1 : en = 1
  · subst h1
    cases hb : begB s
    · have ho : oneS 1 s = (decR s 0, decW s 0) := by simp [oneS, hb]
      rw [ho]
      have HB : Hid _ := hb
      clear hb ho
      go_enter Tryd.func67, Tryd.ntmps67
      go_wp2_with fail
      refine (begun_any s _).mono ?_
      rintro e w1 ⟨rfl, b1⟩
      rw [HB.out]
      go_wp2_with fail
      refine (at_zero2 s _ HS.out H0.out).mono ?_
      rintro e w2 ⟨rfl, b2⟩
      go_wp2
      go_ret2
      exact ⟨rfl, b1.trans (b2.mono b1.size)⟩
    · have ho : oneS 1 s = (0, 0) := by simp [oneS, hb]
      rw [ho]
      have HB : Hid _ := hb
      clear hb ho
      go_enter Tryd.func67, Tryd.ntmps67
      go_wp2_with fail
      refine (begun_any s _).mono ?_
      rintro e w1 ⟨rfl, b1⟩
      rw [HB.out]
      go_wp2
      go_ret2
      exact ⟨rfl, b1⟩
  · have e1 : (en == 1) = false := by rw [beq_eq_false_iff_ne]; exact h1
    by_cases h2 : s.size < 2
    · have ho : oneS en s = (0, 0) := by simp [oneS, h1, h2]
      rw [ho]
      have h2I : (s.size : Int) < 2 := by omega
      clear ho h1
      go_enter Tryd.func67, Tryd.ntmps67
      go_wp2
      go_ret2
      exact ⟨rfl, Below.refl _ _⟩
    · have h2I : ¬ (s.size : Int) < 2 := by omega
      have ub := unitN_bd en s 0
      cases hlow : lowB (unitN en s 0)
      · have hlw := of_decide_eq_false (show decide (56320 ≤ unitN en s 0 ∧ unitN en s 0 ≤ 57343) = false from hlow)
        cases hhi : highB (unitN en s 0)
        · have ho : oneS en s = (unitN en s 0, 2) := by simp [oneS, h1, h2, hlow, hhi]
          rw [ho]
          have HW : Hid _ := hlow
          have HH : Hid _ := hhi
          clear ho h1 hlow hhi
          go_enter Tryd.func67, Tryd.ntmps67
          go_wp2_with fail
          refine (unit_any en s _ (by omega)).mono ?_
          rintro e w1 ⟨rfl, b1⟩
          go_wp2_with fail
          refine (low_any _ _).mono ?_
          rintro e w2 ⟨rfl, rfl⟩
          rw [HW.out]
          go_wp2_with fail
          refine (high_any _ _).mono ?_
          rintro e w3 ⟨rfl, rfl⟩
          rw [HH.out]
          go_wp2
          go_ret2
          exact ⟨rfl, b1⟩
        · have hhh := of_decide_eq_true (show decide (55296 ≤ unitN en s 0 ∧ unitN en s 0 ≤ 56319) = true from hhi)
          by_cases h4 : s.size < 4
          · have ho : oneS en s = (0, 0) := by simp [oneS, h1, h2, hlow, hhi, h4]
            rw [ho]
            have h4I : (s.size : Int) < 4 := by omega
            have HW : Hid _ := hlow
            have HH : Hid _ := hhi
            clear ho h1 hlow hhi
            go_enter Tryd.func67, Tryd.ntmps67
            go_wp2_with fail
            refine (unit_any en s _ (by omega)).mono ?_
            rintro e w1 ⟨rfl, b1⟩
            go_wp2_with fail
            refine (low_any _ _).mono ?_
            rintro e w2 ⟨rfl, rfl⟩
            rw [HW.out]
            go_wp2_with fail
            refine (high_any _ _).mono ?_
            rintro e w3 ⟨rfl, rfl⟩
            rw [HH.out]
            go_wp2
            go_ret2
            exact ⟨rfl, b1⟩
          · have h4I : ¬ (s.size : Int) < 4 := by omega
            have sl := slice_two s (by omega)
            have HT : Hid _ := unit_tail en s (by omega)
            have hz : (s.extract 2 s.size).size = s.size - 2 := by rw [ByteArray.size_extract]; omega
            have HZ : Hid (1 < (s.extract 2 s.size).size) := by show 1 < (s.extract 2 s.size).size; omega
            have ub2 := unitN_bd en s 2
            clear hz
            cases hl2 : lowB (unitN en s 2)
            · have ho : oneS en s = (65533, 2) := by simp [oneS, h1, h2, hlow, hhi, h4, hl2]
              rw [ho]
              have HW : Hid _ := hlow
              have HH : Hid _ := hhi
              have HM : Hid _ := hl2
              clear ho h1 hlow hhi hl2
              go_enter Tryd.func67, Tryd.ntmps67
              go_wp2_with fail
              refine (unit_any en s _ (by omega)).mono ?_
              rintro e w1 ⟨rfl, b1⟩
              go_wp2_with fail
              refine (low_any _ _).mono ?_
              rintro e w2 ⟨rfl, rfl⟩
              rw [HW.out]
              go_wp2_with fail
              refine (high_any _ _).mono ?_
              rintro e w3 ⟨rfl, rfl⟩
              rw [HH.out]
              go_wp2_with fail
              refine (unit_any en (s.extract 2 s.size) _ HZ.out).mono ?_
              rintro e w4 ⟨rfl, b4⟩
              rw [HT.out]
              go_wp2_with fail
              refine (low_any _ _).mono ?_
              rintro e w5 ⟨rfl, rfl⟩
              rw [HM.out]
              go_wp2
              go_ret2
              exact ⟨rfl, b1.trans (b4.mono b1.size)⟩
            · have hm2 := of_decide_eq_true (show decide (56320 ≤ unitN en s 2 ∧ unitN en s 2 ≤ 57343) = true from hl2)
              have ho : oneS en s = (65536 + (unitN en s 0 - 55296) * 1024 + unitN en s 2 - 56320, 4) := by simp [oneS, h1, h2, hlow, hhi, h4, hl2]
              rw [ho]
              have HW : Hid _ := hlow
              have HH : Hid _ := hhi
              have HM : Hid _ := hl2
              clear ho h1 hlow hhi hl2
              go_enter Tryd.func67, Tryd.ntmps67
              go_wp2_with fail
              refine (unit_any en s _ (by omega)).mono ?_
              rintro e w1 ⟨rfl, b1⟩
              go_wp2_with fail
              refine (low_any _ _).mono ?_
              rintro e w2 ⟨rfl, rfl⟩
              rw [HW.out]
              go_wp2_with fail
              refine (high_any _ _).mono ?_
              rintro e w3 ⟨rfl, rfl⟩
              rw [HH.out]
              go_wp2_with fail
              refine (unit_any en (s.extract 2 s.size) _ HZ.out).mono ?_
              rintro e w4 ⟨rfl, b4⟩
              rw [HT.out]
              go_wp2_with fail
              refine (low_any _ _).mono ?_
              rintro e w5 ⟨rfl, rfl⟩
              rw [HM.out]
              go_wp2
              go_ret2
              exact ⟨rfl, b1.trans (b4.mono b1.size)⟩
      · have ho : oneS en s = (65533, 2) := by simp [oneS, h1, h2, hlow]
        rw [ho]
        have HW : Hid _ := hlow
        clear ho h1 hlow
        go_enter Tryd.func67, Tryd.ntmps67
        go_wp2_with fail
        refine (unit_any en s _ (by omega)).mono ?_
        rintro e w1 ⟨rfl, b1⟩
        go_wp2_with fail
        refine (low_any _ _).mono ?_
        rintro e w2 ⟨rfl, rfl⟩
        rw [HW.out]
        go_wp2
        go_ret2
        exact ⟨rfl, b1⟩
end Go.Proofs.YtcclollclbegoaaDoor
