/-
  Contracts of the program's readers: readUnits and the methods read.
-/
import Derived.Test.YtcclollclbegoaaDoorI2Code
import Derived.Deep.RegionWith
import Derived.Test.YtcclollclbegoaaDoorD2One
namespace Go.Proofs.YtcclollclbegoaaDoor
open Go.ChangeShapes Go.WideShapes Go.ChangeAt Go.RowKit
theorem na_2 (w : World) : (nilAhead 229 91 (.agg #[]) "loop.example/g00692/impl.unit").run Tryd.prog w = .ok (some false) w := by kernel_rfl
theorem na_3 (w : World) : (nilAhead 229 92 (.agg #[]) "loop.example/g00692/impl.unit").run Tryd.prog w = .ok (some false) w := by kernel_rfl
theorem me_2 (w : World) : (method 229 91 (.agg #[]) "loop.example/g00692/impl.unit").run Tryd.prog w = .ok (111, .agg #[]) w := by kernel_rfl
theorem me_3 (w : World) : (method 229 92 (.agg #[]) "loop.example/g00692/impl.unit").run Tryd.prog w = .ok (118, .agg #[]) w := by kernel_rfl
set_option maxRecDepth 100000 in
set_option maxHeartbeats 1000000 in
theorem iru_2 (s : ByteArray) (w : World) :
    Calls Tryd.prog 113 #[codV 91, .string s] w fun e w' => e = .returned (.tuple #[.int .i64 (oneS 2 s).1, .int .i64 (oneS 2 s).2]) ∧ Below w.heap.size w w' := by
  by_cases h2 : s.size < 2
  · have ho : oneS 2 s = (0, 0) := by simp [oneS, h2]
    rw [ho]
    have h2I : (s.size : Int) < 2 := by omega
    clear ho
    go_enter Tryd.func113, Tryd.ntmps113
    go_wp2
    go_ret2
    exact ⟨rfl, Below.refl _ _⟩
  · have h2I : ¬ (s.size : Int) < 2 := by omega
    have ub := unitN_bd 2 s 0
    cases hlow : lowB (unitN 2 s 0)
    · have hlw := of_decide_eq_false (show decide (56320 ≤ unitN 2 s 0 ∧ unitN 2 s 0 ≤ 57343) = false from hlow)
      cases hhi : highB (unitN 2 s 0)
      · have ho : oneS 2 s = (unitN 2 s 0, 2) := by simp [oneS, h2, hlow, hhi]
        rw [ho]
        have HW : Hid _ := hlow
        have HH : Hid _ := hhi
        clear ho hlow hhi
        go_enter Tryd.func113, Tryd.ntmps113
        go_wp2_with fail
        refine (iunit_2 s _ (by omega)).mono ?_
        rintro e w1 ⟨rfl, b1⟩
        go_wp2_with fail
        refine (ilow_any _ _).mono ?_
        rintro e w2 ⟨rfl, rfl⟩
        rw [HW.out]
        go_wp2_with fail
        refine (ihigh_any _ _).mono ?_
        rintro e w3 ⟨rfl, rfl⟩
        rw [HH.out]
        go_wp2
        go_ret2
        exact ⟨rfl, b1⟩
      · have hhh := of_decide_eq_true (show decide (55296 ≤ unitN 2 s 0 ∧ unitN 2 s 0 ≤ 56319) = true from hhi)
        by_cases h4 : s.size < 4
        · have ho : oneS 2 s = (0, 0) := by simp [oneS, h2, hlow, hhi, h4]
          rw [ho]
          have h4I : (s.size : Int) < 4 := by omega
          have HW : Hid _ := hlow
          have HH : Hid _ := hhi
          clear ho hlow hhi
          go_enter Tryd.func113, Tryd.ntmps113
          go_wp2_with fail
          refine (iunit_2 s _ (by omega)).mono ?_
          rintro e w1 ⟨rfl, b1⟩
          go_wp2_with fail
          refine (ilow_any _ _).mono ?_
          rintro e w2 ⟨rfl, rfl⟩
          rw [HW.out]
          go_wp2_with fail
          refine (ihigh_any _ _).mono ?_
          rintro e w3 ⟨rfl, rfl⟩
          rw [HH.out]
          go_wp2
          go_ret2
          exact ⟨rfl, b1⟩
        · have h4I : ¬ (s.size : Int) < 4 := by omega
          have sl := slice_two s (by omega)
          have nah := na_2
          have met := me_2
          have HT : Hid _ := unit_tail 2 s (by omega)
          have hz : (s.extract 2 s.size).size = s.size - 2 := by rw [ByteArray.size_extract]; omega
          have HZ : Hid (1 < (s.extract 2 s.size).size) := by show 1 < (s.extract 2 s.size).size; omega
          have ub2 := unitN_bd 2 s 2
          clear hz
          cases hl2 : lowB (unitN 2 s 2)
          · have ho : oneS 2 s = (65533, 2) := by simp [oneS, h2, hlow, hhi, h4, hl2]
            rw [ho]
            have HW : Hid _ := hlow
            have HH : Hid _ := hhi
            have HM : Hid _ := hl2
            clear ho hlow hhi hl2
            go_enter Tryd.func113, Tryd.ntmps113
            go_wp2_with fail
            refine (iunit_2 s _ (by omega)).mono ?_
            rintro e w1 ⟨rfl, b1⟩
            go_wp2_with fail
            refine (ilow_any _ _).mono ?_
            rintro e w2 ⟨rfl, rfl⟩
            rw [HW.out]
            go_wp2_with fail
            refine (ihigh_any _ _).mono ?_
            rintro e w3 ⟨rfl, rfl⟩
            rw [HH.out]
            go_wp2_with fail
            go_region_with (go_at_call 111; refine (iunit_2 (s.extract 2 s.size) _ HZ.out).mono ?_; rintro e w4 ⟨rfl, b4⟩; rw [HT.out])
            go_wp2_with fail
            refine (ilow_any _ _).mono ?_
            rintro e w5 ⟨rfl, rfl⟩
            rw [HM.out]
            go_wp2
            go_ret2
            exact ⟨rfl, b1.drew.trans (b4.mono b1.size)⟩
          · have hm2 := of_decide_eq_true (show decide (56320 ≤ unitN 2 s 2 ∧ unitN 2 s 2 ≤ 57343) = true from hl2)
            have ho : oneS 2 s = (65536 + (unitN 2 s 0 - 55296) * 1024 + unitN 2 s 2 - 56320, 4) := by simp [oneS, h2, hlow, hhi, h4, hl2]
            rw [ho]
            have HW : Hid _ := hlow
            have HH : Hid _ := hhi
            have HM : Hid _ := hl2
            clear ho hlow hhi hl2
            go_enter Tryd.func113, Tryd.ntmps113
            go_wp2_with fail
            refine (iunit_2 s _ (by omega)).mono ?_
            rintro e w1 ⟨rfl, b1⟩
            go_wp2_with fail
            refine (ilow_any _ _).mono ?_
            rintro e w2 ⟨rfl, rfl⟩
            rw [HW.out]
            go_wp2_with fail
            refine (ihigh_any _ _).mono ?_
            rintro e w3 ⟨rfl, rfl⟩
            rw [HH.out]
            go_wp2_with fail
            go_region_with (go_at_call 111; refine (iunit_2 (s.extract 2 s.size) _ HZ.out).mono ?_; rintro e w4 ⟨rfl, b4⟩; rw [HT.out])
            go_wp2_with fail
            refine (ilow_any _ _).mono ?_
            rintro e w5 ⟨rfl, rfl⟩
            rw [HM.out]
            go_wp2
            go_ret2
            exact ⟨rfl, b1.drew.trans (b4.mono b1.size)⟩
    · have ho : oneS 2 s = (65533, 2) := by simp [oneS, h2, hlow]
      rw [ho]
      have HW : Hid _ := hlow
      clear ho hlow
      go_enter Tryd.func113, Tryd.ntmps113
      go_wp2_with fail
      refine (iunit_2 s _ (by omega)).mono ?_
      rintro e w1 ⟨rfl, b1⟩
      go_wp2_with fail
      refine (ilow_any _ _).mono ?_
      rintro e w2 ⟨rfl, rfl⟩
      rw [HW.out]
      go_wp2
      go_ret2
      exact ⟨rfl, b1⟩
set_option maxRecDepth 100000 in
set_option maxHeartbeats 400000 in
theorem iread_2 (s : ByteArray) (w : World) :
    Calls Tryd.prog 110 #[.agg #[], .string s] w fun e w' => e = .returned (.tuple #[.int .i64 (oneS 2 s).1, .int .i64 (oneS 2 s).2]) ∧ Below w.heap.size w w' := by
  go_enter Tryd.func110, Tryd.ntmps110
  go_wp2_with fail
  refine (iru_2 s _).mono ?_
  rintro e w1 ⟨rfl, b1⟩
  go_wp2
  go_ret2
  exact ⟨rfl, ((Below.refl _ _).alloc (Nat.le_refl _) _).trans (b1.mono (by simp))⟩
set_option maxRecDepth 100000 in
set_option maxHeartbeats 1000000 in
theorem iru_3 (s : ByteArray) (w : World) :
    Calls Tryd.prog 113 #[codV 92, .string s] w fun e w' => e = .returned (.tuple #[.int .i64 (oneS 3 s).1, .int .i64 (oneS 3 s).2]) ∧ Below w.heap.size w w' := by
  by_cases h2 : s.size < 2
  · have ho : oneS 3 s = (0, 0) := by simp [oneS, h2]
    rw [ho]
    have h2I : (s.size : Int) < 2 := by omega
    clear ho
    go_enter Tryd.func113, Tryd.ntmps113
    go_wp2
    go_ret2
    exact ⟨rfl, Below.refl _ _⟩
  · have h2I : ¬ (s.size : Int) < 2 := by omega
    have ub := unitN_bd 3 s 0
    cases hlow : lowB (unitN 3 s 0)
    · have hlw := of_decide_eq_false (show decide (56320 ≤ unitN 3 s 0 ∧ unitN 3 s 0 ≤ 57343) = false from hlow)
      cases hhi : highB (unitN 3 s 0)
      · have ho : oneS 3 s = (unitN 3 s 0, 2) := by simp [oneS, h2, hlow, hhi]
        rw [ho]
        have HW : Hid _ := hlow
        have HH : Hid _ := hhi
        clear ho hlow hhi
        go_enter Tryd.func113, Tryd.ntmps113
        go_wp2_with fail
        refine (iunit_3 s _ (by omega)).mono ?_
        rintro e w1 ⟨rfl, b1⟩
        go_wp2_with fail
        refine (ilow_any _ _).mono ?_
        rintro e w2 ⟨rfl, rfl⟩
        rw [HW.out]
        go_wp2_with fail
        refine (ihigh_any _ _).mono ?_
        rintro e w3 ⟨rfl, rfl⟩
        rw [HH.out]
        go_wp2
        go_ret2
        exact ⟨rfl, b1⟩
      · have hhh := of_decide_eq_true (show decide (55296 ≤ unitN 3 s 0 ∧ unitN 3 s 0 ≤ 56319) = true from hhi)
        by_cases h4 : s.size < 4
        · have ho : oneS 3 s = (0, 0) := by simp [oneS, h2, hlow, hhi, h4]
          rw [ho]
          have h4I : (s.size : Int) < 4 := by omega
          have HW : Hid _ := hlow
          have HH : Hid _ := hhi
          clear ho hlow hhi
          go_enter Tryd.func113, Tryd.ntmps113
          go_wp2_with fail
          refine (iunit_3 s _ (by omega)).mono ?_
          rintro e w1 ⟨rfl, b1⟩
          go_wp2_with fail
          refine (ilow_any _ _).mono ?_
          rintro e w2 ⟨rfl, rfl⟩
          rw [HW.out]
          go_wp2_with fail
          refine (ihigh_any _ _).mono ?_
          rintro e w3 ⟨rfl, rfl⟩
          rw [HH.out]
          go_wp2
          go_ret2
          exact ⟨rfl, b1⟩
        · have h4I : ¬ (s.size : Int) < 4 := by omega
          have sl := slice_two s (by omega)
          have nah := na_3
          have met := me_3
          have HT : Hid _ := unit_tail 3 s (by omega)
          have hz : (s.extract 2 s.size).size = s.size - 2 := by rw [ByteArray.size_extract]; omega
          have HZ : Hid (1 < (s.extract 2 s.size).size) := by show 1 < (s.extract 2 s.size).size; omega
          have ub2 := unitN_bd 3 s 2
          clear hz
          cases hl2 : lowB (unitN 3 s 2)
          · have ho : oneS 3 s = (65533, 2) := by simp [oneS, h2, hlow, hhi, h4, hl2]
            rw [ho]
            have HW : Hid _ := hlow
            have HH : Hid _ := hhi
            have HM : Hid _ := hl2
            clear ho hlow hhi hl2
            go_enter Tryd.func113, Tryd.ntmps113
            go_wp2_with fail
            refine (iunit_3 s _ (by omega)).mono ?_
            rintro e w1 ⟨rfl, b1⟩
            go_wp2_with fail
            refine (ilow_any _ _).mono ?_
            rintro e w2 ⟨rfl, rfl⟩
            rw [HW.out]
            go_wp2_with fail
            refine (ihigh_any _ _).mono ?_
            rintro e w3 ⟨rfl, rfl⟩
            rw [HH.out]
            go_wp2_with fail
            go_region_with (go_at_call 118; refine (iunit_3 (s.extract 2 s.size) _ HZ.out).mono ?_; rintro e w4 ⟨rfl, b4⟩; rw [HT.out])
            go_wp2_with fail
            refine (ilow_any _ _).mono ?_
            rintro e w5 ⟨rfl, rfl⟩
            rw [HM.out]
            go_wp2
            go_ret2
            exact ⟨rfl, b1.drew.trans (b4.mono b1.size)⟩
          · have hm2 := of_decide_eq_true (show decide (56320 ≤ unitN 3 s 2 ∧ unitN 3 s 2 ≤ 57343) = true from hl2)
            have ho : oneS 3 s = (65536 + (unitN 3 s 0 - 55296) * 1024 + unitN 3 s 2 - 56320, 4) := by simp [oneS, h2, hlow, hhi, h4, hl2]
            rw [ho]
            have HW : Hid _ := hlow
            have HH : Hid _ := hhi
            have HM : Hid _ := hl2
            clear ho hlow hhi hl2
            go_enter Tryd.func113, Tryd.ntmps113
            go_wp2_with fail
            refine (iunit_3 s _ (by omega)).mono ?_
            rintro e w1 ⟨rfl, b1⟩
            go_wp2_with fail
            refine (ilow_any _ _).mono ?_
            rintro e w2 ⟨rfl, rfl⟩
            rw [HW.out]
            go_wp2_with fail
            refine (ihigh_any _ _).mono ?_
            rintro e w3 ⟨rfl, rfl⟩
            rw [HH.out]
            go_wp2_with fail
            go_region_with (go_at_call 118; refine (iunit_3 (s.extract 2 s.size) _ HZ.out).mono ?_; rintro e w4 ⟨rfl, b4⟩; rw [HT.out])
            go_wp2_with fail
            refine (ilow_any _ _).mono ?_
            rintro e w5 ⟨rfl, rfl⟩
            rw [HM.out]
            go_wp2
            go_ret2
            exact ⟨rfl, b1.drew.trans (b4.mono b1.size)⟩
    · have ho : oneS 3 s = (65533, 2) := by simp [oneS, h2, hlow]
      rw [ho]
      have HW : Hid _ := hlow
      clear ho hlow
      go_enter Tryd.func113, Tryd.ntmps113
      go_wp2_with fail
      refine (iunit_3 s _ (by omega)).mono ?_
      rintro e w1 ⟨rfl, b1⟩
      go_wp2_with fail
      refine (ilow_any _ _).mono ?_
      rintro e w2 ⟨rfl, rfl⟩
      rw [HW.out]
      go_wp2
      go_ret2
      exact ⟨rfl, b1⟩
set_option maxRecDepth 100000 in
set_option maxHeartbeats 400000 in
theorem iread_3 (s : ByteArray) (w : World) :
    Calls Tryd.prog 117 #[.agg #[], .string s] w fun e w' => e = .returned (.tuple #[.int .i64 (oneS 3 s).1, .int .i64 (oneS 3 s).2]) ∧ Below w.heap.size w w' := by
  go_enter Tryd.func117, Tryd.ntmps117
  go_wp2_with fail
  refine (iru_3 s _).mono ?_
  rintro e w1 ⟨rfl, b1⟩
  go_wp2
  go_ret2
  exact ⟨rfl, ((Below.refl _ _).alloc (Nat.le_refl _) _).trans (b1.mono (by simp))⟩
set_option maxRecDepth 100000 in
set_option maxHeartbeats 400000 in
theorem iread_4 (s : ByteArray) (w : World) (h0 : 0 < s.size) :
    Calls Tryd.prog 120 #[.agg #[], .string s] w fun e w' => e = .returned (.tuple #[.int .i64 (s[0].toNat : Int), .int .i64 1]) ∧ Below w.heap.size w w' := by
  have c0 := byte_le s 0 h0
  have h0I : (0 : Int) < s.size := by omega
  go_enter Tryd.func120, Tryd.ntmps120
  go_wp2
  go_ret2
  exact ⟨rfl, (Below.refl _ _).alloc (Nat.le_refl _) _⟩
theorem slice_front (s : ByteArray) (n : Nat) (N : Int) (hN : N = n) (h : n ≤ s.size) (w : World) : (Instr.slice 9 (.string s) none (some (.int .i64 N)) none).run Tryd.prog w = .ok (.string (s.extract 0 n)) w := by
  subst hN
  have h' : (n : Int) ≤ s.size := by omega
  go_simp
theorem irat_0 (x : ByteArray) (w : World) (hs : x.size ≤ 1000) (hi : 0 < x.size) (hT : Tabs w) :
    Calls Tryd.prog 107 #[.string x, .int .i64 0] w fun e w' => e = .returned (.tuple #[.int .i64 (decR x 0), .int .i64 (decW x 0), .bool true]) ∧ Below w.heap.size w w' := irat_any x 0 w hs hi hT
set_option maxRecDepth 100000 in
set_option maxHeartbeats 1000000 in
theorem iread_1 (s : ByteArray) (w : World) (h0 : 0 < s.size) (hT : Tabs w) :
    Calls Tryd.prog 105 #[.agg #[], .string s] w fun e w' => e = .returned (.tuple #[.int .i64 (oneS 1 s).1, .int .i64 (oneS 1 s).2]) ∧ Below w.heap.size w w' := by
  have HT : Hid _ := hT
  have HI : Hid _ := ibegun_all s
  cases hb : begB s
  · rw [hb] at HI
    rw [show oneS 1 s = (decR s 0, decW s 0) by simp [oneS, hb]]
    by_cases h4 : s.size ≤ 4
    · have hm : min (s.size : Int) 4 = s.size := by omega
      have sl := slice_front s s.size (s.size : Int) rfl (Nat.le_refl _)
      have hz := front_size s s.size (Nat.le_refl _)
      obtain ⟨f1, f2⟩ := front_dec s s.size h0 (Nat.le_refl _) (.inr rfl)
      have HR : Hid (∀ w, Tabs w → Calls Tryd.prog 107 #[.string (s.extract 0 s.size), .int .i64 0] w fun e w' => e = .returned (.tuple #[.int .i64 (decR s 0), .int .i64 (decW s 0), .bool true]) ∧ Below w.heap.size w w') := fun w hT => by
        rw [← f1, ← f2]; exact irat_0 _ w (by omega) (by omega) hT
      clear f1 f2 hT hb hz
      generalize s.extract 0 s.size = u at *
      go_enter Tryd.func105, Tryd.ntmps105
      go_wp2_with fail
      refine (HI.out _ (HT.out.below ((Below.refl _ _).alloc (Nat.le_refl _) _))).mono ?_
      rintro e w1 ⟨rfl, b1⟩
      replace b1 := ((Below.refl w.heap.size w).alloc (Nat.le_refl _) _).trans (b1.mono (by simp))
      go_wp2_with fail
      refine (HR.out _ (HT.out.below b1)).mono ?_
      rintro e w2 ⟨rfl, b2⟩
      go_wp2
      go_ret2
      exact ⟨rfl, b1.trans (b2.mono b1.size)⟩
    · have hm : min (s.size : Int) 4 = 4 := by omega
      have sl := slice_front s 4 4 rfl (by omega)
      have hz := front_size s 4 (by omega)
      obtain ⟨f1, f2⟩ := front_dec s 4 (by omega) (by omega) (.inl rfl)
      have HR : Hid (∀ w, Tabs w → Calls Tryd.prog 107 #[.string (s.extract 0 4), .int .i64 0] w fun e w' => e = .returned (.tuple #[.int .i64 (decR s 0), .int .i64 (decW s 0), .bool true]) ∧ Below w.heap.size w w') := fun w hT => by
        rw [← f1, ← f2]; exact irat_0 _ w (by omega) (by omega) hT
      clear f1 f2 hT hb hz
      generalize s.extract 0 4 = u at *
      go_enter Tryd.func105, Tryd.ntmps105
      go_wp2_with fail
      refine (HI.out _ (HT.out.below ((Below.refl _ _).alloc (Nat.le_refl _) _))).mono ?_
      rintro e w1 ⟨rfl, b1⟩
      replace b1 := ((Below.refl w.heap.size w).alloc (Nat.le_refl _) _).trans (b1.mono (by simp))
      go_wp2_with fail
      refine (HR.out _ (HT.out.below b1)).mono ?_
      rintro e w2 ⟨rfl, b2⟩
      go_wp2
      go_ret2
      exact ⟨rfl, b1.trans (b2.mono b1.size)⟩
  · rw [hb] at HI
    rw [show oneS 1 s = (0, 0) by simp [oneS, hb]]
    clear hT hb
    go_enter Tryd.func105, Tryd.ntmps105
    go_wp2_with fail
    refine (HI.out _ (HT.out.below ((Below.refl _ _).alloc (Nat.le_refl _) _))).mono ?_
    rintro e w1 ⟨rfl, b1⟩
    replace b1 := ((Below.refl w.heap.size w).alloc (Nat.le_refl _) _).trans (b1.mono (by simp))
    go_wp2
    go_ret2
    exact ⟨rfl, b1⟩
end Go.Proofs.YtcclollclbegoaaDoor
