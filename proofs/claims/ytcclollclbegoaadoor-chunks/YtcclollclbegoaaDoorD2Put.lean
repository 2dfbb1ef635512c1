/-
  Contracts of spec.l2Pair and spec.l2Put: the bytes of a rune in a code.
-/
import Derived.Test.YtcclollclbegoaaDoorD2DecA
namespace Go.Proofs.YtcclollclbegoaaDoor
open Go.ChangeShapes Go.WideShapes Go.ChangeAt Go.RowKit
def pairS (en n : Int) : ByteArray := if en = 2 then strOfNums [n / 256, n % 256] else strOfNums [n % 256, n / 256]
/-- The bytes of a rune in a code, the shift behind, and whether it can be written. -/
structure PutR where
  s : ByteArray
  sh : Int
  ok : Bool
def putS (en sh r : Int) : PutR :=
  if en = 1 then ⟨encS r, 0, true⟩
  else if unitsB en then (if r < 65536 then ⟨pairS en r, 0, true⟩ else ⟨pairS en (55296 + (r - 65536) / 1024) ++ pairS en (56320 + (r - 65536) % 1024), 0, true⟩)
  else if en = 4 then ⟨strOfNums [r % 256], 0, decide (r < 256)⟩
  else if r < 32 then ⟨strOfNums [r], sh, decide (r ≠ 14 ∧ r ≠ 15)⟩
  else if 12352 ≤ r ∧ r ≤ 12446 then ⟨if sh = 1 then strOfNums [r - 12352 + 32] else strOfNums [14] ++ strOfNums [r - 12352 + 32], 1, true⟩
  else if r ≤ 126 then ⟨if sh = 0 then strOfNums [r] else strOfNums [15] ++ strOfNums [r], 0, true⟩
  else ⟨⟨#[]⟩, 0, false⟩
theorem strOf_size (l : List Int) : (strOfNums l).size = l.length := strOfNums_size _
theorem pairS_size (en n : Int) : (pairS en n).size = 2 := by unfold pairS; split <;> rw [strOf_size] <;> rfl
theorem putS_size (en sh r : Int) : (putS en sh r).s.size ≤ 4 := by
  unfold putS
  have h1 := encS_size r
  have h2 := encN_len r
  have h3 := pairS_size en r
  have h4 := pairS_size en (55296 + (r - 65536) / 1024)
  have h5 := pairS_size en (56320 + (r - 65536) % 1024)
  repeat' split
  all_goals simp only [ByteArray.size_append, strOf_size, List.length_cons, List.length_nil]
  all_goals first | omega | exact Nat.zero_le _
theorem conv_1b (w : World) (x a : Int) : (convert 22 9 (.slice (some ⟨w.heap.size + 1, 0, none⟩) 1 1)).run Tryd.prog ((w.alloc (.cells #[.int .u8 x] 5)).alloc (.cells #[.int .u8 a] 5)) = .ok (.string (strOfNums [a])) ((w.alloc (.cells #[.int .u8 x] 5)).alloc (.cells #[.int .u8 a] 5)) := by
  have := conv_1 (w.alloc (.cells #[.int .u8 x] 5)) a
  rwa [show (w.alloc (.cells #[.int .u8 x] 5)).heap.size = w.heap.size + 1 by simp] at this
set_option maxRecDepth 100000 in
set_option maxHeartbeats 400000 in
theorem pair_any (en n : Int) (w : World) (h0 : 0 ≤ n) (h1 : n ≤ 65535) :
    Calls Tryd.prog 76 #[.int .i64 en, .int .i64 n] w fun e w' => e = .returned (.string (pairS en n)) ∧ Below w.heap.size w w' := by
  have c2 := conv_2
  have q1 : 0 ≤ n / 256 ∧ n / 256 ≤ 255 := by omega
  have q2 : 0 ≤ n % 256 ∧ n % 256 ≤ 255 := by omega
  unfold pairS
  by_cases h2 : en = 2
  · subst h2
    rw [if_pos rfl]
    go_enter Tryd.func76, Tryd.ntmps76
    go_wp2
    go_ret
    exact ⟨rfl, (Below.refl _ _).alloc (Nat.le_refl _) _⟩
  · have b2 : (en == 2) = false := by rw [beq_eq_false_iff_ne]; exact h2
    rw [if_neg h2]
    clear h2
    go_enter Tryd.func76, Tryd.ntmps76
    go_wp2
    go_ret
    exact ⟨rfl, (Below.refl _ _).alloc (Nat.le_refl _) _⟩
set_option maxRecDepth 100000 in
set_option maxHeartbeats 1000000 in
theorem put_any (en sh r : Int) (w : World) (h0 : 0 ≤ r) (hh : r ≤ 1114111) :
    Calls Tryd.prog 58 #[.int .i64 en, .int .i64 sh, .int .i64 r] w fun e w' => e = .returned (.tuple #[.string (putS en sh r).s, .int .i64 (putS en sh r).sh, .bool (putS en sh r).ok]) ∧ Below w.heap.size w w' := by
  have c1 := conv_1
  have c1b := conv_1b
  by_cases h1 : en = 1
  · subst h1
    rw [show putS 1 sh r = ⟨encS r, 0, true⟩ from by simp [putS]]
    have HU : Hid (∀ w : World, _) := fun w => utf8_any r w h0 hh
    go_enter Tryd.func58, Tryd.ntmps58
    go_wp2_with fail
    refine (HU.out _).mono ?_
    rintro e w1 ⟨rfl, b1⟩
    go_wp2
    go_ret3
    exact ⟨rfl, b1⟩
  · have e1 : (en == 1) = false := by rw [beq_eq_false_iff_ne]; exact h1
    cases hu : unitsB en
    · have HU : Hid _ := hu
      by_cases h4 : en = 4
      · subst h4
        rw [show putS 4 sh r = ⟨strOfNums [r % 256], 0, decide (r < 256)⟩ from by simp [putS, hu]]
        clear hu h1
        go_enter Tryd.func58, Tryd.ntmps58
        go_wp2_with (go_at_call 44; refine (units_any _ _).mono ?_; rintro e w1 ⟨rfl, rfl⟩; rw [HU.out])
        go_ret3
        exact ⟨rfl, (Below.refl _ _).alloc (Nat.le_refl _) _⟩
      · have e4 : (en == 4) = false := by rw [beq_eq_false_iff_ne]; exact h4
        by_cases h32 : r < 32
        · rw [show putS en sh r = ⟨strOfNums [r], sh, decide (r ≠ 14 ∧ r ≠ 15)⟩ from by simp [putS, h1, hu, h4, h32]]
          have tst : ((r != 14) = false ∨ ((r != 14) = true ∧ (r != 15) = false) ∨ ((r != 14) = true ∧ (r != 15) = true)) := by
            cases (r != 14) <;> cases (r != 15) <;> simp
          have HD : Hid ((r != 14 && r != 15) = decide (r ≠ 14 ∧ r ≠ 15)) := by
            show _ = _
            by_cases a : r = 14 <;> by_cases b : r = 15 <;> simp [a, b]
          clear hu h1 h4
          rcases tst with t1 | ⟨t1, t2⟩ | ⟨t1, t2⟩
          · rw [← HD.out, t1]
            go_enter Tryd.func58, Tryd.ntmps58
            go_wp2_with (go_at_call 44; refine (units_any _ _).mono ?_; rintro e w1 ⟨rfl, rfl⟩; rw [HU.out])
            go_ret3
            exact ⟨rfl, (Below.refl _ _).alloc (Nat.le_refl _) _⟩
          · rw [← HD.out, t1, t2]
            go_enter Tryd.func58, Tryd.ntmps58
            go_wp2_with (go_at_call 44; refine (units_any _ _).mono ?_; rintro e w1 ⟨rfl, rfl⟩; rw [HU.out])
            go_ret3
            exact ⟨rfl, (Below.refl _ _).alloc (Nat.le_refl _) _⟩
          · rw [← HD.out, t1, t2]
            go_enter Tryd.func58, Tryd.ntmps58
            go_wp2_with (go_at_call 44; refine (units_any _ _).mono ?_; rintro e w1 ⟨rfl, rfl⟩; rw [HU.out])
            go_ret3
            exact ⟨rfl, (Below.refl _ _).alloc (Nat.le_refl _) _⟩
        · by_cases hk : 12352 ≤ r ∧ r ≤ 12446
          · have HK : Hid _ := decide_eq_true hk
            have HB : Hid _ := decide_eq_true (by omega : 32 ≤ r - 12352 + 32 ∧ r - 12352 + 32 ≤ 126)
            have hz : ¬ 9223372036854775807 < (strOfNums [14]).size + (strOfNums [r - 12352 + 32]).size := by rw [strOf_size, strOf_size]; simp
            by_cases hsh : sh = 1
            · subst hsh
              rw [show putS en 1 r = ⟨strOfNums [r - 12352 + 32], 1, true⟩ from by simp [putS, h1, hu, h4, h32, hk]]
              obtain ⟨k1, k2⟩ := hk
              clear hu h1 h4
              go_enter Tryd.func58, Tryd.ntmps58
              go_wp2_with (first | (go_at_call 44; refine (units_any _ _).mono ?_; rintro e w1 ⟨rfl, rfl⟩; rw [HU.out]) | (go_at_call 42; refine (in_any _ _ _ _).mono ?_; rintro e w2 ⟨rfl, rfl⟩; first | rw [HK.out] | rw [HB.out]))
              go_ret3
              exact ⟨rfl, (Below.refl _ _).alloc (Nat.le_refl _) _⟩
            · rw [show putS en sh r = ⟨strOfNums [14] ++ strOfNums [r - 12352 + 32], 1, true⟩ from by simp [putS, h1, hu, h4, h32, hk, hsh]]
              have n1 : ((1 : Int) != sh) = true := by rw [bne_iff_ne]; exact fun e => hsh e.symm
              obtain ⟨k1, k2⟩ := hk
              clear hu h1 h4 hsh
              go_enter Tryd.func58, Tryd.ntmps58
              go_wp2_with (first | (go_at_call 44; refine (units_any _ _).mono ?_; rintro e w1 ⟨rfl, rfl⟩; rw [HU.out]) | (go_at_call 42; refine (in_any _ _ _ _).mono ?_; rintro e w2 ⟨rfl, rfl⟩; first | rw [HK.out] | rw [HB.out]))
              go_ret3
              exact ⟨rfl, ((Below.refl _ _).alloc (Nat.le_refl _) _).alloc (by simp) _⟩
          · have HK : Hid _ := decide_eq_false hk
            by_cases h126 : r ≤ 126
            · have HB : Hid _ := decide_eq_true (by omega : 32 ≤ r ∧ r ≤ 126)
              have h126' : ¬ 126 < r := by omega
              have hz : ¬ 9223372036854775807 < (strOfNums [15]).size + (strOfNums [r]).size := by rw [strOf_size, strOf_size]; simp
              by_cases hsh : sh = 0
              · subst hsh
                rw [show putS en 0 r = ⟨strOfNums [r], 0, true⟩ from by simp [putS, h1, hu, h4, h32, hk, h126]]
                clear hu h1 h4 hk
                go_enter Tryd.func58, Tryd.ntmps58
                go_wp2_with (first | (go_at_call 44; refine (units_any _ _).mono ?_; rintro e w1 ⟨rfl, rfl⟩; rw [HU.out]) | (go_at_call 42; refine (in_any _ _ _ _).mono ?_; rintro e w2 ⟨rfl, rfl⟩; first | rw [HK.out] | rw [HB.out]))
                go_ret3
                exact ⟨rfl, (Below.refl _ _).alloc (Nat.le_refl _) _⟩
              · rw [show putS en sh r = ⟨strOfNums [15] ++ strOfNums [r], 0, true⟩ from by simp [putS, h1, hu, h4, h32, hk, h126, hsh]]
                have n1 : ((0 : Int) != sh) = true := by rw [bne_iff_ne]; exact fun e => hsh e.symm
                clear hu h1 h4 hk hsh
                go_enter Tryd.func58, Tryd.ntmps58
                go_wp2_with (first | (go_at_call 44; refine (units_any _ _).mono ?_; rintro e w1 ⟨rfl, rfl⟩; rw [HU.out]) | (go_at_call 42; refine (in_any _ _ _ _).mono ?_; rintro e w2 ⟨rfl, rfl⟩; first | rw [HK.out] | rw [HB.out]))
                go_ret3
                exact ⟨rfl, ((Below.refl _ _).alloc (Nat.le_refl _) _).alloc (by simp) _⟩
            · have HB : Hid _ := decide_eq_false (by omega : ¬ (32 ≤ r ∧ r ≤ 126))
              rw [show putS en sh r = ⟨⟨#[]⟩, 0, false⟩ from by simp [putS, h1, hu, h4, h32, hk, h126]]
              clear hu h1 h4 hk
              go_enter Tryd.func58, Tryd.ntmps58
              go_wp2_with (first | (go_at_call 44; refine (units_any _ _).mono ?_; rintro e w1 ⟨rfl, rfl⟩; rw [HU.out]) | (go_at_call 42; refine (in_any _ _ _ _).mono ?_; rintro e w2 ⟨rfl, rfl⟩; first | rw [HK.out] | rw [HB.out]))
              go_ret3
              exact ⟨rfl, Below.refl _ _⟩
    · have HU : Hid _ := hu
      by_cases h65 : r < 65536
      · rw [show putS en sh r = ⟨pairS en r, 0, true⟩ from by simp [putS, h1, hu, h65]]
        have HP : Hid (∀ w : World, _) := fun w => pair_any en r w h0 (by omega)
        clear hu h1
        go_enter Tryd.func58, Tryd.ntmps58
        go_wp2_with (first | (go_at_call 44; refine (units_any _ _).mono ?_; rintro e w1 ⟨rfl, rfl⟩; rw [HU.out]) | (go_at_call 76; refine (HP.out _).mono ?_; rintro e w2 ⟨rfl, b2⟩))
        go_ret3
        exact ⟨rfl, b2⟩
      · rw [show putS en sh r = ⟨pairS en (55296 + (r - 65536) / 1024) ++ pairS en (56320 + (r - 65536) % 1024), 0, true⟩ from by simp [putS, h1, hu, h65]]
        have HP1 : Hid (∀ w : World, _) := fun w => pair_any en (55296 + (r - 65536) / 1024) w (by omega) (by omega)
        have HP2 : Hid (∀ w : World, _) := fun w => pair_any en (56320 + (r - 65536) % 1024) w (by omega) (by omega)
        have q1 : 0 ≤ (r - 65536) / 1024 ∧ (r - 65536) / 1024 ≤ 1023 := by omega
        have q2 : 0 ≤ (r - 65536) % 1024 ∧ (r - 65536) % 1024 ≤ 1023 := by omega
        obtain ⟨q10, q11⟩ := q1
        obtain ⟨q20, q21⟩ := q2
        have HZ : Hid (¬ 9223372036854775807 < (pairS en (55296 + (r - 65536) / 1024)).size + (pairS en (56320 + (r - 65536) % 1024)).size) := by show ¬ _; rw [pairS_size, pairS_size]; decide
        clear hu h1
        go_enter Tryd.func58, Tryd.ntmps58
        go_wp2_with (first | (go_at_call 44; refine (units_any _ _).mono ?_; rintro e w1 ⟨rfl, rfl⟩; rw [HU.out]))
        refine (HP1.out _).mono ?_
        rintro e w2 ⟨rfl, b2⟩
        go_wp2_with fail
        refine (HP2.out _).mono ?_
        rintro e w3 ⟨rfl, b3⟩
        have hz := HZ.out
        go_wp2
        go_ret3
        exact ⟨rfl, b2.trans (b3.mono b2.size)⟩
end Go.Proofs.YtcclollclbegoaaDoor
