/-
  Contracts of spec.GoodDecoder, spec.NewDecoder and spec.l2One.
-/
import Derived.Test.YtklgagonbehpeaaDoorD2Core
namespace Go.Proofs.YtklgagonbehpeaaDoor
open Go.ChangeShapes Go.WideShapes Go.ChangeAt Go.RowKit
abbrev decV (en sh lo : Int) (held : ByteArray) : Value := .agg #[.int .i64 en, .int .i64 sh, .int .i64 lo, .string held]
theorem isEmpty_yes {s : ByteArray} (h : s.size = 0) : s.toList.isEmpty = true := by
  rw [Lib.toList_data]
  have : s.data.toList.length = s.size := by simp
  cases hd : s.data.toList with
  | nil => rfl
  | cons a l => rw [hd] at this; simp at this; omega
theorem isEmpty_no {s : ByteArray} (h : 0 < s.size) : s.toList.isEmpty = false := by
  rw [Lib.toList_data]
  have : s.data.toList.length = s.size := by simp
  cases hd : s.data.toList with
  | nil => rw [hd] at this; simp at this; omega
  | cons a l => rfl
theorem good_parts (en sh lo : Int) (held : ByteArray) (h : codeB en = false ∨ decide (0 ≤ sh ∧ sh ≤ 1) = false ∨ decide (0 ≤ lo ∧ lo ≤ 1000) = false ∨ (en ≠ 5 ∧ 0 < sh + lo)) : goodD en sh lo held = false := by
  unfold goodD
  rcases h with h | h | h | ⟨h1, h2⟩
  · rw [h]; rfl
  · rw [h, Bool.and_false]; rfl
  · rw [h, Bool.and_false]; rfl
  · rw [decide_eq_false h1, decide_eq_false (by omega : ¬ sh + lo ≤ 0), Bool.false_or, Bool.and_false]; rfl
theorem good_rest (en sh lo : Int) (held : ByteArray) (h1 : codeB en = true) (h2 : decide (0 ≤ sh ∧ sh ≤ 1) = true) (h3 : decide (0 ≤ lo ∧ lo ≤ 1000) = true) (h4 : en = 5 ∨ sh + lo ≤ 0) :
    goodD en sh lo held = (if en = 1 then decide (held.size = 0) || begB held
     else if unitsB en then decide (held.size < 2) || (decide (held.size < 4) && highB (unitN en held 0))
     else decide (held.size = 0)) := by
  unfold goodD
  have h5 : (decide (en = 5) || decide (sh + lo ≤ 0)) = true := by rcases h4 with h | h <;> simp [h]
  rw [h1, h2, h3, h5]; simp only [Bool.true_and]
set_option maxRecDepth 100000 in
set_option maxHeartbeats 2000000 in
theorem gd_any (en sh lo : Int) (held : ByteArray) (w : World) :
    Calls Tryd.prog 11 #[decV en sh lo held] w fun e w' => e = .returned (.bool (goodD en sh lo held)) ∧ Below w.heap.size w w' := by
  cases hc : codeB en
  · rw [good_parts en sh lo held (.inl hc)]
    have HC : Hid _ := hc
    have HS : Hid (True = True) := rfl
    have HL : Hid (True = True) := rfl
    clear hc
    go_enter Tryd.func11, Tryd.ntmps11
    go_wp2_with (first | (go_at_call 20; refine (code_any _ _).mono ?_; rintro e w1 ⟨rfl, rfl⟩; rw [HC.out]) | (go_at_call 21; refine (in_any _ _ _ _).mono ?_; rintro e w2 ⟨rfl, rfl⟩; first | rw [HS.out] | rw [HL.out]))
    go_ret
    exact ⟨rfl, (Below.refl _ _).alloc (Nat.le_refl _) _⟩
  · cases hs : decide (0 ≤ sh ∧ sh ≤ 1)
    · rw [good_parts en sh lo held (.inr (.inl hs))]
      have HC : Hid _ := hc
      have HS : Hid _ := hs
      have HL : Hid (True = True) := rfl
      clear hc hs
      go_enter Tryd.func11, Tryd.ntmps11
      go_wp2_with (first | (go_at_call 20; refine (code_any _ _).mono ?_; rintro e w1 ⟨rfl, rfl⟩; rw [HC.out]) | (go_at_call 21; refine (in_any _ _ _ _).mono ?_; rintro e w2 ⟨rfl, rfl⟩; first | rw [HS.out] | rw [HL.out]))
      go_ret
      exact ⟨rfl, (Below.refl _ _).alloc (Nat.le_refl _) _⟩
    · cases hl : decide (0 ≤ lo ∧ lo ≤ 1000)
      · rw [good_parts en sh lo held (.inr (.inr (.inl hl)))]
        have HC : Hid _ := hc
        have HS : Hid _ := hs
        have HL : Hid _ := hl
        clear hc hs hl
        go_enter Tryd.func11, Tryd.ntmps11
        go_wp2_with (first | (go_at_call 20; refine (code_any _ _).mono ?_; rintro e w1 ⟨rfl, rfl⟩; rw [HC.out]) | (go_at_call 21; refine (in_any _ _ _ _).mono ?_; rintro e w2 ⟨rfl, rfl⟩; first | rw [HS.out] | rw [HL.out]))
        go_ret
        exact ⟨rfl, (Below.refl _ _).alloc (Nat.le_refl _) _⟩
      · have HC : Hid _ := hc
        have HS : Hid _ := hs
        have HL : Hid _ := hl
        have s01 := of_decide_eq_true hs
        have l01 := of_decide_eq_true hl
        obtain ⟨s0, s1⟩ := s01
        obtain ⟨l0, l1⟩ := l01
        by_cases hD : en ≠ 5 ∧ 0 < sh + lo
        · rw [good_parts en sh lo held (.inr (.inr (.inr hD)))]
          obtain ⟨h5, hp⟩ := hD
          have n5 : (en != 5) = true := by rw [bne_iff_ne]; exact h5
          clear hc hs hl h5
          go_enter Tryd.func11, Tryd.ntmps11
          go_wp2_with (first | (go_at_call 20; refine (code_any _ _).mono ?_; rintro e w1 ⟨rfl, rfl⟩; rw [HC.out]) | (go_at_call 21; refine (in_any _ _ _ _).mono ?_; rintro e w2 ⟨rfl, rfl⟩; first | rw [HS.out] | rw [HL.out]))
          go_ret
          exact ⟨rfl, (Below.refl _ _).alloc (Nat.le_refl _) _⟩
        · rw [good_rest en sh lo held hc hs hl (by omega)]
          have hcc := of_decide_eq_true (show decide (1 ≤ en ∧ en ≤ 5) = true from hc)
          have test : (en != 5) = false ∨ ((en != 5) = true ∧ ¬ 0 < sh + lo) := by
            by_cases h : en = 5
            · exact .inl (by rw [h]; rfl)
            · exact .inr ⟨by rw [bne_iff_ne]; exact h, by omega⟩
          clear hc hs hl
          rcases (by omega : en = 1 ∨ (en = 2 ∨ en = 3) ∨ (en = 4 ∨ en = 5)) with rfl | h23 | h45
          · rw [if_pos rfl]
            have hp : ¬ 0 < sh + lo := by omega
            clear test hD
            by_cases h0 : held.size = 0
            · have hem := isEmpty_yes h0
              rw [decide_eq_true h0, Bool.true_or]
              clear h0
              go_enter Tryd.func11, Tryd.ntmps11
              go_wp2_with (first | (go_at_call 20; refine (code_any _ _).mono ?_; rintro e w1 ⟨rfl, rfl⟩; rw [HC.out]) | (go_at_call 21; refine (in_any _ _ _ _).mono ?_; rintro e w2 ⟨rfl, rfl⟩; first | rw [HS.out] | rw [HL.out]))
              go_ret
              exact ⟨rfl, (Below.refl _ _).alloc (Nat.le_refl _) _⟩
            · have hem := isEmpty_no (s := held) (by omega)
              rw [decide_eq_false h0, Bool.false_or]
              clear h0
              go_enter Tryd.func11, Tryd.ntmps11
              go_wp2_with (first | (go_at_call 20; refine (code_any _ _).mono ?_; rintro e w1 ⟨rfl, rfl⟩; rw [HC.out]) | (go_at_call 21; refine (in_any _ _ _ _).mono ?_; rintro e w2 ⟨rfl, rfl⟩; first | rw [HS.out] | rw [HL.out]) | (go_at_call 22; refine (begun_any _ _).mono ?_; rintro e w3 ⟨rfl, b3⟩))
              go_ret
              exact ⟨rfl, ((Below.refl _ _).alloc (Nat.le_refl _) _).trans (b3.mono (by simp))⟩
          · have hn1 : ¬ en = 1 := by omega
            have e1 : (en == 1) = false := by rw [beq_eq_false_iff_ne]; exact hn1
            have hu : unitsB en = true := decide_eq_true h23
            have HU : Hid _ := hu
            have n5 : (en != 5) = true := by rw [bne_iff_ne]; omega
            have hp : ¬ 0 < sh + lo := by omega
            rw [if_neg hn1, if_pos hu]
            clear test hD hn1 hu h23
            by_cases h2 : held.size < 2
            · have h2I : (held.size : Int) < 2 := by omega
              rw [decide_eq_true h2, Bool.true_or]
              go_enter Tryd.func11, Tryd.ntmps11
              go_wp2_with (first | (go_at_call 20; refine (code_any _ _).mono ?_; rintro e w1 ⟨rfl, rfl⟩; rw [HC.out]) | (go_at_call 21; refine (in_any _ _ _ _).mono ?_; rintro e w2 ⟨rfl, rfl⟩; first | rw [HS.out] | rw [HL.out]) | (go_at_call 23; refine (units_any _ _).mono ?_; rintro e w3 ⟨rfl, rfl⟩; rw [HU.out]))
              go_ret
              exact ⟨rfl, (Below.refl _ _).alloc (Nat.le_refl _) _⟩
            · have h2I : ¬ (held.size : Int) < 2 := by omega
              rw [decide_eq_false h2, Bool.false_or]
              by_cases h4 : held.size < 4
              · have h4I : (held.size : Int) < 4 := by omega
                rw [decide_eq_true h4, Bool.true_and]
                go_enter Tryd.func11, Tryd.ntmps11
                go_wp2_with (first | (go_at_call 20; refine (code_any _ _).mono ?_; rintro e w1 ⟨rfl, rfl⟩; rw [HC.out]) | (go_at_call 21; refine (in_any _ _ _ _).mono ?_; rintro e w2 ⟨rfl, rfl⟩; first | rw [HS.out] | rw [HL.out]) | (go_at_call 23; refine (units_any _ _).mono ?_; rintro e w3 ⟨rfl, rfl⟩; rw [HU.out]) | (go_at_call 25; refine (unit_any _ _ _ (by omega)).mono ?_; rintro e w4 ⟨rfl, b4⟩) | (go_at_call 24; refine (high_any _ _).mono ?_; rintro e w5 ⟨rfl, rfl⟩))
                go_ret
                exact ⟨ret_bool (by rw [decide_eq_false (by omega : ¬ (held.size : Int) < 2)]; rfl), ((Below.refl _ _).alloc (Nat.le_refl _) _).trans (b4.mono (by simp))⟩
              · have h4I : ¬ (held.size : Int) < 4 := by omega
                rw [decide_eq_false h4, Bool.false_and]
                go_enter Tryd.func11, Tryd.ntmps11
                go_wp2_with (first | (go_at_call 20; refine (code_any _ _).mono ?_; rintro e w1 ⟨rfl, rfl⟩; rw [HC.out]) | (go_at_call 21; refine (in_any _ _ _ _).mono ?_; rintro e w2 ⟨rfl, rfl⟩; first | rw [HS.out] | rw [HL.out]) | (go_at_call 23; refine (units_any _ _).mono ?_; rintro e w3 ⟨rfl, rfl⟩; rw [HU.out]))
                go_ret
                exact ⟨ret_bool (decide_eq_false (by omega : ¬ (held.size : Int) < 2)), (Below.refl _ _).alloc (Nat.le_refl _) _⟩
          · have hn1 : ¬ en = 1 := by omega
            have e1 : (en == 1) = false := by rw [beq_eq_false_iff_ne]; exact hn1
            have hu : unitsB en = false := decide_eq_false (by omega)
            have HU : Hid _ := hu
            rw [if_neg hn1, hu, if_neg Bool.false_ne_true]
            clear hD hn1 hu h45
            by_cases h0 : held.size = 0
            · have hem := isEmpty_yes h0
              rw [decide_eq_true h0]
              clear h0
              rcases test with n5 | ⟨n5, hp⟩
              · skip
                go_enter Tryd.func11, Tryd.ntmps11
                go_wp2_with (first | (go_at_call 20; refine (code_any _ _).mono ?_; rintro e w1 ⟨rfl, rfl⟩; rw [HC.out]) | (go_at_call 21; refine (in_any _ _ _ _).mono ?_; rintro e w2 ⟨rfl, rfl⟩; first | rw [HS.out] | rw [HL.out]) | (go_at_call 23; refine (units_any _ _).mono ?_; rintro e w3 ⟨rfl, rfl⟩; rw [HU.out]))
                go_ret
                exact ⟨rfl, (Below.refl _ _).alloc (Nat.le_refl _) _⟩
              · skip
                go_enter Tryd.func11, Tryd.ntmps11
                go_wp2_with (first | (go_at_call 20; refine (code_any _ _).mono ?_; rintro e w1 ⟨rfl, rfl⟩; rw [HC.out]) | (go_at_call 21; refine (in_any _ _ _ _).mono ?_; rintro e w2 ⟨rfl, rfl⟩; first | rw [HS.out] | rw [HL.out]) | (go_at_call 23; refine (units_any _ _).mono ?_; rintro e w3 ⟨rfl, rfl⟩; rw [HU.out]))
                go_ret
                exact ⟨rfl, (Below.refl _ _).alloc (Nat.le_refl _) _⟩
            · have hem := isEmpty_no (s := held) (by omega)
              rw [decide_eq_false h0]
              clear h0
              rcases test with n5 | ⟨n5, hp⟩
              · skip
                go_enter Tryd.func11, Tryd.ntmps11
                go_wp2_with (first | (go_at_call 20; refine (code_any _ _).mono ?_; rintro e w1 ⟨rfl, rfl⟩; rw [HC.out]) | (go_at_call 21; refine (in_any _ _ _ _).mono ?_; rintro e w2 ⟨rfl, rfl⟩; first | rw [HS.out] | rw [HL.out]) | (go_at_call 23; refine (units_any _ _).mono ?_; rintro e w3 ⟨rfl, rfl⟩; rw [HU.out]))
                go_ret
                exact ⟨rfl, (Below.refl _ _).alloc (Nat.le_refl _) _⟩
              · skip
                go_enter Tryd.func11, Tryd.ntmps11
                go_wp2_with (first | (go_at_call 20; refine (code_any _ _).mono ?_; rintro e w1 ⟨rfl, rfl⟩; rw [HC.out]) | (go_at_call 21; refine (in_any _ _ _ _).mono ?_; rintro e w2 ⟨rfl, rfl⟩; first | rw [HS.out] | rw [HL.out]) | (go_at_call 23; refine (units_any _ _).mono ?_; rintro e w3 ⟨rfl, rfl⟩; rw [HU.out]))
                go_ret
                exact ⟨rfl, (Below.refl _ _).alloc (Nat.le_refl _) _⟩
end Go.Proofs.YtklgagonbehpeaaDoor
