/-
  Two runes joined to one, in the specification and in the program.
-/
import Derived.Test.YtjfehgmpcgepnaaN3F
namespace Go.Proofs.Ytjfehgmpcgepnaa
open Go.ChangeShapes Go.WideShapes Go.ChangeAt Go.RowKit
theorem placeN_hi (r : Int) : placeN r ≤ 51 := by unfold placeN; split <;> (try split) <;> omega
theorem placeN_lo (r : Int) : -1 ≤ placeN r := by unfold placeN; split <;> (try split) <;> omega
theorem placeN_yes {r : Int} (h : 0 ≤ placeN r) : (65 ≤ r ∧ r ≤ 90 ∧ placeN r = r - 65) ∨ (97 ≤ r ∧ r ≤ 122 ∧ placeN r = r - 97 + 26) := by
  unfold placeN at h ⊢
  by_cases h1 : 65 ≤ r ∧ r ≤ 90
  · rw [if_pos h1] at h ⊢; exact .inl ⟨h1.1, h1.2, rfl⟩
  · rw [if_neg h1] at h ⊢
    by_cases h2 : 97 ≤ r ∧ r ≤ 122
    · rw [if_pos h2] at h ⊢; exact .inr ⟨h2.1, h2.2, rfl⟩
    · rw [if_neg h2] at h; omega
theorem placeN_no {r : Int} (h : placeN r < 0) : placeN r = -1 ∧ ¬ (65 ≤ r ∧ r ≤ 90) ∧ ¬ (97 ≤ r ∧ r ≤ 122) := by
  unfold placeN at h ⊢
  by_cases h1 : 65 ≤ r ∧ r ≤ 90
  · rw [if_pos h1] at h; omega
  · rw [if_neg h1] at h ⊢
    by_cases h2 : 97 ≤ r ∧ r ≤ 122
    · rw [if_pos h2] at h; omega
    · rw [if_neg h2]; exact ⟨rfl, h1, h2⟩
set_option maxHeartbeats 1000000 in
theorem sletter_any (r : Int) (w : World) :
    Calls Try.prog 49 #[.int .i64 r] w fun e w' => e = .returned (.int .i64 (placeN r)) ∧ w = w' := by
  rcases Int.lt_or_le (placeN r) 0 with h | h
  · obtain ⟨e, h1, h2⟩ := placeN_no h
    rw [e]
    clear e h
    go_enter Try.func49, Try.ntmps49
    go_wp2_with (go_at_call 48; refine (in_no (by omega) _).mono ?_; rintro e w' ⟨rfl, rfl⟩)
    go_ret
    exact ⟨rfl, rfl⟩
  · rcases placeN_yes h with ⟨h1, h2, e⟩ | ⟨h1, h2, e⟩
    · rw [e]
      clear e h
      go_enter Try.func49, Try.ntmps49
      go_wp2_with (go_at_call 48; refine (in_yes (by omega) _).mono ?_; rintro e w' ⟨rfl, rfl⟩)
      go_ret
      exact ⟨rfl, rfl⟩
    · rw [e]
      clear e h
      go_enter Try.func49, Try.ntmps49
      go_wp2_with (go_at_call 48; first | (refine (in_yes (by omega) _).mono ?_; rintro e w' ⟨rfl, rfl⟩) | (refine (in_no (by omega) _).mono ?_; rintro e w' ⟨rfl, rfl⟩))
      go_ret
      exact ⟨rfl, rfl⟩
theorem place_yes (r : Int) (w : World) (h : 0 ≤ placeN r) :
    Calls Try.prog 50 #[.int .i64 r] w fun e w' => e = .returned (.tuple #[.int .i64 (placeN r), .bool true]) ∧ w = w' := by
  rcases placeN_yes h with ⟨h1, h2, e⟩ | ⟨h1, h2, e⟩
  · rw [e]
    clear e h
    go_enter Try.func50, Try.ntmps50
    go_wp2_with (go_at_call 41; refine (among_yes (by omega) (by omega) _).mono ?_; rintro e w' ⟨rfl, rfl⟩)
    go_ret2
    exact ⟨rfl, rfl⟩
  · have HE : Hid (r - 97 + 26 = 26 + r - 97) := by show r - 97 + 26 = 26 + r - 97; omega
    rw [e, HE.out]
    clear e h
    go_enter Try.func50, Try.ntmps50
    go_wp2_with (go_at_call 41; first | (refine (among_yes (by omega) (by omega) _).mono ?_; rintro e w' ⟨rfl, rfl⟩) | (refine (among_no (by omega) (by omega) _).mono ?_; rintro e w' ⟨rfl, rfl⟩))
    go_ret2
    exact ⟨rfl, rfl⟩
theorem place_no (r : Int) (w : World) (h : placeN r < 0) :
    Calls Try.prog 50 #[.int .i64 r] w fun e w' => e = .returned (.tuple #[.int .i64 0, .bool false]) ∧ w = w' := by
  obtain ⟨_, h1, h2⟩ := placeN_no h
  clear h
  go_enter Try.func50, Try.ntmps50
  go_wp2_with (go_at_call 41; refine (among_no (by omega) (by omega) _).mono ?_; rintro e w' ⟨rfl, rfl⟩)
  go_ret2
  exact ⟨rfl, rfl⟩
theorem openS_yes (r : Int) (w : World) (h : 44032 ≤ r ∧ r ≤ 55203 ∧ (r - 44032) % 28 = 0) :
    Calls Try.prog 51 #[.int .i64 r] w fun e w' => e = .returned (.bool true) ∧ w = w' := by
  obtain ⟨h1, h2, h3⟩ := h
  go_enter Try.func51, Try.ntmps51
  go_wp2_with (go_at_call 41; refine (among_yes (by omega) (by omega) _).mono ?_; rintro e w' ⟨rfl, rfl⟩)
  go_ret
  exact ⟨by first | rfl | exact ret_bool (by simp; omega), rfl⟩
theorem openS_no (r : Int) (w : World) (h : ¬ (44032 ≤ r ∧ r ≤ 55203 ∧ (r - 44032) % 28 = 0)) :
    Calls Try.prog 51 #[.int .i64 r] w fun e w' => e = .returned (.bool false) ∧ w = w' := by
  by_cases h1 : 44032 ≤ r ∧ r ≤ 55203
  · have h3 : ¬ (r - 44032) % 28 = 0 := fun h' => h ⟨h1.1, h1.2, h'⟩
    obtain ⟨h1, h2⟩ := h1
    clear h
    go_enter Try.func51, Try.ntmps51
    go_wp2_with (go_at_call 41; refine (among_yes (by omega) (by omega) _).mono ?_; rintro e w' ⟨rfl, rfl⟩)
    go_ret
    exact ⟨by first | rfl | exact ret_bool (by simp; omega), rfl⟩
  · clear h
    go_enter Try.func51, Try.ntmps51
    go_wp2_with (go_at_call 41; refine (among_no (by omega) (by omega) _).mono ?_; rintro e w' ⟨rfl, rfl⟩)
    go_ret
    exact ⟨rfl, rfl⟩
theorem joinN_1 {a b : Int} (h : 0 ≤ placeN a) (hb : 768 ≤ b ∧ b ≤ 775) : joinN a b = 57344 + 8 * placeN a + b - 768 := by unfold joinN; rw [if_pos ⟨h, hb⟩]
theorem joinN_2 {a b : Int} (h : 4352 ≤ a ∧ a ≤ 4370) (hb : 4449 ≤ b ∧ b ≤ 4469) : joinN a b = 44032 + 588 * (a - 4352) + 28 * (b - 4449) := by
  unfold joinN; rw [if_neg (by omega), if_pos (by omega)]
theorem joinN_3 {a b : Int} (h : 44032 ≤ a ∧ a ≤ 55203 ∧ (a - 44032) % 28 = 0) (hb : 4520 ≤ b ∧ b ≤ 4546) : joinN a b = a + b - 4519 := by
  unfold joinN; rw [if_neg (by omega), if_neg (by omega), if_pos (by omega)]
theorem joinN_0 {a b : Int} (h1 : ¬ (0 ≤ placeN a ∧ 768 ≤ b ∧ b ≤ 775)) (h2 : ¬ (4352 ≤ a ∧ a ≤ 4370 ∧ 4449 ≤ b ∧ b ≤ 4469)) (h3 : ¬ (44032 ≤ a ∧ a ≤ 55203 ∧ (a - 44032) % 28 = 0 ∧ 4520 ≤ b ∧ b ≤ 4546)) : joinN a b = -1 := by
  unfold joinN; rw [if_neg h1, if_neg h2, if_neg h3]
/-- The kinds of the first rune, and of the second one. -/
theorem kinds (a b : Int) : ((0 ≤ placeN a ∧ ¬ (4352 ≤ a ∧ a ≤ 4370) ∧ ¬ (44032 ≤ a ∧ a ≤ 55203)) ∨ (placeN a < 0 ∧ 4352 ≤ a ∧ a ≤ 4370) ∨ (placeN a < 0 ∧ 44032 ≤ a ∧ a ≤ 55203 ∧ (a - 44032) % 28 = 0) ∨ (placeN a < 0 ∧ 44032 ≤ a ∧ a ≤ 55203 ∧ ¬ (a - 44032) % 28 = 0) ∨ (placeN a < 0 ∧ ¬ (4352 ≤ a ∧ a ≤ 4370) ∧ ¬ (44032 ≤ a ∧ a ≤ 55203))) ∧
    ((768 ≤ b ∧ b ≤ 775) ∨ (4449 ≤ b ∧ b ≤ 4469) ∨ (4520 ≤ b ∧ b ≤ 4546) ∨ (¬ (768 ≤ b ∧ b ≤ 775) ∧ ¬ (4449 ≤ b ∧ b ≤ 4469) ∧ ¬ (4520 ≤ b ∧ b ≤ 4546))) := by
  have h1 : 0 ≤ placeN a → (65 ≤ a ∧ a ≤ 122) := fun h => by rcases placeN_yes h with h | h <;> omega
  omega
set_option maxRecDepth 100000 in
set_option maxHeartbeats 8000000 in
theorem sjoin_any (a b : Int) (w : World) :
    Calls Try.prog 38 #[.int .i64 a, .int .i64 b] w fun e w' => e = .returned (.int .i64 (joinN a b)) ∧ w = w' := by
  have hph := placeN_hi a
  obtain ⟨ha, hb⟩ := kinds a b
  rcases ha with ⟨a1, a2, a3⟩ | ⟨a1, a2, a3⟩ | ⟨a1, a2, a3, a4⟩ | ⟨a1, a2, a3, a4⟩ | ⟨a1, a2, a3⟩ <;> rcases hb with ⟨b1, b2⟩ | ⟨b1, b2⟩ | ⟨b1, b2⟩ | ⟨b1, b2, b3⟩
  all_goals
    first
      | have hj : joinN a b = 57344 + 8 * placeN a + b - 768 := joinN_1 a1 ⟨b1, b2⟩
      | have hj : joinN a b = 44032 + 588 * (a - 4352) + 28 * (b - 4449) := joinN_2 ⟨a2, a3⟩ ⟨b1, b2⟩
      | have hj : joinN a b = a + b - 4519 := joinN_3 ⟨a2, a3, a4⟩ ⟨b1, b2⟩
      | have hj : joinN a b = -1 := joinN_0 (by omega) (by omega) (by omega)
    rw [hj]
    clear hj
    have SL := sletter_any a
    generalize placeN a = p at *
    go_enter Try.func38, Try.ntmps38
    go_wp2_with (first | (go_at_call 49; refine (SL _).mono ?_; rintro e w' ⟨rfl, rfl⟩) | (go_at_call 48; first | (refine (in_yes (by omega) _).mono ?_; rintro e w' ⟨rfl, rfl⟩) | (refine (in_no (by omega) _).mono ?_; rintro e w' ⟨rfl, rfl⟩)))
    go_ret
    exact ⟨by first | rfl | exact ret_int (by omega), rfl⟩
end Go.Proofs.Ytjfehgmpcgepnaa
