/-
  Chapter 3's small functions: marks, orders, what a rune is made of, in the specification and in the program.
-/
import Derived.Test.YtjfehgmpcgepnaaN3Pure
import Derived.Test.YtjfehgmpcgepnaaMarks
import Derived.Test.YtjfehgmpcgepnaaAlls
namespace Go.Proofs.Ytjfehgmpcgepnaa
open Go.ChangeShapes Go.WideShapes Go.ChangeAt Go.RowKit
theorem in_yes {n lo hi : Int} (h : lo ≤ n ∧ n ≤ hi) (w : World) : Calls Try.prog 48 #[.int .i64 n, .int .i64 lo, .int .i64 hi] w fun e w' => e = .returned (.bool true) ∧ w = w' := by
  refine (in_any n lo hi w).mono ?_
  rintro e w' ⟨rfl, rfl⟩
  exact ⟨ret_bool (decide_eq_true h), rfl⟩
theorem in_no {n lo hi : Int} (h : ¬ (lo ≤ n ∧ n ≤ hi)) (w : World) : Calls Try.prog 48 #[.int .i64 n, .int .i64 lo, .int .i64 hi] w fun e w' => e = .returned (.bool false) ∧ w = w' := by
  refine (in_any n lo hi w).mono ?_
  rintro e w' ⟨rfl, rfl⟩
  exact ⟨ret_bool (decide_eq_false h), rfl⟩
set_option maxHeartbeats 400000 in
theorem smark_any (r : Int) (w : World) :
    Calls Try.prog 36 #[.int .i64 r] w fun e w' => e = .returned (.bool (markB r)) ∧ w' = w := by
  rcases (by omega : r < 768 ∨ (768 ≤ r ∧ r ≤ 879) ∨ 879 < r) with h | ⟨h, h'⟩ | h
  all_goals
    go_enter Try.func36, Try.ntmps36
    go_wp2
    go_ret
    exact ⟨ret_bool (by unfold markB; simp; try omega), rfl⟩
set_option maxHeartbeats 400000 in
theorem sorder_any (r : Int) (w : World) :
    Calls Try.prog 37 #[.int .i64 r] w fun e w' => e = .returned (.int .i64 (orderN r)) ∧ w' = w := by
  rcases (by omega : r < 768 ∨ (768 ≤ r ∧ r ≤ 879) ∨ 879 < r) with h | ⟨h, h'⟩ | h
  all_goals
    first
      | have ho : orderN r = 0 := orderN_no (by omega)
      | have ho : orderN r = 1 + r % 5 := orderN_mark (by omega)
    rw [ho]
    clear ho
    go_enter Try.func37, Try.ntmps37
    go_wp2
    go_ret
    exact ⟨rfl, rfl⟩
set_option maxHeartbeats 400000 in
theorem iorder_any (r : Int) (w : World) :
    Calls Try.prog 44 #[.int .i64 r] w fun e w' => e = .returned (.tuple #[.int .i64 (orderN r), .bool (goodB r)]) ∧ w' = w := by
  cases hg : goodB r
  · have ho : orderN r = 0 := orderN_no (by have := goodB_false hg; omega)
    have HG : Hid _ := hg
    rw [ho]
    clear ho hg
    go_enter Try.func44, Try.ntmps44
    go_wp2_with fail
    refine (igood_any r _).mono ?_
    rintro e w1 ⟨rfl, rfl⟩
    rw [HG.out]
    go_wp2
    go_ret2
    exact ⟨rfl, rfl⟩
  · have HG : Hid _ := hg
    have g0 := (goodB_true hg).1
    clear hg
    rcases (by omega : r < 768 ∨ (768 ≤ r ∧ r ≤ 879) ∨ 879 < r) with h | ⟨h, h'⟩ | h
    all_goals
      first
        | have ho : orderN r = 0 := orderN_no (by omega)
        | have ho : orderN r = 1 + r % 5 := orderN_mark (by omega)
      have HO : Hid _ := ho
      rw [ho]
      clear ho
      go_enter Try.func44, Try.ntmps44
      go_wp2_with fail
      refine (igood_any r _).mono ?_
      rintro e w1 ⟨rfl, rfl⟩
      rw [HG.out]
      go_wp2_with (first | (go_at_call 37; refine (sorder_any r _).mono ?_; rintro e w2 ⟨rfl, rfl⟩; rw [HO.out]) | fail)
      go_ret2
      exact ⟨rfl, rfl⟩
theorem splitL_1 {r : Int} (h1 : 57344 ≤ r) (h2 : r < 57552) : splitL r = [65 + (r - 57344) / 8, 768 + (r - 57344) % 8] := by
  unfold splitL; rw [if_pos (by omega), if_pos (by omega)]
theorem splitL_2 {r : Int} (h1 : 57552 ≤ r) (h2 : r ≤ 57759) : splitL r = [97 + (r - 57344) / 8 - 26, 768 + (r - 57344) % 8] := by
  unfold splitL; rw [if_pos (by omega), if_neg (by omega)]
theorem splitL_3 {r : Int} (h1 : 44032 ≤ r) (h2 : r ≤ 55203) (h3 : (r - 44032) % 28 = 0) : splitL r = [4352 + (r - 44032) / 588, 4449 + (r - 44032) % 588 / 28] := by
  unfold splitL; rw [if_neg (by omega), if_pos (by omega), if_pos h3]
theorem splitL_4 {r : Int} (h1 : 44032 ≤ r) (h2 : r ≤ 55203) (h3 : 0 < (r - 44032) % 28) : splitL r = [4352 + (r - 44032) / 588, 4449 + (r - 44032) % 588 / 28, 4519 + (r - 44032) % 28] := by
  unfold splitL; rw [if_neg (by omega), if_pos (by omega), if_neg (by omega)]
theorem splitL_5 {r : Int} (h : ¬ (44032 ≤ r ∧ r ≤ 55203)) (h' : ¬ (57344 ≤ r ∧ r ≤ 57759)) : splitL r = [r] := by
  unfold splitL; rw [if_neg h', if_neg h]
theorem cell_one_at (w : World) (B : Nat) (v : Value) (t : TypeId) (hB : B = w.heap.size) : ∀ j u, [v][j]? = some u → (w.alloc (.cells #[v] t)).cell? ((⟨B, 0, none⟩ : Addr).add j) = some u := by
  subst hB
  exact cell_one_new _ _ _
theorem row_lit (w : World) (L : List Int) (C : Array Value) (hC : C = (ints L).toArray) (n : Nat) (hn : n = L.length) (hl : L.length ≤ 1000) : (w.alloc (.cells C 3)).ownsRow w.heap.size 3 1 (.slice (some ⟨w.heap.size, 0, none⟩) n n) L.length (ints L) := by
  subst hC hn
  have h := World.ownsRow_lit (base := w.heap.size) (e := 3) (size := 1) w (ints L).toArray L.length (Nat.le_refl _) (by unfold maxLen; omega) (by simp [ints])
  simpa using h
set_option maxRecDepth 100000 in
set_option maxHeartbeats 1000000 in
theorem ssplit_any (r : Int) (w : World) (h0 : 0 ≤ r) (hh : r ≤ 1114111) :
    Calls Try.prog 33 #[.int .i64 r] w fun e w' => ∃ v, e = .returned v ∧ w'.ownsRow w.heap.size 3 1 v (splitL r).length (ints (splitL r)) ∧ Below w.heap.size w w' := by
  obtain ⟨i0, hi, hz0, hz1, hz2⟩ := info_parts Try.info3
  have B1 : ∀ o, Below w.heap.size w (w.alloc o) := fun o => (Below.refl _ _).alloc (Nat.le_refl _) o
  rcases (by omega : (r < 44032) ∨ (44032 ≤ r ∧ r ≤ 55203 ∧ (r - 44032) % 28 = 0) ∨ (44032 ≤ r ∧ r ≤ 55203 ∧ 0 < (r - 44032) % 28) ∨ (55203 < r ∧ r < 57344) ∨ (57344 ≤ r ∧ r < 57552) ∨ (57552 ≤ r ∧ r ≤ 57759) ∨ 57759 < r) with h1 | ⟨h1, h2, h3⟩ | ⟨h1, h2, h3⟩ | ⟨h1, h2⟩ | ⟨h1, h2⟩ | ⟨h1, h2⟩ | h1
  · rw [splitL_5 (by omega) (by omega)]
    go_enter Try.func33, Try.ntmps33
    go_wp2
    go_ret
    exact ⟨_, rfl, row_lit w [r] _ rfl 1 rfl (by simp), B1 _⟩
  · rw [splitL_3 h1 h2 h3]
    go_enter Try.func33, Try.ntmps33
    go_wp2
    go_ret
    exact ⟨_, rfl, row_lit w [4352 + (r - 44032) / 588, 4449 + (r - 44032) % 588 / 28] _ rfl 2 rfl (by simp), B1 _⟩
  · rw [splitL_4 h1 h2 h3]
    go_enter Try.func33, Try.ntmps33
    have OW : Hid ((w.alloc (.cells #[.int .i64 (4352 + (r - 44032) / 588), .int .i64 (4449 + (r - 44032) % 588 / 28)] 3)).ownsRow w.heap.size 3 1 (.slice (some ⟨w.heap.size, 0, none⟩) 2 2) 2 (ints [4352 + (r - 44032) / 588, 4449 + (r - 44032) % 588 / 28])) := row_lit w [4352 + (r - 44032) / 588, 4449 + (r - 44032) % 588 / 28] _ rfl 2 rfl (by simp)
    go_wp2_with (first | (go_at_call 48; first | (refine (in_yes (by omega) _).mono ?_; rintro e w' ⟨rfl, rfl⟩) | (refine (in_no (by omega) _).mono ?_; rintro e w' ⟨rfl, rfl⟩)) | (at_builtin; refine wpList_append_own _ rfl _ _ 24 rfl w.heap.size 3 i0 (.int .i64 0) 1 8 Try.underlying24 hi hz0 hz1 hz2 rfl (by decide) _ _ _ rfl (OW.out.alloc _) ⟨w.heap.size + 1, 0, none⟩ 1 1 [.int .i64 (4519 + (r - 44032) % 28)] rfl rfl ?c1 ?c2 ?c3 ?c4 ?c5 ?_))
    all_goals try (case c1 => exact cell_one_at _ _ _ _ (by simp))
    case c2 => first | rfl | (intro u hu; simp at hu; subst hu; rfl)
    all_goals try (case c3 => unfold maxLen; omega)
    all_goals try (case c4 => omega)
    all_goals try (case c5 => simp; omega)
    intro v' w2 hown2 hgrow _
    have hb2 : Below w.heap.size w w2 := Below.grown ((B1 _).alloc (B1 _).size _) hgrow (by simp; omega) (fun g hg => by simp [Value.ownBlock] at hg; omega)
    clear hgrow
    go_wp2
    go_ret
    exact ⟨_, rfl, hown2, hb2⟩
  · rw [splitL_5 (by omega) (by omega)]
    go_enter Try.func33, Try.ntmps33
    go_wp2
    go_ret
    exact ⟨_, rfl, row_lit w [r] _ rfl 1 rfl (by simp), B1 _⟩
  · rw [splitL_1 h1 h2]
    go_enter Try.func33, Try.ntmps33
    go_wp2
    go_ret
    exact ⟨_, rfl, row_lit w [65 + (r - 57344) / 8, 768 + (r - 57344) % 8] _ rfl 2 rfl (by simp), B1 _⟩
  · rw [splitL_2 h1 h2]
    go_enter Try.func33, Try.ntmps33
    go_wp2
    go_ret
    exact ⟨_, rfl, row_lit w [97 + (r - 57344) / 8 - 26, 768 + (r - 57344) % 8] _ rfl 2 rfl (by simp), B1 _⟩
  · rw [splitL_5 (by omega) (by omega)]
    go_enter Try.func33, Try.ntmps33
    go_wp2
    go_ret
    exact ⟨_, rfl, row_lit w [r] _ rfl 1 rfl (by simp), B1 _⟩
theorem among_yes {r first n : Int} (hf : 0 ≤ first ∧ first ≤ 1000000 ∧ 0 ≤ n ∧ n ≤ 1000000) (h : first ≤ r ∧ r < first + n) (w : World) :
    Calls Try.prog 41 #[.int .i64 r, .int .i64 first, .int .i64 n] w fun e w' => e = .returned (.bool true) ∧ w = w' := by
  obtain ⟨h1, h2⟩ := h
  go_enter Try.func41, Try.ntmps41
  go_wp2
  go_ret
  exact ⟨by first | rfl | exact ret_bool (by simp; omega), rfl⟩
theorem among_no {r first n : Int} (hf : 0 ≤ first ∧ first ≤ 1000000 ∧ 0 ≤ n ∧ n ≤ 1000000) (h : ¬ (first ≤ r ∧ r < first + n)) (w : World) :
    Calls Try.prog 41 #[.int .i64 r, .int .i64 first, .int .i64 n] w fun e w' => e = .returned (.bool false) ∧ w = w' := by
  rcases (by omega : r < first ∨ (first ≤ r ∧ first + n ≤ r)) with h1 | ⟨h1, h2⟩
  all_goals
    go_enter Try.func41, Try.ntmps41
    go_wp2
    go_ret
    exact ⟨by first | rfl | exact ret_bool (by simp; omega), rfl⟩
theorem letter_any (p : Int) (h0 : 0 ≤ p) (h1 : p ≤ 51) (w : World) :
    Calls Try.prog 42 #[.int .i64 p] w fun e w' => e = .returned (.int .i64 (if p < 26 then 65 + p else 97 + p - 26)) ∧ w = w' := by
  by_cases h : p < 26
  · rw [if_pos h]
    go_enter Try.func42, Try.ntmps42
    go_wp2
    go_ret
    exact ⟨rfl, rfl⟩
  · rw [if_neg h]
    go_enter Try.func42, Try.ntmps42
    go_wp2
    go_ret
    exact ⟨rfl, rfl⟩
set_option maxRecDepth 100000 in
set_option maxHeartbeats 1000000 in
theorem parts_any (r k : Int) (w : World) (hk : k = r - 44032) (h1 : 44032 ≤ r) (h2 : r ≤ 55203) :
    Calls Try.prog 43 #[.int .i64 k] w fun e w' => ∃ v, e = .returned v ∧ w'.ownsRow w.heap.size 3 1 v (splitL r).length (ints (splitL r)) ∧ Below w.heap.size w w' := by
  obtain ⟨i0, hi, hz0, hz1, hz2⟩ := info_parts Try.info3
  have B1 : ∀ o, Below w.heap.size w (w.alloc o) := fun o => (Below.refl _ _).alloc (Nat.le_refl _) o
  have k0 : 0 ≤ k := by omega
  have k1 : k ≤ 11171 := by omega
  by_cases h3 : k % 28 = 0
  · have HS : Hid (splitL r = [4352 + k / 28 / 21, 4449 + k / 28 % 21]) := by
      show splitL r = _
      rw [splitL_3 h1 h2 (by omega), show (r - 44032) / 588 = k / 28 / 21 by omega, show (r - 44032) % 588 / 28 = k / 28 % 21 by omega]
    rw [HS.out]
    clear hk h1 h2
    go_enter Try.func43, Try.ntmps43
    go_wp2
    go_ret
    exact ⟨_, rfl, row_lit w [4352 + k / 28 / 21, 4449 + k / 28 % 21] _ rfl 2 rfl (by simp), B1 _⟩
  · have HS : Hid (splitL r = [4352 + k / 28 / 21, 4449 + k / 28 % 21, 4520 + k % 28 - 1]) := by
      show splitL r = _
      rw [splitL_4 h1 h2 (by omega), show (r - 44032) / 588 = k / 28 / 21 by omega, show (r - 44032) % 588 / 28 = k / 28 % 21 by omega, show 4519 + (r - 44032) % 28 = 4520 + k % 28 - 1 by omega]
    rw [HS.out]
    have h4 : 0 < k % 28 := by omega
    clear hk h1 h2 h3
    have OW : Hid ((w.alloc (.cells #[.int .i64 (4352 + k / 28 / 21), .int .i64 (4449 + k / 28 % 21)] 3)).ownsRow w.heap.size 3 1 (.slice (some ⟨w.heap.size, 0, none⟩) 2 2) 2 (ints [4352 + k / 28 / 21, 4449 + k / 28 % 21])) := row_lit w [4352 + k / 28 / 21, 4449 + k / 28 % 21] _ rfl 2 rfl (by simp)
    go_enter Try.func43, Try.ntmps43
    go_wp2_with (at_builtin; refine wpList_append_own _ rfl _ _ 24 rfl w.heap.size 3 i0 (.int .i64 0) 1 8 Try.underlying24 hi hz0 hz1 hz2 rfl (by decide) _ _ _ rfl (OW.out.alloc _) ⟨w.heap.size + 1, 0, none⟩ 1 1 [.int .i64 (4520 + k % 28 - 1)] rfl rfl ?c1 ?c2 ?c3 ?c4 ?c5 ?_)
    all_goals try (case c1 => exact cell_one_at _ _ _ _ (by simp))
    case c2 => first | rfl | (intro u hu; simp at hu; subst hu; rfl)
    all_goals try (case c3 => unfold maxLen; omega)
    all_goals try (case c4 => omega)
    all_goals try (case c5 => simp; omega)
    intro v' w2 hown2 hgrow _
    have hb2 : Below w.heap.size w w2 := Below.grown ((B1 _).alloc (B1 _).size _) hgrow (by simp; omega) (fun g hg => by simp [Value.ownBlock] at hg; omega)
    clear hgrow
    go_wp2
    go_ret
    exact ⟨_, rfl, hown2, hb2⟩
end Go.Proofs.Ytjfehgmpcgepnaa
