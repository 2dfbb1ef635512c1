/-
  Chapter 3's small functions: marks, orders, what a rune is made of, in the specification and in the program.
-/
import Derived.Test.YtlkcdcdgpklpoaaN3Pure
import Derived.Test.YtlkcdcdgpklpoaaMarks
import Derived.Test.YtlkcdcdgpklpoaaAlls
namespace Go.Proofs.Ytlkcdcdgpklpoaa
open Go.ChangeShapes Go.WideShapes Go.ChangeAt Go.RowKit
theorem in_yes {n lo hi : Int} (h : lo ≤ n ∧ n ≤ hi) (w : World) : Calls Try.prog 68 #[.int .i64 n, .int .i64 lo, .int .i64 hi] w fun e w' => e = .returned (.bool true) ∧ w = w' := by
  refine (in_any n lo hi w).mono ?_
  rintro e w' ⟨rfl, rfl⟩
  exact ⟨ret_bool (decide_eq_true h), rfl⟩
theorem in_no {n lo hi : Int} (h : ¬ (lo ≤ n ∧ n ≤ hi)) (w : World) : Calls Try.prog 68 #[.int .i64 n, .int .i64 lo, .int .i64 hi] w fun e w' => e = .returned (.bool false) ∧ w = w' := by
  refine (in_any n lo hi w).mono ?_
  rintro e w' ⟨rfl, rfl⟩
  exact ⟨ret_bool (decide_eq_false h), rfl⟩
theorem splitL_1 {r : Int} (h1 : 57344 ≤ r) (h2 : r < 57552) : splitL r = [65 + (r - 57344) / 8, 768 + (r - 57344) % 8] := by
  unfold splitL; rw [if_pos (by omega), if_pos (by omega)]
theorem splitL_2 {r : Int} (h1 : 57552 ≤ r) (h2 : r ≤ 57759) : splitL r = [97 + (r - 57344) / 8 - 26, 768 + (r - 57344) % 8] := by
  unfold splitL; rw [if_pos (by omega), if_neg (by omega)]
theorem splitL_3 {r : Int} (h1 : 44032 ≤ r) (h2 : r ≤ 55203) (h3 : (r - 44032) % 28 = 0) : splitL r = [4352 + (r - 44032) / 588, 4449 + (r - 44032) % 588 / 28] := by
  unfold splitL; rw [if_neg (by omega), if_pos (by omega), if_pos h3]
theorem splitL_4 {r : Int} (h1 : 44032 ≤ r) (h2 : r ≤ 55203) (h3 : 0 < (r - 44032) % 28) : splitL r = [4352 + (r - 44032) / 588, 4449 + (r - 44032) % 588 / 28, 4519 + (r - 44032) % 28] := by
  unfold splitL; rw [if_neg (by omega), if_pos (by omega), if_neg (by omega)]
theorem splitL_5 {r : Int} (h : ¬ (44032 ≤ r ∧ r ≤ 55203)) (h' : ¬ (57344 ≤ r ∧ r ≤ 57759)) : splitL r = [r] := by
  unfold splitL; rw [if_neg h', if_neg h]
theorem cell_one_at (w : World) (B : Nat) (v : Value) (t : TypeId) (hB : B = w.heap.size) : ∀ j u, [v][j]? = some u → (w.alloc (.cells #[v] t)).cell? ((⟨B, 0, none⟩ : Addr).add j) = some u := by
  subst hB
  exact cell_one_new _ _ _
theorem row_lit (w : World) (L : List Int) (C : Array Value) (hC : C = (ints L).toArray) (n : Nat) (hn : n = L.length) (hl : L.length ≤ 1000) : (w.alloc (.cells C 3)).ownsRow w.heap.size 3 1 (.slice (some ⟨w.heap.size, 0, none⟩) n n) L.length (ints L) := by
  subst hC hn
  have h := World.ownsRow_lit (base := w.heap.size) (e := 3) (size := 1) w (ints L).toArray L.length (Nat.le_refl _) (by unfold maxLen; omega) (by simp [ints])
  simpa using h
theorem among_yes {r first n : Int} (hf : 0 ≤ first ∧ first ≤ 1000000 ∧ 0 ≤ n ∧ n ≤ 1000000) (h : first ≤ r ∧ r < first + n) (w : World) :
    Calls Try.prog 66 #[.int .i64 r, .int .i64 first, .int .i64 n] w fun e w' => e = .returned (.bool true) ∧ w = w' := by
  obtain ⟨h1, h2⟩ := h
  go_enter Try.func66, Try.ntmps66
  go_wp2
  go_ret
  exact ⟨by first | rfl | exact ret_bool (by simp; omega), rfl⟩
theorem among_no {r first n : Int} (hf : 0 ≤ first ∧ first ≤ 1000000 ∧ 0 ≤ n ∧ n ≤ 1000000) (h : ¬ (first ≤ r ∧ r < first + n)) (w : World) :
    Calls Try.prog 66 #[.int .i64 r, .int .i64 first, .int .i64 n] w fun e w' => e = .returned (.bool false) ∧ w = w' := by
  rcases (by omega : r < first ∨ (first ≤ r ∧ first + n ≤ r)) with h1 | ⟨h1, h2⟩
  all_goals
    go_enter Try.func66, Try.ntmps66
    go_wp2
    go_ret
    exact ⟨by first | rfl | exact ret_bool (by simp; omega), rfl⟩
end Go.Proofs.Ytlkcdcdgpklpoaa
