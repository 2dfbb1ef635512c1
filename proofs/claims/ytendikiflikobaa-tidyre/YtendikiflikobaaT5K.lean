/-
  What the specification asks of lists of nodes: is it the empty set, is it the empty word, are two the same.
-/
import Derived.Test.YtendikiflikobaaT5I
import Derived.Test.YtendikiflikobaaT5V
namespace Go.Proofs.Ytendikiflikobaa
open Go.ChangeShapes Go.WideShapes Go.ChangeAt Go.WideMaps Go.WideElems Go.RowKit
set_option maxRecDepth 100000 in
set_option maxHeartbeats 1000000 in
theorem snone_any (L : List Nd) (ao : Option Addr) (cap : Nat) (w : World) (hA : ResAt w ao L) :
    Calls Try.prog 100 #[.slice ao L.length cap] w fun e w' => e = .returned (.bool (decide (L.length = 1) && (decide ((nd L 0).1 = 2) && decide ((nd L 0).2.length = 0)))) ∧ w' = w := by
  by_cases h1 : L.length = 1
  · obtain ⟨b1, o1, sa, sc, rfl, l1, g0, g1, -⟩ := hA 0 (by omega)
    obtain ⟨op, hop⟩ : ∃ op, op = (nd L 0).1 := ⟨_, rfl⟩
    obtain ⟨m, hm⟩ : ∃ m, m = (nd L 0).2.length := ⟨_, rfl⟩
    rw [← hop] at g0
    rw [← hm] at g1
    rw [← hop, ← hm, h1]
    rw [Nat.zero_mul, Nat.add_zero] at g0
    rw [Nat.zero_mul, Nat.add_zero] at g1
    clear hA hop hm h1
    by_cases h2 : op = 2
    · subst h2
      by_cases h3 : m = 0
      · subst h3
        go_enter Try.func100, Try.ntmps100
        go_wp2
        go_ret
        exact ⟨rfl, rfl⟩
      · have e3 : ((m : Int) == 0) = false := by simpa using h3
        have e4 : decide (m = 0) = false := by simpa using h3
        have hI : ¬ (m : Int) = 0 := by omega
        rw [e4]
        clear h3
        go_enter Try.func100, Try.ntmps100
        go_wp2
        go_ret
        exact ⟨rfl, rfl⟩
    · have e2 : (op == 2) = false := by simpa using h2
      have e4 : decide (op = 2) = false := by simpa using h2
      rw [e4]
      go_enter Try.func100, Try.ntmps100
      go_wp2
      go_ret
      exact ⟨rfl, rfl⟩
  · have hI : ¬ (L.length : Int) = 1 := by omega
    have e1 : ((L.length : Int) == 1) = false := by simpa using hI
    rw [decide_eq_false h1]
    clear hA
    go_enter Try.func100, Try.ntmps100
    go_wp2
    go_ret
    exact ⟨rfl, rfl⟩
set_option maxRecDepth 100000 in
set_option maxHeartbeats 1000000 in
theorem snil_any (L : List Nd) (ao : Option Addr) (cap : Nat) (w : World) (hA : ResAt w ao L) :
    Calls Try.prog 99 #[.slice ao L.length cap] w fun e w' => e = .returned (.bool (decide (L.length = 1) && decide ((nd L 0).1 = 1))) ∧ w' = w := by
  by_cases h1 : L.length = 1
  · obtain ⟨b1, o1, sa, sc, rfl, l1, g0, g1, -⟩ := hA 0 (by omega)
    obtain ⟨op, hop⟩ : ∃ op, op = (nd L 0).1 := ⟨_, rfl⟩
    rw [← hop] at g0
    rw [← hop, h1]
    rw [Nat.zero_mul, Nat.add_zero] at g0
    clear hA hop h1 g1
    by_cases h2 : op = 1
    · subst h2
      go_enter Try.func99, Try.ntmps99
      go_wp2
      go_ret
      exact ⟨rfl, rfl⟩
    · have e2 : (op == 1) = false := by simpa using h2
      have e4 : decide (op = 1) = false := by simpa using h2
      rw [e4]
      go_enter Try.func99, Try.ntmps99
      go_wp2
      go_ret
      exact ⟨rfl, rfl⟩
  · have hI : ¬ (L.length : Int) = 1 := by omega
    have e1 : ((L.length : Int) == 1) = false := by simpa using hI
    rw [decide_eq_false h1]
    clear hA
    go_enter Try.func99, Try.ntmps99
    go_wp2
    go_ret
    exact ⟨rfl, rfl⟩
/-- Of the list that a tree is written as. -/
theorem none_post (t : Tr) : (decide ((post (some t)).length = 1) && (decide ((nd (post (some t)) 0).1 = 2) && decide ((nd (post (some t)) 0).2.length = 0))) = true → post (some t) = [(2, [])] := by
  intro h
  simp only [Bool.and_eq_true, decide_eq_true_eq] at h
  obtain ⟨h1, h2, h3⟩ := h
  obtain ⟨y, hy⟩ := List.length_eq_one_iff.1 h1
  rw [hy] at h2 h3 ⊢
  obtain ⟨u, v⟩ := y
  simp only [nd, List.getD_cons_zero] at h2 h3
  rw [h2, List.length_eq_zero_iff.1 h3]
end Go.Proofs.Ytendikiflikobaa
