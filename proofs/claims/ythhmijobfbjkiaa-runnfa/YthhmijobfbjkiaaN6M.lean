/-
  The two runs of a machine of places are one: places as a list, places as bits.
-/
import Derived.Test.YthhmijobfbjkiaaN6L
namespace Go.Proofs.Ythhmijobfbjkiaa
open Go.ChangeShapes Go.WideShapes Go.ChangeAt Go.WideMaps Go.WideElems Go.RowKit
theorem bitsL_mem {L : List Int} (h : ∀ x ∈ L, 0 ≤ x) (j : Nat) : (bitsL L).testBit j = decide ((j : Int) ∈ L) := by
  rw [bitsL_test]
  by_cases hm : (j : Int) ∈ L
  · rw [decide_eq_true hm]
    exact List.any_eq_true.2 ⟨_, hm, by simp⟩
  · rw [decide_eq_false hm]
    refine List.any_eq_false.2 fun x hx he => hm ?_
    have h0 := h x hx
    have e : x.toNat = j := by simpa using he
    have e2 : x = (j : Int) := by omega
    exact e2 ▸ hx
theorem stepB_test (G : Rw) (n q j : Nat) : ∀ m, (stepB G n q m).testBit j = (((List.range m).any fun k => n.testBit k && (bitsL (rw_ G k)).testBit j) && q.testBit j)
  | 0 => by simp [stepB]
  | m + 1 => by
    have ih := stepB_test G n q j m
    unfold stepB
    rw [List.range_succ, List.any_append]
    cases hb : n.testBit m
    · simp [ih, hb]
    · simp [Nat.testBit_or, Nat.testBit_and, ih, hb, Bool.and_or_distrib_right]
theorem atL_bits {S G : Rw} {F X : List Int} (hF : ∀ x ∈ F, 0 ≤ x ∧ x < (S.length : Int)) (hFs : F.Pairwise (· < ·)) (hG : ∀ k, k < S.length → ∀ x ∈ rw_ G k, 0 ≤ x ∧ x < (S.length : Int)) : ∀ (k n : Nat), stN S G F X (k + 1) = some n → ∀ j : Nat, n.testBit j = decide ((j : Int) ∈ atL S G F X k)
  | 0, n, hn, j => by
    simp only [stN, nextN, Option.some.injEq] at hn
    subst hn
    rw [Nat.testBit_and, bitsL_mem (fun x hx => (hF x hx).1), bitsP_test]
    have e : ((j : Int) ∈ atL S G F X 0) ↔ ((j : Int) ∈ F ∧ memS (rw_ S j) (X.getD 0 0) = true) := by
      have := mem_stepL (S := S) (A := F) (r := X.getD 0 0) (x := (j : Int))
      simpa [atL] using this
    by_cases hm : (j : Int) ∈ F
    · have hj : j < S.length := by have := hF _ hm; omega
      by_cases hp : memS (rw_ S j) (X.getD 0 0) = true
      · rw [decide_eq_true hm, decide_eq_true hj, hp, decide_eq_true (e.2 ⟨hm, hp⟩)]; rfl
      · rw [decide_eq_false fun h => hp (e.1 h).2]
        rw [Bool.eq_false_iff.2 hp, Bool.and_false, Bool.and_false]
    · rw [decide_eq_false hm, decide_eq_false fun h => hm (e.1 h).1]; rfl
  | k + 1, n, hn, j => by
    obtain ⟨m, hm⟩ : ∃ m, stN S G F X (k + 1) = some m := ⟨_, rfl⟩
    have ih := atL_bits hF hFs hG k m hm
    have hok := (atL_ok (X := X) (S := S) hF hFs hG k).1
    have hn2 : stepB G m (bitsP (fun j => memS (rw_ S j) (X.getD (k + 1) 0)) S.length) S.length = n := by
      have := hn
      rw [stN, hm] at this
      simpa [nextN] using this
    subst hn2
    rw [stepB_test, bitsP_test]
    have e : ((j : Int) ∈ atL S G F X (k + 1)) ↔ ((∃ y ∈ atL S G F X k, (j : Int) ∈ rw_ G y.toNat) ∧ memS (rw_ S j) (X.getD (k + 1) 0) = true) := by
      have h1 := mem_stepL (S := S) (A := behL G (atL S G F X k)) (r := X.getD (k + 1) 0) (x := (j : Int))
      rw [mem_behL] at h1
      simpa [atL] using h1
    have e1 : ((List.range S.length).any fun i => m.testBit i && (bitsL (rw_ G i)).testBit j) = decide (∃ y ∈ atL S G F X k, (j : Int) ∈ rw_ G y.toNat) := by
      by_cases hx : ∃ y ∈ atL S G F X k, (j : Int) ∈ rw_ G y.toNat
      · rw [decide_eq_true hx]
        obtain ⟨y, hy, hxy⟩ := hx
        have hb := hok y hy
        refine List.any_eq_true.2 ⟨y.toNat, List.mem_range.2 (by omega), ?_⟩
        have ey : ((y.toNat : Nat) : Int) = y := by omega
        rw [ih, ey, decide_eq_true hy, bitsL_mem fun x hx => (hG y.toNat (by omega) x hx).1, decide_eq_true hxy]
        rfl
      · rw [decide_eq_false hx]
        refine List.any_eq_false.2 fun i hi hc => hx ?_
        have hi2 := List.mem_range.1 hi
        rw [ih, bitsL_mem fun x hx => (hG i hi2 x hx).1] at hc
        simp at hc
        exact ⟨(i : Int), hc.1, by simpa using hc.2⟩
    rw [e1]
    by_cases hx : ∃ y ∈ atL S G F X k, (j : Int) ∈ rw_ G y.toNat
    · have hj : j < S.length := by
        obtain ⟨y, hy, hxy⟩ := hx
        have hb := hok y hy
        have := hG y.toNat (by omega) _ hxy
        omega
      by_cases hp : memS (rw_ S j) (X.getD (k + 1) 0) = true
      · rw [decide_eq_true hx, decide_eq_true hj, hp, decide_eq_true (e.2 ⟨hx, hp⟩)]; rfl
      · rw [decide_eq_false fun h => hp (e.1 h).2]
        rw [Bool.eq_false_iff.2 hp, Bool.and_false, Bool.and_false]
    · rw [decide_eq_false hx, decide_eq_false fun h => hx (e.1 h).1]; rfl
/-- What a run of the specification's tells. -/
def runL (E : Bool) (S G : Rw) (F L X : List Int) : Bool := if X.length = 0 then E else (atL S G F X (X.length - 1)).any fun k => decide (k ∈ L)
theorem runL_rN {E : Bool} {S G : Rw} {F L X : List Int} (hF : ∀ x ∈ F, 0 ≤ x ∧ x < (S.length : Int)) (hFs : F.Pairwise (· < ·)) (hG : ∀ k, k < S.length → ∀ x ∈ rw_ G k, 0 ≤ x ∧ x < (S.length : Int)) (hL : ∀ x ∈ L, 0 ≤ x) : runL E S G F L X = rN E S G F L X := by
  unfold runL rN
  by_cases h0 : X.length = 0
  · rw [if_pos h0, h0]; rfl
  · rw [if_neg h0]
    obtain ⟨k, hk⟩ : ∃ k, X.length = k + 1 := ⟨X.length - 1, by omega⟩
    rw [hk, Nat.add_sub_cancel]
    obtain ⟨n, hn⟩ : ∃ n, stN S G F X (k + 1) = some n := ⟨_, rfl⟩
    have hb := atL_bits hF hFs hG k n hn
    have hok := (atL_ok (X := X) (S := S) hF hFs hG k).1
    rw [hn]
    show _ = decide (n &&& bitsL L ≠ 0)
    by_cases hc : n &&& bitsL L = 0
    · rw [decide_eq_false fun h => h hc]
      refine List.any_eq_false.2 fun x hx hxl => ?_
      have hxl2 : x ∈ L := by simpa using hxl
      have ex : ((x.toNat : Nat) : Int) = x := by have := hok x hx; omega
      have t : (n &&& bitsL L).testBit x.toNat = true := by
        rw [Nat.testBit_and, hb, bitsL_mem hL, ex, decide_eq_true hx, decide_eq_true hxl2]; rfl
      rw [hc, Nat.zero_testBit] at t
      cases t
    · rw [decide_eq_true hc]
      obtain ⟨j, hj⟩ := Nat.exists_testBit_of_ne_zero hc
      rw [Nat.testBit_and, hb, bitsL_mem hL] at hj
      simp at hj
      exact List.any_eq_true.2 ⟨(j : Int), hj.1, by simpa using hj.2⟩
end Go.Proofs.Ythhmijobfbjkiaa
