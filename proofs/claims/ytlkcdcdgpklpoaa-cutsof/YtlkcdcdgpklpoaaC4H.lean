/-
  l4In, InSet and CountSet of the specification, InSet and CountSet of the program.
-/
import Derived.Test.YtlkcdcdgpklpoaaC4F
namespace Go.Proofs.Ytlkcdcdgpklpoaa
open Go.ChangeShapes Go.WideShapes Go.ChangeAt Go.RowKit
/-- r is in one of the first k spans. -/
def memK (L : List Int) (r : Int) (k : Nat) : Prop := ∃ j, j < k ∧ L.getD (2 * j) 0 ≤ r ∧ r ≤ L.getD (2 * j + 1) 0
def memS (L : List Int) (r : Int) : Bool := (List.range (L.length / 2)).any fun j => decide (L.getD (2 * j) 0 ≤ r ∧ r ≤ L.getD (2 * j + 1) 0)
theorem memS_true {L : List Int} {r : Int} {j : Nat} (hj : j < L.length / 2) (h : L.getD (2 * j) 0 ≤ r ∧ r ≤ L.getD (2 * j + 1) 0) : memS L r = true :=
  List.any_eq_true.2 ⟨j, List.mem_range.2 hj, decide_eq_true h⟩
theorem memS_false {L : List Int} {r : Int} (h : ∀ j, j < L.length / 2 → ¬ (L.getD (2 * j) 0 ≤ r ∧ r ≤ L.getD (2 * j + 1) 0)) : memS L r = false := by
  rw [Bool.eq_false_iff]
  intro ha
  obtain ⟨j, hj, hd⟩ := List.any_eq_true.1 ha
  exact h j (List.mem_range.1 hj) (of_decide_eq_true hd)
/-- How many numbers are in the first k spans. -/
def cntN (L : List Int) : Nat → Int
  | 0 => 0
  | k + 1 => cntN L k + (L.getD (2 * k + 1) 0 - L.getD (2 * k) 0 + 1)
theorem cntN_le {L : List Int} (hs : ∀ j, j < L.length / 2 → spok L j) : ∀ k, k ≤ L.length / 2 → 0 ≤ cntN L k ∧ cntN L k ≤ 1114112 * k
  | 0, _ => ⟨Int.le_refl _, by simp [cntN]⟩
  | k + 1, h => by
    have i := cntN_le hs k (by omega)
    have s := hs k (by omega)
    unfold spok at s
    unfold cntN
    omega
theorem in_quiet {n lo hi : Int} (h : lo ≤ n ∧ n ≤ hi) (w : World) : Calls Try.prog 68 #[.int .i64 n, .int .i64 lo, .int .i64 hi] w fun e w' => e = .returned (.bool true) ∧ w' = w :=
  (in_yes h w).mono fun _ _ ⟨h1, h2⟩ => ⟨h1, h2.symm⟩
theorem in_quiet_no {n lo hi : Int} (h : ¬ (lo ≤ n ∧ n ≤ hi)) (w : World) : Calls Try.prog 68 #[.int .i64 n, .int .i64 lo, .int .i64 hi] w fun e w' => e = .returned (.bool false) ∧ w' = w :=
  (in_no h w).mono fun _ _ ⟨h1, h2⟩ => ⟨h1, h2.symm⟩
set_option maxRecDepth 100000 in
set_option maxHeartbeats 1000000 in
theorem sin4_any (L : List Int) (r : Int) (ao : Option Addr) (cap : Nat) (w : World) (hl : L.length ≤ 1048576) (he : L.length % 2 = 0) (hA : IntsAt w ao L) :
    Calls Try.prog 135 #[.slice ao L.length cap, .int .i64 r] w fun e w' => e = .returned (.bool (memS L r)) ∧ Below w.heap.size w w' := by
  have HA : Hid _ := hA
  have HE : Hid _ := he
  clear hA he
  go_enter Try.func135, Try.ntmps135
  go_wp2
  go_loopw [5] (fun i wr => ∃ k j : Nat, k ≤ L.length ∧ k = 2 * j ∧ i = .int .i64 k ∧ (∀ j', j' < j → ¬ (L.getD (2 * j') 0 ≤ r ∧ r ≤ L.getD (2 * j' + 1) 0)) ∧ Below w.heap.size w wr) (fun i _ => L.length - (intOf i).toNat)
  case atStart => exact ⟨0, 0, Nat.zero_le _, rfl, rfl, fun j hj => absurd hj (by omega), Below.refl _ _⟩
  case round =>
    obtain ⟨k, j, hk, hkj, rfl, hall, hbw⟩ := hrel
    have HALL : Hid _ := hall
    have HK : Hid _ := hkj
    clear hall
    by_cases hlt : k < L.length
    · have hltI : (k : Int) < (L.length : Int) := by omega
      have hlt2 : k + 1 < L.length := by have := HE.out; omega
      have hlt2I : (k : Int) + 1 < (L.length : Int) := by omega
      have hw1 : IntKind.i64.wrap ((k : Int) + 1) = (k : Int) + 1 := IntWalk.i64_in _ (by omega)
      have hn1 : ((k : Int) + 1).toNat = k + 1 := by omega
      have hp1 : (0 : Int) ≤ (k : Int) + 1 := by omega
      obtain ⟨b1, o1, rfl, l1, c1⟩ := HA.out k hlt
      obtain ⟨b2, o2, e2, l2, c2⟩ := HA.out (k + 1) hlt2
      obtain ⟨rfl, rfl⟩ : b1 = b2 ∧ o1 = o2 := by simp at e2; exact e2
      have g1 : wr.cell? ⟨b1, o1 + k, none⟩ = some (.int .i64 (L.getD k 0)) := (hbw.cell (p := ⟨b1, o1 + k, none⟩) l1).trans c1
      have g2 : wr.cell? ⟨b1, o1 + (k + 1), none⟩ = some (.int .i64 (L.getD (k + 1) 0)) := (hbw.cell (p := ⟨b1, o1 + (k + 1), none⟩) l1).trans c2
      by_cases hm : L.getD k 0 ≤ r ∧ r ≤ L.getD (k + 1) 0
      · have HB : Hid (memS L r = true) := memS_true (j := j) (by omega) (by rw [← hkj]; exact hm)
        have HM : Hid _ := hm
        clear c1 c2 e2 hkj hm
        generalize L.getD k 0 = x at *
        generalize L.getD (k + 1) 0 = y at *
        go_wp2
        go_quiet ((go_at_call 68; exact Calls.quiet_of_same (in_quiet HM.out _)))
        go_wp2
        go_ret
        exact ⟨by rw [HB.out]; rfl, below_drewN hbw _⟩
      · have HN : Hid (∀ j', j' < j + 1 → ¬ (L.getD (2 * j') 0 ≤ r ∧ r ≤ L.getD (2 * j' + 1) 0)) := fun j' hj' => by
          by_cases e : j' = j
          · subst e; rw [← hkj]; exact hm
          · exact HALL.out j' (by omega)
        have HM : Hid _ := hm
        clear c1 c2 e2 hkj hm
        generalize L.getD k 0 = x at *
        generalize L.getD (k + 1) 0 = y at *
        go_wp2
        go_quiet ((go_at_call 68; exact Calls.quiet_of_same (in_quiet_no HM.out _)))
        go_wp2
        go_roundw
        case rel => exact ⟨k + 2, j + 1, by omega, by have := HK.out; omega, by go_num, HN.out, below_drewN hbw _⟩
        case measure => simp [intOf]; omega
    · have hkl : k = L.length := by omega
      subst hkl
      have HB : Hid (memS L r = false) := memS_false (fun j' hj' => HALL.out j' (by omega))
      clear hkj
      go_wp2
      go_ret
      exact ⟨by rw [HB.out]; rfl, hbw⟩
/-- The cells of a set's array. -/
theorem pad_PR (L : List Int) (n : Nat) (k : Nat) : (pad (PR L n)).getD (k * 2) 0 = (if k < n then L.getD (2 * k) 0 else 0) ∧ (pad (PR L n)).getD (k * 2 + 1) 0 = (if k < n then L.getD (2 * k + 1) 0 + 1 else 0) := by
  have hl := fl_len (PR L n)
  rw [PR_len] at hl
  by_cases h : k < n
  · rw [if_pos h, if_pos h]
    obtain ⟨B, hB⟩ : ∃ B, PR L n = PR L k ++ (L.getD (2 * k) 0, L.getD (2 * k + 1) 0 + 1) :: B := by
      refine ⟨(List.range' (k + 1) (n - k - 1)).map fun j => (L.getD (2 * j) 0, L.getD (2 * j + 1) 0 + 1), ?_⟩
      unfold PR
      rw [← List.map_cons (f := fun j => (L.getD (2 * j) 0, L.getD (2 * j + 1) 0 + 1)) (a := k), ← List.map_append]
      congr 1
      rw [List.range_eq_range', List.range_eq_range', show k :: List.range' (k + 1) (n - k - 1) = List.range' k (n - k) by rw [show n - k = (n - k - 1) + 1 by omega, List.range'_succ]; simp]
      have := List.range'_append (s := 0) (m := k) (n := n - k) (step := 1)
      rw [show k + (n - k) = n by omega] at this
      rw [← this]
      simp
    have hk2 := fl_len (PR L k)
    rw [PR_len] at hk2
    unfold pad
    rw [hB, fl_append, List.append_assoc]
    constructor
    · rw [List.getD_eq_getElem?_getD, List.getElem?_append_right (by omega), hk2, show k * 2 - 2 * k = 0 by omega]
      rfl
    · rw [List.getD_eq_getElem?_getD, List.getElem?_append_right (by omega), hk2, show k * 2 + 1 - 2 * k = 1 by omega]
      rfl
  · rw [if_neg h, if_neg h]
    unfold pad
    constructor
    · rw [List.getD_eq_getElem?_getD, List.getElem?_append_right (by omega), List.getElem?_replicate]
      split <;> rfl
    · rw [List.getD_eq_getElem?_getD, List.getElem?_append_right (by omega), List.getElem?_replicate]
      split <;> rfl
theorem part62 (F : List Int) (hF : F.length = 24) (i : Nat) (hi : i < 12) (w : World) : (part 203 (ints F).toArray (i * 2)).run Try.prog w = .ok (.agg #[.int .i64 (F.getD (i * 2) 0), .int .i64 (F.getD (i * 2 + 1) 0)]) w := by
  unfold part
  simp only [Sem.run_bind, Try.isAgg203, Try.sizeOf203, Result.andThen_ok, if_true, Sem.run_pure]
  congr 2
  apply Array.ext'
  have h1 : i * 2 < F.length := by omega
  have h2 : i * 2 + 1 < F.length := by omega
  rw [Array.toList_extract]
  have e : (ints F).drop (i * 2) = .int .i64 (F.getD (i * 2) 0) :: .int .i64 (F.getD (i * 2 + 1) 0) :: (ints F).drop (i * 2 + 2) := by
    rw [List.drop_eq_getElem_cons (by rw [ints_len]; omega), List.drop_eq_getElem_cons (by rw [ints_len]; omega)]
    simp [ints, List.getD, h1, h2]
  simp [List.extract, e]
set_option maxRecDepth 100000 in
theorem index64 (F : List Int) (hF : F.length = 24) (i : Nat) (hi : i < 12) (w : World) : (Instr.index 205 (.agg (ints F).toArray) (.int .i64 (i : Int))).run Try.prog w = .ok (.agg #[.int .i64 (F.getD (i * 2) 0), .int .i64 (F.getD (i * 2 + 1) 0)]) w := by
  have h1 : (0 : Int) ≤ (i : Int) ∧ (i : Int) < ((12 : Nat) : Int) := by omega
  have h2 := part62 F hF i hi w
  unfold Instr.index
  simp only [asIntOf, Sem.run_bind, Sem.run_pure, Result.andThen_ok, run_underlying Try.underlying205]
  rw [if_pos h1]
  simp only [Sem.run_bind, Try.sizeOf203, Result.andThen_ok, Int.toNat_natCast]
  exact h2
end Go.Proofs.Ytlkcdcdgpklpoaa
