/-
  FoldSet, SetOf, FoldRune and InSet of the program and of the specification: one answer of both.
-/
import Derived.Test.YtmmhgeaddldhlaaSetsB
import Derived.Test.YtmmhgeaddldhlaaC4FS
import Derived.Test.YtmmhgeaddldhlaaFoldR
namespace Go.Proofs.Ytmmhgeaddldhlaa
open Go.ChangeShapes Go.WideShapes Go.ChangeAt Go.RowKit
theorem fold_pair {C : List (Int × Int)} (h : CT C) (hl : C.length ≤ 12) (r : Int) (h1 : 65 ≤ r) (h2 : r ≤ 90) : (Mem r (foldK C 26) ↔ Mem r C ∨ Mem (r + 32) C) ∧ (Mem (r + 32) (foldK C 26) ↔ Mem r C ∨ Mem (r + 32) C) := by
  obtain ⟨-, -, f⟩ := foldK_facts h hl 26 (Nat.le_refl _)
  have e1 : (65 : Int) + ((r - 65).toNat : Int) = r := by omega
  have e2 : (97 : Int) + ((r - 65).toNat : Int) = r + 32 := by omega
  constructor
  · rw [f]
    constructor
    · rintro (hm | ⟨j, hj, hm, hx⟩)
      · exact .inl hm
      · have : (j : Int) = r - 65 := by omega
        rw [this, show 65 + (r - 65) = r by omega, show 97 + (r - 65) = r + 32 by omega] at hm
        exact hm
    · intro hm
      exact .inr ⟨(r - 65).toNat, by omega, by rw [e1, e2]; exact hm, by omega⟩
  · rw [f]
    constructor
    · rintro (hm | ⟨j, hj, hm, hx⟩)
      · exact .inr hm
      · have : (j : Int) = r - 65 := by omega
        rw [this, show 65 + (r - 65) = r by omega, show 97 + (r - 65) = r + 32 by omega] at hm
        exact hm
    · intro hm
      exact .inr ⟨(r - 65).toNat, by omega, by rw [e1, e2]; exact hm, by omega⟩
theorem fold_fold {C : List (Int × Int)} (h : CT C) (hl : C.length ≤ 12) (h2 : (foldK C 26).length ≤ 12) : foldK (foldK C 26) 26 = foldK C 26 := by
  obtain ⟨f1, -, -⟩ := foldK_facts h hl 26 (Nat.le_refl _)
  obtain ⟨g1, -, g3⟩ := foldK_facts f1 h2 26 (Nat.le_refl _)
  refine can_ext g1.can f1.can fun x => ?_
  rw [g3]
  constructor
  · rintro (hm | ⟨j, hj, hm, hx⟩)
    · exact hm
    · have p := fold_pair h hl (65 + j) (by omega) (by omega)
      rw [show (65 : Int) + j + 32 = 97 + j by omega] at p
      have hC : Mem (65 + (j : Int)) C ∨ Mem (97 + (j : Int)) C := by
        rcases hm with hm | hm
        · exact p.1.1 hm
        · exact p.2.1 hm
      rcases hx with rfl | rfl
      · exact p.1.2 hC
      · exact p.2.2 hC
  · exact fun hm => .inl hm
theorem fold_both (L : List Int) (hl : L.length ≤ 1048576) : ∃ (ok : Bool) (G : List Int), G.length ≤ 1048576 ∧ One4 33 L ok G ∧ One4 32 L ok G ∧ (ok = true → goodS L = true ∧ goodS G = true ∧ (∀ r, 65 ≤ r → r ≤ 90 → memS G r = (memS L r || memS L (r + 32)) ∧ memS G (r + 32) = (memS L r || memS L (r + 32))) ∧ One4 32 G true G) := by
  cases hg : goodS L with
  | true =>
    obtain ⟨A, gA⟩ := good4_of hg
    obtain ⟨u1, -, -⟩ := foldK_facts gA.ct gA.le 26 (Nat.le_refl _)
    by_cases h12 : (foldK A 26).length ≤ 12
    · refine ⟨true, flS (foldK A 26), by rw [flS_len]; omega, ?_, ?_, fun _ => ⟨rfl, by rw [goodS_flS u1.can u1.top, decide_eq_true h12], fun r h1 h2 => ?_, ?_⟩⟩
      · exact fun w ao ca iA => (sfoldT_yes L A ao ca w gA iA).mono fun e w' ⟨he, hb⟩ => by obtain ⟨v, h1, h2⟩ := setE_yes he h12; exact ⟨v, h1, h2, hb⟩
      · exact fun w ao ca iA => (ifoldT_yes L A ao ca w gA iA).mono fun e w' ⟨he, hb⟩ => by obtain ⟨v, h1, h2⟩ := setE_yes he h12; exact ⟨v, h1, h2, hb⟩
      · have p := fold_pair gA.ct gA.le r h1 h2
        constructor
        · refine bool_ext ?_
          rw [memS_flS, p.1, Bool.or_eq_true, mem_good gA, mem_good gA]
        · refine bool_ext ?_
          rw [memS_flS, p.2, Bool.or_eq_true, mem_good gA, mem_good gA]
      · obtain ⟨D', g, hD⟩ := good4_flS u1 h12
        intro w ao ca iA
        refine (ifoldT_yes _ _ ao ca w g iA).mono fun e w' ⟨he, hb⟩ => ?_
        rw [hD, fold_fold gA.ct gA.le h12] at he
        obtain ⟨v, h1, h2⟩ := setE_yes he h12
        exact ⟨v, h1, h2, hb⟩
    · refine ⟨false, [], by simp, ?_, ?_, fun h => by cases h⟩
      · exact fun w ao ca iA => (sfoldT_yes L A ao ca w gA iA).mono fun e w' ⟨he, hb⟩ => by obtain ⟨v, h1, h2⟩ := setE_no he h12; exact ⟨v, h1, h2, hb⟩
      · exact fun w ao ca iA => (ifoldT_yes L A ao ca w gA iA).mono fun e w' ⟨he, hb⟩ => by obtain ⟨v, h1, h2⟩ := setE_no he h12; exact ⟨v, h1, h2, hb⟩
  | false =>
    refine ⟨false, [], by simp, ?_, ?_, fun h => by cases h⟩
    · exact fun w ao ca iA => (sfoldT_no L ao ca w hl hg iA).mono fun e w' ⟨he, hb⟩ => ⟨_, he, World.ownsRow_nil _ _ _ _, hb⟩
    · exact fun w ao ca iA => (ifoldT_no L ao ca w hl hg iA).mono fun e w' ⟨he, hb⟩ => ⟨_, he, World.ownsRow_nil _ _ _ _, hb⟩
theorem setOf_both (L : List Int) (hl : L.length ≤ 1048576) : ∃ (ok : Bool) (G : List Int), G.length ≤ 1048576 ∧ One4 36 L ok G ∧ One4 35 L ok G ∧ (ok = true → goodS G = true ∧ ∀ j, j < L.length → goodB (L.getD j 0) = true ∧ memS G (L.getD j 0) = true) := by
  cases hg : setB L with
  | true =>
    obtain ⟨hG, h1000⟩ := setB_true hg
    obtain ⟨u1, u2, u3⟩ := setL_facts L (allG_bd hG) L.length (Nat.le_refl _)
    rw [List.take_length] at u1 u2 u3
    by_cases h12 : (setL L).length ≤ 12
    · refine ⟨true, flS (setL L), by rw [flS_len]; omega, ?_, ?_, fun _ => ⟨by rw [goodS_flS u1.can u1.top, decide_eq_true h12], fun j hj => ?_⟩⟩
      · exact fun w ao ca iA => (ssetOf_yes L ao ca w hg iA).mono fun e w' ⟨he, hb⟩ => by obtain ⟨v, h1, h2⟩ := setE_yes he h12; exact ⟨v, h1, h2, hb⟩
      · exact fun w ao ca iA => (isetOf_yes L ao ca w hg iA).mono fun e w' ⟨he, hb⟩ => by obtain ⟨v, h1, h2⟩ := setE_yes he h12; exact ⟨v, h1, h2, hb⟩
      · have hm : L.getD j 0 ∈ L := by simp [List.getD, hj]
        exact ⟨allG_true hG _ hm, (memS_flS _ _).2 ((u3 _).2 hm)⟩
    · refine ⟨false, [], by simp, ?_, ?_, fun h => by cases h⟩
      · exact fun w ao ca iA => (ssetOf_yes L ao ca w hg iA).mono fun e w' ⟨he, hb⟩ => by obtain ⟨v, h1, h2⟩ := setE_no he h12; exact ⟨v, h1, h2, hb⟩
      · exact fun w ao ca iA => (isetOf_yes L ao ca w hg iA).mono fun e w' ⟨he, hb⟩ => by obtain ⟨v, h1, h2⟩ := setE_no he h12; exact ⟨v, h1, h2, hb⟩
  | false =>
    refine ⟨false, [], by simp, ?_, ?_, fun h => by cases h⟩
    · exact fun w ao ca iA => (ssetOf_no L ao ca w hl hg iA).mono fun e w' ⟨he, hb⟩ => ⟨_, he, World.ownsRow_nil _ _ _ _, hb⟩
    · exact fun w ao ca iA => (isetOf_no L ao ca w hl hg iA).mono fun e w' ⟨he, hb⟩ => ⟨_, he, World.ownsRow_nil _ _ _ _, hb⟩
theorem iin_all2 (L : List Int) (r : Int) (ao : Option Addr) (cap : Nat) (w : World) (hl : L.length ≤ 1048576) (hA : IntsAt w ao L) :
    Calls Try.prog 26 #[.slice ao L.length cap, .int .i64 r] w fun e w' => e = .returned (.tuple #[.bool (goodS L && goodB r && memS L r), .bool (goodS L && goodB r)]) ∧ Below w.heap.size w w' := by
  by_cases hg : goodS L = true ∧ goodB r = true
  · rw [hg.1, hg.2]
    exact iin_yes L r ao cap w hg.1 hg.2 hA
  · have e : (goodS L && goodB r) = false := by
      rw [Bool.eq_false_iff]
      exact fun h => hg (by simpa using h)
    rw [e]
    exact iin_no L r ao cap w hl hg hA
theorem ifoldR_all (r : Int) (w : World) :
    Calls Try.prog 38 #[.int .i64 r] w fun e w' => e = .returned (.tuple #[.int .i64 (if goodB r then foldN r else 0), .bool (goodB r)]) ∧ w = w' := by
  cases hg : goodB r with
  | true => exact ifoldR_yes r w hg
  | false => exact ifoldR_no r w hg
theorem sfoldR_all (r : Int) (w : World) :
    Calls Try.prog 39 #[.int .i64 r] w fun e w' => e = .returned (.tuple #[.int .i64 (if goodB r then foldN r else 0), .bool (goodB r)]) ∧ w = w' := by
  cases hg : goodB r with
  | true => exact sfoldR_yes r w hg
  | false => exact sfoldR_no r w hg
/-- FoldRune of both. -/
theorem foldR_both (r : Int) : ∃ (x : Int) (g : Bool), (∀ w, Calls Try.prog 38 #[.int .i64 r] w fun e w' => e = .returned (.tuple #[.int .i64 x, .bool g]) ∧ w = w') ∧
    ∀ w, Calls Try.prog 39 #[.int .i64 r] w fun e w' => e = .returned (.tuple #[.int .i64 x, .bool g]) ∧ w = w' :=
  ⟨_, _, fun w => ifoldR_all r w, fun w => sfoldR_all r w⟩
end Go.Proofs.Ytmmhgeaddldhlaa
