/-
  Whether a machine of states is good: plain functions; l1All, l1Rising of the specification; areGoodCuts, slices.Min, slices.Max of the program.
-/
import Derived.Test.YtlkcdcdgpklpoaaM6D
namespace Go.Proofs.Ytlkcdcdgpklpoaa
open Go.ChangeShapes Go.WideShapes Go.ChangeAt Go.RowKit
def inB (lo hi : Int) (L : List Int) : Bool := L.all fun x => decide (lo ≤ x ∧ x ≤ hi)
theorem inB_iff {lo hi : Int} {L : List Int} : inB lo hi L = true ↔ ∀ j, j < L.length → lo ≤ L.getD j 0 ∧ L.getD j 0 ≤ hi := by
  unfold inB
  rw [List.all_eq_true]
  constructor
  · intro h j hj
    exact of_decide_eq_true (h (L.getD j 0) (by simp [List.getD, hj]))
  · intro h x hx
    obtain ⟨j, hj, rfl⟩ := List.mem_iff_getElem.1 hx
    have := h j hj
    exact decide_eq_true (by simpa [List.getD, hj] using this)
theorem inB_bad {lo hi : Int} {L : List Int} {k : Nat} (h : k < L.length) (hb : ¬ (lo ≤ L.getD k 0 ∧ L.getD k 0 ≤ hi)) : inB lo hi L = false := by
  rw [Bool.eq_false_iff]
  intro ha
  exact hb (inB_iff.1 ha k h)
/-- The number at a place is within bounds and above the one ahead. -/
def okR (lo hi : Int) (L : List Int) (j : Nat) : Prop := (lo ≤ L.getD j 0 ∧ L.getD j 0 ≤ hi) ∧ (0 < j → L.getD (j - 1) 0 < L.getD j 0)
instance (lo hi : Int) (L : List Int) (j : Nat) : Decidable (okR lo hi L j) := by unfold okR; exact inferInstance
def risB (lo hi : Int) (L : List Int) : Bool := decide (∀ j, j < L.length → okR lo hi L j)
theorem risB_bad {lo hi : Int} {L : List Int} {k : Nat} (h : k < L.length) (hb : ¬ okR lo hi L k) : risB lo hi L = false := decide_eq_false fun ha => hb (ha k h)
/-- The number ahead of a place; 0 ahead of the first one. -/
def ahd (L : List Int) (k : Nat) : Int := if k = 0 then 0 else L.getD (k - 1) 0
theorem ahd_step (L : List Int) (k : Nat) : ahd L (k + 1) = L.getD k 0 := by simp [ahd]
def okC (L : List Int) (j : Nat) : Prop := ahd L j < L.getD j 0 ∧ L.getD j 0 ≤ 1114111
theorem okC_bd {L : List Int} : ∀ {j : Nat}, (∀ i, i ≤ j → okC L i) → 0 < L.getD j 0
  | 0, h => by have := (h 0 (Nat.le_refl _)).1; simpa [ahd] using this
  | j + 1, h => by
    have h1 := (h (j + 1) (Nat.le_refl _)).1
    have h2 := okC_bd (fun i hi => h i (by omega) : ∀ i, i ≤ j → okC L i)
    rw [ahd_step] at h1
    omega
theorem okC_all {L : List Int} (h : ∀ j, j < L.length → okC L j) : risB 1 1114111 L = true := decide_eq_true fun j hj => by
  have h1 := okC_bd (fun i hi => h i (by omega) : ∀ i, i ≤ j → okC L i)
  have h2 := h j hj
  refine ⟨⟨by omega, h2.2⟩, fun h0 => ?_⟩
  have := h2.1
  simpa [ahd, show j ≠ 0 by omega] using this
theorem okC_bad {L : List Int} {k : Nat} (hk : k < L.length) (h : ¬ okC L k) : risB 1 1114111 L = false := risB_bad hk fun ⟨⟨h1, h2⟩, h3⟩ => h ⟨by
  unfold ahd
  split
  · omega
  · exact h3 (by omega), h2⟩
def rowB (n m : Nat) (l : List Int) : Bool := decide (l.length = n + 1) && inB 0 ((m : Int) - 1) l
/-- A good machine of states. -/
def goodD (C : List Int) (R : Rw) (F : List Bool) : Bool := decide (1 ≤ R.length ∧ R.length ≤ 60) && decide (F.length = R.length) && decide (C.length ≤ 40) && risB 1 1114111 C && R.all (rowB C.length R.length)
theorem goodD_no1 {C : List Int} {R : Rw} {F : List Bool} (h : ¬ (1 ≤ R.length ∧ R.length ≤ 60)) : goodD C R F = false := by simp only [goodD, decide_eq_false h, Bool.false_and]
theorem goodD_no2 {C : List Int} {R : Rw} {F : List Bool} (h : ¬ F.length = R.length) : goodD C R F = false := by simp only [goodD, decide_eq_false h, Bool.false_and, Bool.and_false]
theorem goodD_no3 {C : List Int} {R : Rw} {F : List Bool} (h : ¬ C.length ≤ 40) : goodD C R F = false := by simp only [goodD, decide_eq_false h, Bool.false_and, Bool.and_false]
theorem goodD_no4 {C : List Int} {R : Rw} {F : List Bool} (h : risB 1 1114111 C = false) : goodD C R F = false := by simp only [goodD, h, Bool.false_and, Bool.and_false]
theorem goodD_no5 {C : List Int} {R : Rw} {F : List Bool} {k : Nat} (hk : k < R.length) (h : rowB C.length R.length (rw_ R k) = false) : goodD C R F = false := by
  have : R.all (rowB C.length R.length) = false := by
    rw [Bool.eq_false_iff]
    intro ha
    have := List.all_eq_true.1 ha _ (rw_mem R k hk)
    rw [h] at this
    cases this
  simp only [goodD, this, Bool.and_false]
theorem goodD_yes {C : List Int} {R : Rw} {F : List Bool} (h1 : 1 ≤ R.length ∧ R.length ≤ 60) (h2 : F.length = R.length) (h3 : C.length ≤ 40) (h4 : risB 1 1114111 C = true) (h5 : ∀ k, k < R.length → rowB C.length R.length (rw_ R k) = true) : goodD C R F = true := by
  have : R.all (rowB C.length R.length) = true := List.all_eq_true.2 fun x hx => by
    obtain ⟨j, hj, rfl⟩ := List.mem_iff_getElem.1 hx
    have := h5 j hj
    simpa [rw_, List.getD, hj] using this
  simp only [goodD, decide_eq_true h1, decide_eq_true h2, decide_eq_true h3, h4, this, Bool.and_self]
theorem goodD_true {C : List Int} {R : Rw} {F : List Bool} (h : goodD C R F = true) : (1 ≤ R.length ∧ R.length ≤ 60) ∧ F.length = R.length ∧ C.length ≤ 40 ∧ risB 1 1114111 C = true ∧ ∀ k, k < R.length → (rw_ R k).length = C.length + 1 ∧ ∀ j, j < (rw_ R k).length → 0 ≤ (rw_ R k).getD j 0 ∧ (rw_ R k).getD j 0 ≤ (R.length : Int) - 1 := by
  simp only [goodD, Bool.and_eq_true, decide_eq_true_eq] at h
  obtain ⟨⟨⟨⟨h1, h2⟩, h3⟩, h4⟩, h5⟩ := h
  refine ⟨h1, h2, h3, h4, fun k hk => ?_⟩
  have := List.all_eq_true.1 h5 _ (rw_mem R k hk)
  simp only [rowB, Bool.and_eq_true, decide_eq_true_eq] at this
  exact ⟨this.1, fun j hj => inB_iff.1 this.2 j hj⟩
set_option maxRecDepth 100000 in
set_option maxHeartbeats 1000000 in
theorem sallB_any (lo hi : Int) (L : List Int) (ao : Option Addr) (cap : Nat) (w : World) (hl : L.length ≤ 1048576) (hA : IntsAt w ao L) :
    Calls Try.prog 144 #[.slice ao L.length cap, .int .i64 lo, .int .i64 hi] w fun e w' => e = .returned (.bool (inB lo hi L)) ∧ w' = w := by
  have HA : Hid _ := hA
  clear hA
  go_enter Try.func144, Try.ntmps144
  go_wp2
  go_loopw [11] (fun i wr => ∃ k : Nat, k ≤ L.length ∧ i = .int .i64 k ∧ (∀ j, j < k → lo ≤ L.getD j 0 ∧ L.getD j 0 ≤ hi) ∧ wr = w) (fun i _ => L.length - (intOf i).toNat)
  case atStart => exact ⟨0, Nat.zero_le _, rfl, fun j hj => absurd hj (by omega), rfl⟩
  case round =>
    obtain ⟨k, hk, rfl, hall, rfl⟩ := hrel
    have HALL : Hid _ := hall
    clear hall
    by_cases hlt : k < L.length
    · have hltI : (k : Int) < (L.length : Int) := by omega
      obtain ⟨b1, o1, rfl, l1, h1⟩ := HA.out k hlt
      by_cases hgd : lo ≤ L.getD k 0 ∧ L.getD k 0 ≤ hi
      · have HG : Hid _ := hgd
        have HN : Hid (∀ j, j < k + 1 → lo ≤ L.getD j 0 ∧ L.getD j 0 ≤ hi) := fun j hj => by
          by_cases e : j = k
          · subst e; exact hgd
          · exact HALL.out j (by omega)
        clear hgd
        generalize L.getD k 0 = r at *
        go_wp2_with (go_at_call 68; refine (in_yes HG.out _).mono ?_; rintro e w' ⟨rfl, rfl⟩)
        go_roundw
        case rel => exact ⟨k + 1, by omega, by go_num, HN.out, by first | rfl | trivial⟩
        case measure => simp [intOf]; omega
      · have HG : Hid _ := hgd
        have HB : Hid _ := inB_bad hlt hgd
        clear hgd
        generalize L.getD k 0 = r at *
        go_wp2_with (go_at_call 68; refine (in_no HG.out _).mono ?_; rintro e w' ⟨rfl, rfl⟩)
        go_ret
        exact ⟨by rw [HB.out]; rfl, rfl⟩
    · obtain rfl : k = L.length := by omega
      have HB : Hid (inB lo hi L = true) := inB_iff.2 HALL.out
      go_wp2
      go_ret
      exact ⟨by rw [HB.out]; rfl, rfl⟩
set_option maxRecDepth 100000 in
set_option maxHeartbeats 2000000 in
theorem sris_any (lo hi : Int) (L : List Int) (ao : Option Addr) (cap : Nat) (w : World) (hl : L.length ≤ 1048576) (hA : IntsAt w ao L) :
    Calls Try.prog 70 #[.slice ao L.length cap, .int .i64 lo, .int .i64 hi] w fun e w' => e = .returned (.bool (risB lo hi L)) ∧ w' = w := by
  have HA : Hid _ := hA
  clear hA
  go_enter Try.func70, Try.ntmps70
  go_wp2
  go_loopw [11] (fun i wr => ∃ k : Nat, k ≤ L.length ∧ i = .int .i64 k ∧ (∀ j, j < k → okR lo hi L j) ∧ wr = w) (fun i _ => L.length - (intOf i).toNat)
  case atStart => exact ⟨0, Nat.zero_le _, rfl, fun j hj => absurd hj (by omega), rfl⟩
  case round =>
    obtain ⟨k, hk, rfl, hall, rfl⟩ := hrel
    have HALL : Hid _ := hall
    clear hall
    by_cases hlt : k < L.length
    · have hltI : (k : Int) < (L.length : Int) := by omega
      obtain ⟨b1, o1, rfl, l1, h1⟩ := HA.out k hlt
      by_cases hgd : lo ≤ L.getD k 0 ∧ L.getD k 0 ≤ hi
      · have HG : Hid _ := hgd
        by_cases h0 : k = 0
        · have HN : Hid (∀ j, j < k + 1 → okR lo hi L j) := fun j hj => by
            obtain rfl : j = k := by omega
            exact ⟨hgd, fun h => absurd h (by omega)⟩
          have hk0 : ¬ (0 : Int) < (k : Int) := by omega
          have hk1 : decide (0 < k) = false := decide_eq_false (by omega)
          have H0 : Hid _ := h0
          clear hgd h0
          generalize L.getD k 0 = r at *
          go_wp2_with (go_at_call 68; refine (in_yes HG.out _).mono ?_; rintro e w' ⟨rfl, rfl⟩)
          go_roundw
          case rel => exact ⟨k + 1, by omega, by go_num, HN.out, by first | rfl | trivial⟩
          case measure => simp [intOf]; omega
        · have hk0 : (0 : Int) < (k : Int) := by omega
          have hk1 : decide (0 < k) = true := decide_eq_true (by omega)
          obtain ⟨b2, o2, e2, l2, h2⟩ := HA.out (k - 1) (by omega)
          simp only [Option.some.injEq, Addr.mk.injEq, and_true] at e2
          obtain ⟨rfl, rfl⟩ := e2
          have hw2 : IntKind.i64.wrap ((k : Int) - 1) = (k : Int) - 1 := IntWalk.i64_in _ (by omega)
          have hn2 : ((k : Int) - 1).toNat = k - 1 := by omega
          have hle2 : (0 : Int) ≤ (k : Int) - 1 := by omega
          have hlt2 : (k : Int) - 1 < (L.length : Int) := by omega
          by_cases q : L.getD (k - 1) 0 < L.getD k 0
          · have HN : Hid (∀ j, j < k + 1 → okR lo hi L j) := fun j hj => by
              by_cases e : j = k
              · subst e; exact ⟨hgd, fun _ => q⟩
              · exact HALL.out j (by omega)
            have q1 : ¬ L.getD (k - 1) 0 ≥ L.getD k 0 := by omega
            clear hgd
            generalize L.getD (k - 1) 0 = z at *
            generalize L.getD k 0 = r at *
            go_wp2_with (go_at_call 68; refine (in_yes HG.out _).mono ?_; rintro e w' ⟨rfl, rfl⟩)
            go_roundw
            case rel => exact ⟨k + 1, by omega, by go_num, HN.out, by first | rfl | trivial⟩
            case measure => simp [intOf]; omega
          · have HB : Hid (risB lo hi L = false) := risB_bad hlt fun h => q (h.2 (by omega))
            have q1 : L.getD (k - 1) 0 ≥ L.getD k 0 := by omega
            clear hgd
            generalize L.getD (k - 1) 0 = z at *
            generalize L.getD k 0 = r at *
            go_wp2_with (go_at_call 68; refine (in_yes HG.out _).mono ?_; rintro e w' ⟨rfl, rfl⟩)
            go_ret
            exact ⟨by rw [HB.out]; rfl, rfl⟩
      · have HG : Hid _ := hgd
        have HB : Hid (risB lo hi L = false) := risB_bad hlt fun h => hgd h.1
        clear hgd
        generalize L.getD k 0 = r at *
        go_wp2_with (go_at_call 68; refine (in_no HG.out _).mono ?_; rintro e w' ⟨rfl, rfl⟩)
        go_ret
        exact ⟨by rw [HB.out]; rfl, rfl⟩
    · obtain rfl : k = L.length := by omega
      have HB : Hid (risB lo hi L = true) := decide_eq_true HALL.out
      go_wp2
      go_ret
      exact ⟨by rw [HB.out]; rfl, rfl⟩
theorem sallB' (lo hi : Int) (L : List Int) (ao : Option Addr) (n cap : Nat) (w : World) (hn : n = L.length) (hl : L.length ≤ 1048576) (hA : IntsAt w ao L) :
    Calls Try.prog 144 #[.slice ao n cap, .int .i64 lo, .int .i64 hi] w fun e w' => e = .returned (.bool (inB lo hi L)) ∧ w' = w := by subst hn; exact sallB_any lo hi L ao cap w hl hA
end Go.Proofs.Ytlkcdcdgpklpoaa
