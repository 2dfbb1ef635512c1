/-
  Whether a machine of states is good: plain functions; l1All, l1Rising of the specification; areGoodCuts, slices.Min, slices.Max of the program.
-/
import Derived.Test.YtnlccplpcbdmnaaM6D
namespace Go.Proofs.Ytnlccplpcbdmnaa
open Go.ChangeShapes Go.WideShapes Go.ChangeAt Go.RowKit
def inB (lo hi : Int) (L : List Int) : Bool := L.all fun x => decide (lo ≤ x ∧ x ≤ hi)
theorem inB_iff {lo hi : Int} {L : List Int} : inB lo hi L = true ↔ ∀ j, j < L.length → lo ≤ L.getD j 0 ∧ L.getD j 0 ≤ hi := by
  unfold inB
  rw [List.all_eq_true]
  constructor
  · intro h j hj
    exact of_decide_eq_true (h (L.getD j 0) (by simp [List.getD, hj]))
  · intro h x hx
    obtain ⟨j, hj, rfl⟩ := List.mem_iff_getElem.1 hx
    have := h j hj
    exact decide_eq_true (by simpa [List.getD, hj] using this)
theorem inB_bad {lo hi : Int} {L : List Int} {k : Nat} (h : k < L.length) (hb : ¬ (lo ≤ L.getD k 0 ∧ L.getD k 0 ≤ hi)) : inB lo hi L = false := by
  rw [Bool.eq_false_iff]
  intro ha
  exact hb (inB_iff.1 ha k h)
/-- The number at a place is within bounds and above the one ahead. -/
def okR (lo hi : Int) (L : List Int) (j : Nat) : Prop := (lo ≤ L.getD j 0 ∧ L.getD j 0 ≤ hi) ∧ (0 < j → L.getD (j - 1) 0 < L.getD j 0)
instance (lo hi : Int) (L : List Int) (j : Nat) : Decidable (okR lo hi L j) := by unfold okR; exact inferInstance
def risB (lo hi : Int) (L : List Int) : Bool := decide (∀ j, j < L.length → okR lo hi L j)
theorem risB_bad {lo hi : Int} {L : List Int} {k : Nat} (h : k < L.length) (hb : ¬ okR lo hi L k) : risB lo hi L = false := decide_eq_false fun ha => hb (ha k h)
/-- The number ahead of a place; 0 ahead of the first one. -/
def ahd (L : List Int) (k : Nat) : Int := if k = 0 then 0 else L.getD (k - 1) 0
theorem ahd_step (L : List Int) (k : Nat) : ahd L (k + 1) = L.getD k 0 := by simp [ahd]
def okC (L : List Int) (j : Nat) : Prop := ahd L j < L.getD j 0 ∧ L.getD j 0 ≤ 1114111
theorem okC_bd {L : List Int} : ∀ {j : Nat}, (∀ i, i ≤ j → okC L i) → 0 < L.getD j 0
  | 0, h => by have := (h 0 (Nat.le_refl _)).1; simpa [ahd] using this
  | j + 1, h => by
    have h1 := (h (j + 1) (Nat.le_refl _)).1
    have h2 := okC_bd (fun i hi => h i (by omega) : ∀ i, i ≤ j → okC L i)
    rw [ahd_step] at h1
    omega
theorem okC_all {L : List Int} (h : ∀ j, j < L.length → okC L j) : risB 1 1114111 L = true := decide_eq_true fun j hj => by
  have h1 := okC_bd (fun i hi => h i (by omega) : ∀ i, i ≤ j → okC L i)
  have h2 := h j hj
  refine ⟨⟨by omega, h2.2⟩, fun h0 => ?_⟩
  have := h2.1
  simpa [ahd, show j ≠ 0 by omega] using this
theorem okC_bad {L : List Int} {k : Nat} (hk : k < L.length) (h : ¬ okC L k) : risB 1 1114111 L = false := risB_bad hk fun ⟨⟨h1, h2⟩, h3⟩ => h ⟨by
  unfold ahd
  split
  · omega
  · exact h3 (by omega), h2⟩
def rowB (n m : Nat) (l : List Int) : Bool := decide (l.length = n + 1) && inB 0 ((m : Int) - 1) l
/-- A good machine of states. -/
def goodD (C : List Int) (R : Rw) (F : List Bool) : Bool := decide (1 ≤ R.length ∧ R.length ≤ 60) && decide (F.length = R.length) && decide (C.length ≤ 40) && risB 1 1114111 C && R.all (rowB C.length R.length)
theorem goodD_no1 {C : List Int} {R : Rw} {F : List Bool} (h : ¬ (1 ≤ R.length ∧ R.length ≤ 60)) : goodD C R F = false := by simp only [goodD, decide_eq_false h, Bool.false_and]
theorem goodD_no2 {C : List Int} {R : Rw} {F : List Bool} (h : ¬ F.length = R.length) : goodD C R F = false := by simp only [goodD, decide_eq_false h, Bool.false_and, Bool.and_false]
theorem goodD_no3 {C : List Int} {R : Rw} {F : List Bool} (h : ¬ C.length ≤ 40) : goodD C R F = false := by simp only [goodD, decide_eq_false h, Bool.false_and, Bool.and_false]
theorem goodD_no4 {C : List Int} {R : Rw} {F : List Bool} (h : risB 1 1114111 C = false) : goodD C R F = false := by simp only [goodD, h, Bool.false_and, Bool.and_false]
theorem goodD_no5 {C : List Int} {R : Rw} {F : List Bool} {k : Nat} (hk : k < R.length) (h : rowB C.length R.length (rw_ R k) = false) : goodD C R F = false := by
  have : R.all (rowB C.length R.length) = false := by
    rw [Bool.eq_false_iff]
    intro ha
    have := List.all_eq_true.1 ha _ (rw_mem R k hk)
    rw [h] at this
    cases this
  simp only [goodD, this, Bool.and_false]
theorem goodD_yes {C : List Int} {R : Rw} {F : List Bool} (h1 : 1 ≤ R.length ∧ R.length ≤ 60) (h2 : F.length = R.length) (h3 : C.length ≤ 40) (h4 : risB 1 1114111 C = true) (h5 : ∀ k, k < R.length → rowB C.length R.length (rw_ R k) = true) : goodD C R F = true := by
  have : R.all (rowB C.length R.length) = true := List.all_eq_true.2 fun x hx => by
    obtain ⟨j, hj, rfl⟩ := List.mem_iff_getElem.1 hx
    have := h5 j hj
    simpa [rw_, List.getD, hj] using this
  simp only [goodD, decide_eq_true h1, decide_eq_true h2, decide_eq_true h3, h4, this, Bool.and_self]
theorem goodD_true {C : List Int} {R : Rw} {F : List Bool} (h : goodD C R F = true) : (1 ≤ R.length ∧ R.length ≤ 60) ∧ F.length = R.length ∧ C.length ≤ 40 ∧ risB 1 1114111 C = true ∧ ∀ k, k < R.length → (rw_ R k).length = C.length + 1 ∧ ∀ j, j < (rw_ R k).length → 0 ≤ (rw_ R k).getD j 0 ∧ (rw_ R k).getD j 0 ≤ (R.length : Int) - 1 := by
  simp only [goodD, Bool.and_eq_true, decide_eq_true_eq] at h
  obtain ⟨⟨⟨⟨h1, h2⟩, h3⟩, h4⟩, h5⟩ := h
  refine ⟨h1, h2, h3, h4, fun k hk => ?_⟩
  have := List.all_eq_true.1 h5 _ (rw_mem R k hk)
  simp only [rowB, Bool.and_eq_true, decide_eq_true_eq] at this
  exact ⟨this.1, fun j hj => inB_iff.1 this.2 j hj⟩
set_option maxRecDepth 100000 in
set_option maxHeartbeats 1000000 in
theorem sallB_any (lo hi : Int) (L : List Int) (ao : Option Addr) (cap : Nat) (w : World) (hl : L.length ≤ 1048576) (hA : IntsAt w ao L) :
    Calls Try.prog 32 #[.slice ao L.length cap, .int .i64 lo, .int .i64 hi] w fun e w' => e = .returned (.bool (inB lo hi L)) ∧ w' = w := by
  have HA : Hid _ := hA
  clear hA
  go_enter Try.func32, Try.ntmps32
  go_wp2
  go_loopw [11] (fun i wr => ∃ k : Nat, k ≤ L.length ∧ i = .int .i64 k ∧ (∀ j, j < k → lo ≤ L.getD j 0 ∧ L.getD j 0 ≤ hi) ∧ wr = w) (fun i _ => L.length - (intOf i).toNat)
  case atStart => exact ⟨0, Nat.zero_le _, rfl, fun j hj => absurd hj (by omega), rfl⟩
  case round =>
    obtain ⟨k, hk, rfl, hall, rfl⟩ := hrel
    have HALL : Hid _ := hall
    clear hall
    by_cases hlt : k < L.length
    · have hltI : (k : Int) < (L.length : Int) := by omega
      obtain ⟨b1, o1, rfl, l1, h1⟩ := HA.out k hlt
      by_cases hgd : lo ≤ L.getD k 0 ∧ L.getD k 0 ≤ hi
      · have HG : Hid _ := hgd
        have HN : Hid (∀ j, j < k + 1 → lo ≤ L.getD j 0 ∧ L.getD j 0 ≤ hi) := fun j hj => by
          by_cases e : j = k
          · subst e; exact hgd
          · exact HALL.out j (by omega)
        clear hgd
        generalize L.getD k 0 = r at *
        go_wp2_with (go_at_call 30; refine (in_yes HG.out _).mono ?_; rintro e w' ⟨rfl, rfl⟩)
        go_roundw
        case rel => exact ⟨k + 1, by omega, by go_num, HN.out, by first | rfl | trivial⟩
        case measure => simp [intOf]; omega
      · have HG : Hid _ := hgd
        have HB : Hid _ := inB_bad hlt hgd
        clear hgd
        generalize L.getD k 0 = r at *
        go_wp2_with (go_at_call 30; refine (in_no HG.out _).mono ?_; rintro e w' ⟨rfl, rfl⟩)
        go_ret
        exact ⟨by rw [HB.out]; rfl, rfl⟩
    · obtain rfl : k = L.length := by omega
      have HB : Hid (inB lo hi L = true) := inB_iff.2 HALL.out
      go_wp2
      go_ret
      exact ⟨by rw [HB.out]; rfl, rfl⟩
set_option maxRecDepth 100000 in
set_option maxHeartbeats 2000000 in
theorem sris_any (lo hi : Int) (L : List Int) (ao : Option Addr) (cap : Nat) (w : World) (hl : L.length ≤ 1048576) (hA : IntsAt w ao L) :
    Calls Try.prog 31 #[.slice ao L.length cap, .int .i64 lo, .int .i64 hi] w fun e w' => e = .returned (.bool (risB lo hi L)) ∧ w' = w := by
  have HA : Hid _ := hA
  clear hA
  go_enter Try.func31, Try.ntmps31
  go_wp2
  go_loopw [11] (fun i wr => ∃ k : Nat, k ≤ L.length ∧ i = .int .i64 k ∧ (∀ j, j < k → okR lo hi L j) ∧ wr = w) (fun i _ => L.length - (intOf i).toNat)
  case atStart => exact ⟨0, Nat.zero_le _, rfl, fun j hj => absurd hj (by omega), rfl⟩
  case round =>
    obtain ⟨k, hk, rfl, hall, rfl⟩ := hrel
    have HALL : Hid _ := hall
    clear hall
    by_cases hlt : k < L.length
    · have hltI : (k : Int) < (L.length : Int) := by omega
      obtain ⟨b1, o1, rfl, l1, h1⟩ := HA.out k hlt
      by_cases hgd : lo ≤ L.getD k 0 ∧ L.getD k 0 ≤ hi
      · have HG : Hid _ := hgd
        by_cases h0 : k = 0
        · have HN : Hid (∀ j, j < k + 1 → okR lo hi L j) := fun j hj => by
            obtain rfl : j = k := by omega
            exact ⟨hgd, fun h => absurd h (by omega)⟩
          have hk0 : ¬ (0 : Int) < (k : Int) := by omega
          have hk1 : decide (0 < k) = false := decide_eq_false (by omega)
          have H0 : Hid _ := h0
          clear hgd h0
          generalize L.getD k 0 = r at *
          go_wp2_with (go_at_call 30; refine (in_yes HG.out _).mono ?_; rintro e w' ⟨rfl, rfl⟩)
          go_roundw
          case rel => exact ⟨k + 1, by omega, by go_num, HN.out, by first | rfl | trivial⟩
          case measure => simp [intOf]; omega
        · have hk0 : (0 : Int) < (k : Int) := by omega
          have hk1 : decide (0 < k) = true := decide_eq_true (by omega)
          obtain ⟨b2, o2, e2, l2, h2⟩ := HA.out (k - 1) (by omega)
          simp only [Option.some.injEq, Addr.mk.injEq, and_true] at e2
          obtain ⟨rfl, rfl⟩ := e2
          have hw2 : IntKind.i64.wrap ((k : Int) - 1) = (k : Int) - 1 := IntWalk.i64_in _ (by omega)
          have hn2 : ((k : Int) - 1).toNat = k - 1 := by omega
          have hle2 : (0 : Int) ≤ (k : Int) - 1 := by omega
          have hlt2 : (k : Int) - 1 < (L.length : Int) := by omega
          by_cases q : L.getD (k - 1) 0 < L.getD k 0
          · have HN : Hid (∀ j, j < k + 1 → okR lo hi L j) := fun j hj => by
              by_cases e : j = k
              · subst e; exact ⟨hgd, fun _ => q⟩
              · exact HALL.out j (by omega)
            have q1 : ¬ L.getD (k - 1) 0 ≥ L.getD k 0 := by omega
            clear hgd
            generalize L.getD (k - 1) 0 = z at *
            generalize L.getD k 0 = r at *
            go_wp2_with (go_at_call 30; refine (in_yes HG.out _).mono ?_; rintro e w' ⟨rfl, rfl⟩)
            go_roundw
            case rel => exact ⟨k + 1, by omega, by go_num, HN.out, by first | rfl | trivial⟩
            case measure => simp [intOf]; omega
          · have HB : Hid (risB lo hi L = false) := risB_bad hlt fun h => q (h.2 (by omega))
            have q1 : L.getD (k - 1) 0 ≥ L.getD k 0 := by omega
            clear hgd
            generalize L.getD (k - 1) 0 = z at *
            generalize L.getD k 0 = r at *
            go_wp2_with (go_at_call 30; refine (in_yes HG.out _).mono ?_; rintro e w' ⟨rfl, rfl⟩)
            go_ret
            exact ⟨by rw [HB.out]; rfl, rfl⟩
      · have HG : Hid _ := hgd
        have HB : Hid (risB lo hi L = false) := risB_bad hlt fun h => hgd h.1
        clear hgd
        generalize L.getD k 0 = r at *
        go_wp2_with (go_at_call 30; refine (in_no HG.out _).mono ?_; rintro e w' ⟨rfl, rfl⟩)
        go_ret
        exact ⟨by rw [HB.out]; rfl, rfl⟩
    · obtain rfl : k = L.length := by omega
      have HB : Hid (risB lo hi L = true) := decide_eq_true HALL.out
      go_wp2
      go_ret
      exact ⟨by rw [HB.out]; rfl, rfl⟩
set_option maxRecDepth 100000 in
set_option maxHeartbeats 2000000 in
theorem icuts_any (L : List Int) (ao : Option Addr) (cap : Nat) (w : World) (hl : L.length ≤ 1048576) (hA : IntsAt w ao L) :
    Calls Try.prog 35 #[.slice ao L.length cap] w fun e w' => e = .returned (.bool (decide (L.length ≤ 40) && risB 1 1114111 L)) ∧ w' = w := by
  have HA : Hid _ := hA
  clear hA
  by_cases h40 : L.length ≤ 40
  · have h40' : ¬ (40 : Int) < (L.length : Int) := by omega
    rw [decide_eq_true h40, Bool.true_and]
    go_enter Try.func35, Try.ntmps35
    go_wp2
    go_loopw [3, 11] (fun a i wr => ∃ k : Nat, k ≤ L.length ∧ i = .int .i64 k ∧ a = .int .i64 (ahd L k) ∧ (∀ j, j < k → okC L j) ∧ wr = w) (fun _ i _ => L.length - (intOf i).toNat)
    case atStart => exact ⟨0, Nat.zero_le _, rfl, rfl, fun j hj => absurd hj (by omega), rfl⟩
    case round =>
      obtain ⟨k, hk, rfl, rfl, hall, rfl⟩ := hrel
      have HALL : Hid _ := hall
      clear hall
      by_cases hlt : k < L.length
      · have hltI : (k : Int) < (L.length : Int) := by omega
        obtain ⟨b1, o1, rfl, l1, h1⟩ := HA.out k hlt
        have HSTEP : Hid _ := ahd_step L k
        by_cases q : L.getD k 0 ≤ ahd L k
        · have HB : Hid (risB 1 1114111 L = false) := okC_bad hlt fun h => by have := h.1; omega
          generalize L.getD k 0 = r at *
          generalize ahd L k = z at *
          go_wp2
          go_ret
          exact ⟨by rw [HB.out]; rfl, rfl⟩
        · by_cases q2 : L.getD k 0 ≤ 1114111
          · have HN : Hid (∀ j, j < k + 1 → okC L j) := fun j hj => by
              by_cases e : j = k
              · subst e; exact ⟨by omega, q2⟩
              · exact HALL.out j (by omega)
            have q3 : ¬ 1114111 < L.getD k 0 := by omega
            generalize L.getD k 0 = r at *
            generalize ahd L k = z at *
            go_wp2
            go_roundw
            case rel => exact ⟨k + 1, by omega, by go_num, by rw [HSTEP.out], HN.out, by first | rfl | trivial⟩
            case measure => simp [intOf]; omega
          · have HB : Hid (risB 1 1114111 L = false) := okC_bad hlt fun h => q2 h.2
            have q3 : 1114111 < L.getD k 0 := by omega
            generalize L.getD k 0 = r at *
            generalize ahd L k = z at *
            go_wp2
            go_ret
            exact ⟨by rw [HB.out]; rfl, rfl⟩
      · obtain rfl : k = L.length := by omega
        have HB : Hid (risB 1 1114111 L = true) := okC_all HALL.out
        go_wp2
        go_ret
        exact ⟨by rw [HB.out]; rfl, rfl⟩
  · have h40' : (40 : Int) < (L.length : Int) := by omega
    rw [decide_eq_false h40, Bool.false_and]
    go_enter Try.func35, Try.ntmps35
    go_wp2
    go_ret
    exact ⟨rfl, rfl⟩
set_option maxRecDepth 100000 in
set_option maxHeartbeats 2000000 in
theorem slmin_any (L : List Int) (ao : Option Addr) (cap : Nat) (w : World) (h1 : 0 < L.length) (hl : L.length ≤ 1048576) (hA : IntsAt w ao L) :
    Calls Try.prog 36 #[.slice ao L.length cap] w fun e w' => ∃ x, e = .returned (.int .i64 x) ∧ (∃ j, j < L.length ∧ x = L.getD j 0) ∧ (∀ j, j < L.length → x ≤ L.getD j 0) ∧ w' = w := by
  have HA : Hid _ := hA
  have h1' : ¬ (L.length : Int) < 1 := by omega
  obtain ⟨b0, o0, rfl, l0, c0⟩ := hA 0 h1
  have c0' : w.cell? ⟨b0, o0, none⟩ = some (.int .i64 (L.getD 0 0)) := c0
  clear hA c0
  generalize hx0 : L.getD 0 0 = x0 at *
  have HX0 : Hid _ := hx0
  clear hx0
  have hpos : (0 : Int) < (L.length : Int) := by omega
  go_enter Try.func36, Try.ntmps36
  go_wp2
  go_loopw [3, 4] (fun m i wr => ∃ (k : Nat) (x : Int), 0 < k ∧ k ≤ L.length ∧ i = .int .i64 k ∧ m = .int .i64 x ∧ (∃ j, j < L.length ∧ x = L.getD j 0) ∧ (∀ j, j < k → x ≤ L.getD j 0) ∧ wr = w) (fun _ i _ => L.length - (intOf i).toNat)
  case atStart => exact ⟨1, x0, by omega, by omega, rfl, rfl, ⟨0, h1, HX0.out.symm⟩, (fun j hj => (show j = 0 by omega) ▸ (by rw [HX0.out]; exact Int.le_refl _)), rfl⟩
  case round =>
    obtain ⟨k, x, hk0, hk, rfl, rfl, hex, hall, rfl⟩ := hrel
    have HALL : Hid (∀ j, j < k → x ≤ L.getD j 0) := hall
    have HEX : Hid (∃ j, j < L.length ∧ x = L.getD j 0) := hex
    clear hall hex
    by_cases hlt : k < L.length
    · have hltI : (k : Int) < (L.length : Int) := by omega
      obtain ⟨b1, o1, e1, l1, c1⟩ := HA.out k hlt
      simp only [Option.some.injEq, Addr.mk.injEq, and_true] at e1
      obtain ⟨rfl, rfl⟩ := e1
      have HN : Hid (∀ j, j < k + 1 → min x (L.getD k 0) ≤ L.getD j 0) := fun j hj => by
        by_cases e : j = k
        · subst e; omega
        · have := HALL.out j (by omega); omega
      have HM : Hid (∃ j, j < L.length ∧ min x (L.getD k 0) = L.getD j 0) := by
        obtain ⟨j, hj, e⟩ := HEX.out
        by_cases q : x ≤ L.getD k 0
        · exact ⟨j, hj, by omega⟩
        · exact ⟨k, hlt, by omega⟩
      generalize L.getD k 0 = r at *
      go_wp2
      go_roundw
      case rel => exact ⟨k + 1, min x r, by omega, by omega, by go_num, congrArg (Value.int .i64) (by split <;> omega), HM.out, HN.out, by first | rfl | trivial⟩
      case measure => simp [intOf]; omega
    · obtain rfl : k = L.length := by omega
      go_wp2
      go_ret
      exact ⟨x, rfl, HEX.out, HALL.out, rfl⟩
set_option maxRecDepth 100000 in
set_option maxHeartbeats 2000000 in
theorem slmax_any (L : List Int) (ao : Option Addr) (cap : Nat) (w : World) (h1 : 0 < L.length) (hl : L.length ≤ 1048576) (hA : IntsAt w ao L) :
    Calls Try.prog 37 #[.slice ao L.length cap] w fun e w' => ∃ x, e = .returned (.int .i64 x) ∧ (∃ j, j < L.length ∧ x = L.getD j 0) ∧ (∀ j, j < L.length → L.getD j 0 ≤ x) ∧ w' = w := by
  have HA : Hid _ := hA
  have h1' : ¬ (L.length : Int) < 1 := by omega
  obtain ⟨b0, o0, rfl, l0, c0⟩ := hA 0 h1
  have c0' : w.cell? ⟨b0, o0, none⟩ = some (.int .i64 (L.getD 0 0)) := c0
  clear hA c0
  generalize hx0 : L.getD 0 0 = x0 at *
  have HX0 : Hid _ := hx0
  clear hx0
  have hpos : (0 : Int) < (L.length : Int) := by omega
  go_enter Try.func37, Try.ntmps37
  go_wp2
  go_loopw [3, 4] (fun m i wr => ∃ (k : Nat) (x : Int), 0 < k ∧ k ≤ L.length ∧ i = .int .i64 k ∧ m = .int .i64 x ∧ (∃ j, j < L.length ∧ x = L.getD j 0) ∧ (∀ j, j < k → L.getD j 0 ≤ x) ∧ wr = w) (fun _ i _ => L.length - (intOf i).toNat)
  case atStart => exact ⟨1, x0, by omega, by omega, rfl, rfl, ⟨0, h1, HX0.out.symm⟩, (fun j hj => (show j = 0 by omega) ▸ (by rw [HX0.out]; exact Int.le_refl _)), rfl⟩
  case round =>
    obtain ⟨k, x, hk0, hk, rfl, rfl, hex, hall, rfl⟩ := hrel
    have HALL : Hid (∀ j, j < k → L.getD j 0 ≤ x) := hall
    have HEX : Hid (∃ j, j < L.length ∧ x = L.getD j 0) := hex
    clear hall hex
    by_cases hlt : k < L.length
    · have hltI : (k : Int) < (L.length : Int) := by omega
      obtain ⟨b1, o1, e1, l1, c1⟩ := HA.out k hlt
      simp only [Option.some.injEq, Addr.mk.injEq, and_true] at e1
      obtain ⟨rfl, rfl⟩ := e1
      have HN : Hid (∀ j, j < k + 1 → L.getD j 0 ≤ max x (L.getD k 0)) := fun j hj => by
        by_cases e : j = k
        · subst e; omega
        · have := HALL.out j (by omega); omega
      have HM : Hid (∃ j, j < L.length ∧ max x (L.getD k 0) = L.getD j 0) := by
        obtain ⟨j, hj, e⟩ := HEX.out
        by_cases q : L.getD k 0 ≤ x
        · exact ⟨j, hj, by omega⟩
        · exact ⟨k, hlt, by omega⟩
      generalize L.getD k 0 = r at *
      go_wp2
      go_roundw
      case rel => exact ⟨k + 1, max x r, by omega, by omega, by go_num, congrArg (Value.int .i64) (by split <;> omega), HM.out, HN.out, by first | rfl | trivial⟩
      case measure => simp [intOf]; omega
    · obtain rfl : k = L.length := by omega
      go_wp2
      go_ret
      exact ⟨x, rfl, HEX.out, HALL.out, rfl⟩
theorem sallB' (lo hi : Int) (L : List Int) (ao : Option Addr) (n cap : Nat) (w : World) (hn : n = L.length) (hl : L.length ≤ 1048576) (hA : IntsAt w ao L) :
    Calls Try.prog 32 #[.slice ao n cap, .int .i64 lo, .int .i64 hi] w fun e w' => e = .returned (.bool (inB lo hi L)) ∧ w' = w := by subst hn; exact sallB_any lo hi L ao cap w hl hA
theorem slmin' (L : List Int) (ao : Option Addr) (n cap : Nat) (w : World) (hn : n = L.length) (h1 : 0 < L.length) (hl : L.length ≤ 1048576) (hA : IntsAt w ao L) :
    Calls Try.prog 36 #[.slice ao n cap] w fun e w' => ∃ x, e = .returned (.int .i64 x) ∧ (∃ j, j < L.length ∧ x = L.getD j 0) ∧ (∀ j, j < L.length → x ≤ L.getD j 0) ∧ w' = w := by subst hn; exact slmin_any L ao cap w h1 hl hA
theorem slmax' (L : List Int) (ao : Option Addr) (n cap : Nat) (w : World) (hn : n = L.length) (h1 : 0 < L.length) (hl : L.length ≤ 1048576) (hA : IntsAt w ao L) :
    Calls Try.prog 37 #[.slice ao n cap] w fun e w' => ∃ x, e = .returned (.int .i64 x) ∧ (∃ j, j < L.length ∧ x = L.getD j 0) ∧ (∀ j, j < L.length → L.getD j 0 ≤ x) ∧ w' = w := by subst hn; exact slmax_any L ao cap w h1 hl hA
set_option maxRecDepth 100000 in
set_option maxHeartbeats 1000000 in
theorem sgoodD_any (C : List Int) (R : Rw) (F : List Bool) (a b e : Option Addr) (ca cb ce : Nat) (w : World) (hl : szD C R F ≤ 1048576) (hA : IntsAt w a C) (hB : RowsAt w b R) :
    Calls Try.prog 9 #[.agg #[.slice a C.length ca, .slice b R.length cb, .slice e F.length ce]] w fun r w' => r = .returned (.bool (goodD C R F)) ∧ Below w.heap.size w w' := by
  have HA : Hid _ := hA
  have HB : Hid _ := hB
  have hlC : C.length ≤ 1048576 := by unfold szD at hl; omega
  have hlF : F.length ≤ 1048576 := by unfold szD at hl; omega
  have hlR : R.length ≤ 1048576 := by unfold szD szR at hl; omega
  have HLR : Hid (szR R ≤ 1048576) := by unfold szD at hl; exact (by omega : szR R ≤ 1048576)
  clear hA hB hl
  have A1 : ∀ o, Below w.heap.size w (w.alloc o) := fun o => (Below.refl _ _).alloc (Nat.le_refl _) o
  by_cases h1 : 1 ≤ R.length ∧ R.length ≤ 60
  case neg =>
    have HG : Hid _ := goodD_no1 (C := C) (F := F) h1
    have HI : Hid (¬ ((1 : Int) ≤ (R.length : Int) ∧ (R.length : Int) ≤ 60)) := fun h => h1 (by omega)
    clear h1
    go_enter Try.func9, Try.ntmps9
    go_wp2_with (first | (go_at_call 30; refine (in_no HI.out _).mono ?_; rintro r w' ⟨rfl, rfl⟩) | fail)
    go_ret
    exact ⟨by rw [HG.out]; rfl, A1 _⟩
  have HI : Hid ((1 : Int) ≤ (R.length : Int) ∧ (R.length : Int) ≤ 60) := by exact (by omega : (1 : Int) ≤ (R.length : Int) ∧ (R.length : Int) ≤ 60)
  by_cases h2 : F.length = R.length
  case neg =>
    have HG : Hid _ := goodD_no2 (C := C) h2
    have h2' : ((F.length : Int) == (R.length : Int)) = false := by simp; omega
    have h2'' : ¬ (F.length : Int) = (R.length : Int) := by omega
    go_enter Try.func9, Try.ntmps9
    go_wp2_with (first | (go_at_call 30; refine (in_yes HI.out _).mono ?_; rintro r w' ⟨rfl, rfl⟩) | fail)
    go_ret
    exact ⟨by rw [HG.out]; rfl, A1 _⟩
  rw [h2]
  have H2 : Hid _ := h2
  clear h2
  by_cases h3 : C.length ≤ 40
  case neg =>
    have HG : Hid _ := goodD_no3 (R := R) (F := F) h3
    have h3' : (40 : Int) < (C.length : Int) := by omega
    go_enter Try.func9, Try.ntmps9
    go_wp2_with (first | (go_at_call 30; refine (in_yes HI.out _).mono ?_; rintro r w' ⟨rfl, rfl⟩) | fail)
    go_ret
    exact ⟨by rw [HG.out]; rfl, A1 _⟩
  have h3' : ¬ (40 : Int) < (C.length : Int) := by omega
  cases h4 : risB 1 1114111 C
  case false =>
    have HG : Hid _ := goodD_no4 (R := R) (F := F) h4
    have H4 : Hid _ := h4
    clear h4
    go_enter Try.func9, Try.ntmps9
    go_wp2_with (first | (go_at_call 30; refine (in_yes HI.out _).mono ?_; rintro r w' ⟨rfl, rfl⟩) | (go_at_call 31; refine (sris_any 1 1114111 C _ _ _ hlC (IntsAt.keepB HA.out (A1 _))).mono ?_; rintro r w' ⟨rfl, rfl⟩; rw [H4.out]) | fail)
    go_ret
    exact ⟨by rw [HG.out]; rfl, A1 _⟩
  have H4 : Hid _ := h4
  clear h4
  go_enter Try.func9, Try.ntmps9
  go_wp2_with (first | (go_at_call 30; refine (in_yes HI.out _).mono ?_; rintro r w' ⟨rfl, rfl⟩) | (go_at_call 31; refine (sris_any 1 1114111 C _ _ _ hlC (IntsAt.keepB HA.out (A1 _))).mono ?_; rintro r w' ⟨rfl, rfl⟩; rw [H4.out]) | fail)
  go_loopw [34] (fun i wr => ∃ k : Nat, k ≤ R.length ∧ i = .int .i64 k ∧ (∀ j, j < k → rowB C.length R.length (rw_ R j) = true) ∧ wr.heap[w.heap.size]? = some (.cells #[.slice a C.length ca, .slice b R.length cb, .slice e R.length ce] 29) ∧ Below w.heap.size w wr) (fun i _ => R.length - (intOf i).toNat)
  case atStart => exact ⟨0, Nat.zero_le _, rfl, fun j hj => absurd hj (by omega), heap_last2 _ _ _ rfl, A1 _⟩
  case round =>
    obtain ⟨k, hk, rfl, hall, hbl, hbw⟩ := hrel
    have HALL : Hid (∀ j, j < k → rowB C.length R.length (rw_ R j) = true) := hall
    have BW0 : Hid _ := hbw
    have d0 : wr.cell? ⟨w.heap.size, 0, none⟩ = some (.slice a C.length ca) := cell_of hbl 0
    have HBL : Hid _ := hbl
    clear hall hbw hbl
    by_cases hlt : k < R.length
    · have hltI : (k : Int) < (R.length : Int) := by omega
      obtain ⟨b1, o1, sa, sc, rfl, l1, c1, iS⟩ := HB.out k hlt
      have hls : (rw_ R k).length ≤ 1048576 := Nat.le_trans (rw_len R k hlt) HLR.out
      have g1 : wr.cell? ⟨b1, o1 + k, none⟩ = some (.slice sa (rw_ R k).length sc) := (BW0.out.cell (p := ⟨b1, o1 + k, none⟩) l1).trans c1
      have IS : Hid _ := IntsAt.keepB iS BW0.out
      have hw1 : IntKind.i64.wrap ((C.length : Int) + 1) = (C.length : Int) + 1 := IntWalk.i64_in _ (by omega)
      have hw2 : IntKind.i64.wrap ((R.length : Int) - 1) = (R.length : Int) - 1 := IntWalk.i64_in _ (by omega)
      clear c1 iS
      by_cases q : (rw_ R k).length = C.length + 1
      · have Q : Hid _ := q
        cases q2 : inB 0 ((R.length : Int) - 1) (rw_ R k)
        · have HG : Hid (goodD C R F = false) := goodD_no5 hlt (by simp [rowB, q2])
          have Q2 : Hid _ := q2
          clear q2
          go_wp2_with (first | (go_at_call 32; refine (sallB' 0 ((R.length : Int) - 1) (rw_ R k) _ _ _ _ Q.out.symm hls IS.out).mono ?_; rintro r w' ⟨rfl, rfl⟩; rw [Q2.out]) | fail)
          go_ret
          exact ⟨by rw [HG.out]; rfl, BW0.out⟩
        · have HN : Hid (∀ j, j < k + 1 → rowB C.length R.length (rw_ R j) = true) := fun j hj => by
            by_cases e : j = k
            · subst e; simp [rowB, q, q2]
            · exact HALL.out j (by omega)
          have Q2 : Hid _ := q2
          clear q2
          go_wp2_with (first | (go_at_call 32; refine (sallB' 0 ((R.length : Int) - 1) (rw_ R k) _ _ _ _ Q.out.symm hls IS.out).mono ?_; rintro r w' ⟨rfl, rfl⟩; rw [Q2.out]) | fail)
          go_roundw
          case rel => exact ⟨k + 1, by omega, by go_num, HN.out, HBL.out, BW0.out⟩
          case measure => simp [intOf]; omega
      · have q1 : (((rw_ R k).length : Int) == (C.length : Int) + 1) = false := by simp; omega
        have HG : Hid (goodD C R F = false) := goodD_no5 hlt (by simp [rowB, q])
        go_wp2
        go_ret
        exact ⟨by rw [HG.out]; rfl, BW0.out⟩
    · obtain rfl : k = R.length := by omega
      have HG : Hid (goodD C R F = true) := goodD_yes h1 H2.out h3 H4.out HALL.out
      go_wp2
      go_ret
      exact ⟨by rw [HG.out]; rfl, BW0.out⟩
end Go.Proofs.Ytnlccplpcbdmnaa
