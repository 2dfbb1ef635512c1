/-
  Chapter 4's small functions of the specification: l1All, GoodSet, l4In, InSet, CountSet, l4Made.
-/
import Derived.Test.YtlkcdcdgpklpoaaC4Pure
import Derived.Test.YtlkcdcdgpklpoaaN3C
namespace Go.Proofs.Ytlkcdcdgpklpoaa
open Go.ChangeShapes Go.WideShapes Go.ChangeAt Go.RowKit
def inR (L : List Int) : Bool := L.all fun x => decide (0 ≤ x ∧ x ≤ 1114111)
theorem inR_true {L : List Int} (h : inR L = true) : ∀ x ∈ L, 0 ≤ x ∧ x ≤ 1114111 := fun x hx => of_decide_eq_true (List.all_eq_true.1 h x hx)
theorem inR_at {L : List Int} (h : inR L = true) {k : Nat} (hk : k < L.length) : 0 ≤ L.getD k 0 ∧ L.getD k 0 ≤ 1114111 := inR_true h _ (by simp [List.getD, hk])
theorem inR_bad {L : List Int} {k : Nat} (h : k < L.length) (hb : ¬ (0 ≤ L.getD k 0 ∧ L.getD k 0 ≤ 1114111)) : inR L = false := by
  rw [Bool.eq_false_iff]
  intro ha
  exact hb (inR_at ha h)
def okAt (L : List Int) (j : Nat) : Prop := L.getD (2 * j) 0 ≤ L.getD (2 * j + 1) 0 ∧ (0 < j → L.getD (2 * j - 1) 0 + 2 ≤ L.getD (2 * j) 0)
instance (L : List Int) (j : Nat) : Decidable (okAt L j) := by unfold okAt; exact inferInstance
def okAll (L : List Int) : Bool := decide (∀ j, j < L.length / 2 → okAt L j)
/-- A good set. -/
def goodS (L : List Int) : Bool := decide (L.length % 2 = 0) && decide (L.length ≤ 24) && inR L && okAll L
theorem goodS_true {L : List Int} (h : goodS L = true) : L.length % 2 = 0 ∧ L.length ≤ 24 ∧ inR L = true ∧ ∀ j, j < L.length / 2 → okAt L j := by
  simp [goodS, okAll] at h
  exact ⟨h.1.1.1, h.1.1.2, h.1.2, h.2⟩
theorem goodS_mk {L : List Int} (h1 : L.length % 2 = 0) (h2 : L.length ≤ 24) (h3 : inR L = true) (h4 : ∀ j, j < L.length / 2 → okAt L j) : goodS L = true := by
  simp [goodS, okAll]
  exact ⟨⟨⟨h1, h2⟩, h3⟩, h4⟩
set_option maxRecDepth 100000 in
set_option maxHeartbeats 1000000 in
theorem sall4_any (L : List Int) (ao : Option Addr) (cap : Nat) (w : World) (hl : L.length ≤ 1048576) (hA : IntsAt w ao L) :
    Calls Try.prog 144 #[.slice ao L.length cap, .int .i64 0, .int .i64 1114111] w fun e w' => e = .returned (.bool (inR L)) ∧ w' = w := by
  have HA : Hid _ := hA
  clear hA
  go_enter Try.func144, Try.ntmps144
  go_wp2
  go_loopw [11] (fun i wr => ∃ k : Nat, k ≤ L.length ∧ i = .int .i64 k ∧ (∀ j, j < k → 0 ≤ L.getD j 0 ∧ L.getD j 0 ≤ 1114111) ∧ wr = w) (fun i _ => L.length - (intOf i).toNat)
  case atStart => exact ⟨0, Nat.zero_le _, rfl, fun j hj => absurd hj (by omega), rfl⟩
  case round =>
    obtain ⟨k, hk, rfl, hall, rfl⟩ := hrel
    have HALL : Hid _ := hall
    clear hall
    by_cases hlt : k < L.length
    · have hltI : (k : Int) < (L.length : Int) := by omega
      obtain ⟨b1, o1, rfl, l1, h1⟩ := HA.out k hlt
      by_cases hgd : 0 ≤ L.getD k 0 ∧ L.getD k 0 ≤ 1114111
      · have HG : Hid _ := hgd
        have HN : Hid (∀ j, j < k + 1 → 0 ≤ L.getD j 0 ∧ L.getD j 0 ≤ 1114111) := fun j hj => by
          by_cases e : j = k
          · subst e; exact hgd
          · exact HALL.out j (by omega)
        clear hgd
        generalize L.getD k 0 = r at *
        go_wp2_with (go_at_call 68; refine (in_yes HG.out _).mono ?_; rintro e w' ⟨rfl, rfl⟩)
        go_roundw
        case rel => exact ⟨k + 1, by omega, by go_num, HN.out, by first | rfl | trivial⟩
        case measure => simp [intOf]; omega
      · have HG : Hid _ := hgd
        have HB : Hid _ := inR_bad hlt hgd
        clear hgd
        generalize L.getD k 0 = r at *
        go_wp2_with (go_at_call 68; refine (in_no HG.out _).mono ?_; rintro e w' ⟨rfl, rfl⟩)
        go_ret
        exact ⟨by rw [HB.out]; rfl, rfl⟩
    · obtain rfl : k = L.length := by omega
      have HB : Hid (inR L = true) := List.all_eq_true.2 fun r hr => by
        obtain ⟨j, hj, rfl⟩ := List.mem_iff_getElem.1 hr
        have := HALL.out j hj
        exact decide_eq_true (by simpa [List.getD, hj] using this)
      go_wp2
      go_ret
      exact ⟨by rw [HB.out]; rfl, rfl⟩
set_option maxRecDepth 100000 in
set_option maxHeartbeats 2000000 in
theorem sgood4_any (L : List Int) (ao : Option Addr) (cap : Nat) (w : World) (hl : L.length ≤ 1048576) (hA : IntsAt w ao L) :
    Calls Try.prog 131 #[.slice ao L.length cap] w fun e w' => e = .returned (.bool (goodS L)) ∧ Below w.heap.size w w' := by
  have HA : Hid _ := hA
  clear hA
  by_cases h1 : L.length % 2 = 1
  · have HB : Hid (goodS L = false) := by
      show goodS L = false
      simp [goodS, show ¬ L.length % 2 = 0 by omega]
    have h1I : (L.length : Int) % 2 = 1 := by omega
    go_enter Try.func131, Try.ntmps131
    go_wp2
    go_ret
    exact ⟨by rw [HB.out]; rfl, Below.refl _ _⟩
  have h1I : (L.length : Int) % 2 = 0 := by omega
  by_cases h2 : (24 : Int) < (L.length : Int)
  · have HB : Hid (goodS L = false) := by
      show goodS L = false
      simp [goodS, show ¬ L.length ≤ 24 by omega]
    go_enter Try.func131, Try.ntmps131
    go_wp2
    go_ret
    exact ⟨by rw [HB.out]; rfl, Below.refl _ _⟩
  cases h3 : inR L
  · have H3 : Hid _ := h3
    have HB : Hid (goodS L = false) := by
      show goodS L = false
      simp [goodS, h3]
    clear h3
    go_enter Try.func131, Try.ntmps131
    go_wp2_with fail
    refine (sall4_any L ao cap _ hl HA.out).mono ?_
    rintro e w' ⟨rfl, rfl⟩
    rw [H3.out]
    go_wp2
    go_ret
    exact ⟨by rw [HB.out]; rfl, Below.refl _ _⟩
  have H3 : Hid _ := h3
  clear h3
  go_enter Try.func131, Try.ntmps131
  go_wp2_with fail
  refine (sall4_any L ao cap _ hl HA.out).mono ?_
  rintro e w' ⟨rfl, rfl⟩
  rw [H3.out]
  go_wp2
  go_loopw [3] (fun i wr => ∃ k j : Nat, k ≤ L.length ∧ k = 2 * j ∧ i = .int .i64 k ∧ (∀ j', j' < j → okAt L j') ∧ Below w'.heap.size w' wr) (fun i _ => L.length - (intOf i).toNat)
  case atStart => exact ⟨0, 0, Nat.zero_le _, rfl, rfl, fun j hj => absurd hj (by omega), Below.refl _ _⟩
  case round =>
    obtain ⟨k, j, hk, hkj, rfl, hall, hbw⟩ := hrel
    have HALL : Hid _ := hall
    clear hall
    by_cases hlt : k < L.length
    · have hltI : (k : Int) < (L.length : Int) := by omega
      have hlt2 : k + 1 < L.length := by omega
      have hlt2I : (k : Int) + 1 < (L.length : Int) := by omega
      have hw1 : IntKind.i64.wrap ((k : Int) + 1) = (k : Int) + 1 := IntWalk.i64_in _ (by omega)
      have hn1 : ((k : Int) + 1).toNat = k + 1 := by omega
      have hp1 : (0 : Int) ≤ (k : Int) + 1 := by omega
      obtain ⟨b1, o1, rfl, l1, c1⟩ := HA.out k hlt
      obtain ⟨b2, o2, e2, l2, c2⟩ := HA.out (k + 1) hlt2
      obtain ⟨rfl, rfl⟩ : b1 = b2 ∧ o1 = o2 := by simp at e2; exact e2
      have g1 : wr.cell? ⟨b1, o1 + k, none⟩ = some (.int .i64 (L.getD k 0)) := (hbw.cell (p := ⟨b1, o1 + k, none⟩) l1).trans c1
      have g2 : wr.cell? ⟨b1, o1 + (k + 1), none⟩ = some (.int .i64 (L.getD (k + 1) 0)) := (hbw.cell (p := ⟨b1, o1 + (k + 1), none⟩) l1).trans c2
      have r1 := inR_at H3.out hlt
      have r2 := inR_at H3.out hlt2
      by_cases q1 : L.getD (k + 1) 0 < L.getD k 0
      · have HB : Hid (goodS L = false) := by
          show goodS L = false
          rw [Bool.eq_false_iff]
          intro hg
          have := ((goodS_true hg).2.2.2 j (by omega)).1
          rw [← hkj] at this
          omega
        clear c1 c2 hkj
        generalize L.getD k 0 = x at *
        generalize L.getD (k + 1) 0 = y at *
        go_wp2
        go_quiet (fail)
        go_wp2
        go_ret
        exact ⟨by rw [HB.out]; rfl, below_drewN hbw _⟩
      · have q1b : decide (L.getD (k + 1) 0 < L.getD k 0) = false := decide_eq_false q1
        by_cases hj0 : j = 0
        · have hk0 : decide (0 < k) = false := decide_eq_false (by omega)
          have HN : Hid (∀ j', j' < j + 1 → okAt L j') := fun j' hj' => by
            obtain rfl : j' = j := by omega
            unfold okAt
            rw [← hkj]
            exact ⟨by omega, fun h => absurd h (by omega)⟩
          have HK : Hid _ := hkj
          clear c1 c2 hkj hj0
          generalize L.getD k 0 = x at *
          generalize L.getD (k + 1) 0 = y at *
          go_wp2
          go_quiet (fail)
          go_wp2
          go_roundw
          case rel => exact ⟨k + 2, j + 1, by omega, by have := HK.out; omega, by go_num, HN.out, below_drewN hbw _⟩
          case measure => simp [intOf]; omega
        · have hlt3 : k - 1 < L.length := by omega
          obtain ⟨b3, o3, e3, l3, c3⟩ := HA.out (k - 1) hlt3
          obtain ⟨rfl, rfl⟩ : b1 = b3 ∧ o1 = o3 := by simp at e3; exact e3
          have g3 : wr.cell? ⟨b1, o1 + (k - 1), none⟩ = some (.int .i64 (L.getD (k - 1) 0)) := (hbw.cell (p := ⟨b1, o1 + (k - 1), none⟩) l1).trans c3
          have r3 := inR_at H3.out hlt3
          have hk0 : decide (0 < k) = true := decide_eq_true (by omega)
          have hw2 : IntKind.i64.wrap ((k : Int) - 1) = (k : Int) - 1 := IntWalk.i64_in _ (by omega)
          have hn2 : ((k : Int) - 1).toNat = k - 1 := by omega
          have hp2 : (0 : Int) ≤ (k : Int) - 1 := by omega
          have hlt3I : (k : Int) - 1 < (L.length : Int) := by omega
          have hw3 : IntKind.i64.wrap (L.getD (k - 1) 0 + 2) = L.getD (k - 1) 0 + 2 := IntWalk.i64_in _ (by omega)
          by_cases q2 : L.getD k 0 < L.getD (k - 1) 0 + 2
          · have HB : Hid (goodS L = false) := by
              show goodS L = false
              rw [Bool.eq_false_iff]
              intro hg
              have := ((goodS_true hg).2.2.2 j (by omega)).2 (by omega)
              rw [← hkj] at this
              omega
            have HK : Hid _ := hkj
            clear c1 c2 c3 hkj hj0
            generalize L.getD k 0 = x at *
            generalize L.getD (k + 1) 0 = y at *
            generalize L.getD (k - 1) 0 = z at *
            go_wp2
            go_quiet (fail)
            go_wp2
            go_ret
            exact ⟨by rw [HB.out]; rfl, below_drewN hbw _⟩
          · have q2b : decide (L.getD k 0 < L.getD (k - 1) 0 + 2) = false := decide_eq_false q2
            have HN : Hid (∀ j', j' < j + 1 → okAt L j') := fun j' hj' => by
              by_cases e : j' = j
              · subst e
                unfold okAt
                rw [← hkj]
                exact ⟨by omega, fun _ => by omega⟩
              · exact HALL.out j' (by omega)
            have HK : Hid _ := hkj
            clear c1 c2 c3 hkj hj0
            generalize L.getD k 0 = x at *
            generalize L.getD (k + 1) 0 = y at *
            generalize L.getD (k - 1) 0 = z at *
            go_wp2
            go_quiet (fail)
            go_wp2
            go_roundw
            case rel => exact ⟨k + 2, j + 1, by omega, by have := HK.out; omega, by go_num, HN.out, below_drewN hbw _⟩
            case measure => simp [intOf]; omega
    · have hkl : k = L.length := by omega
      subst hkl
      have HB : Hid (goodS L = true) := goodS_mk (by omega) (by omega) H3.out (fun j' hj' => HALL.out j' (by omega))
      clear hkj
      go_wp2
      go_ret
      exact ⟨by rw [HB.out]; rfl, hbw⟩
end Go.Proofs.Ytlkcdcdgpklpoaa
