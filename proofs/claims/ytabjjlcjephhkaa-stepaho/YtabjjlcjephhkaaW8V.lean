/-
  isStateOfAho and bitsOf of the program.
-/
import Derived.Test.YtabjjlcjephhkaaW8U
namespace Go.Proofs.Ytabjjlcjephhkaa
open Go.ChangeShapes Go.WideShapes Go.ChangeAt Go.WideMaps Go.WideElems Go.RowKit
/-- Whether a state is as a good machine's. -/
def stB (P B F : List Int) (k : Nat) : Bool :=
  if k = 0 then decide (P.getD k 0 = -1) && (decide (B.getD k 0 = -1) && decide (F.getD k 0 = 0))
  else decide (0 ≤ P.getD k 0 ∧ P.getD k 0 < (k : Int)) && (goodB (B.getD k 0) && decide (0 ≤ F.getD k 0 ∧ F.getD k 0 < (k : Int)))
theorem amongB {r n : Int} (hn : 0 ≤ n ∧ n ≤ 1000000) (w : World) :
    Calls Try.prog 72 #[.int .i64 r, .int .i64 0, .int .i64 n] w fun e w' => e = .returned (.bool (decide (0 ≤ r ∧ r < n))) ∧ w' = w := by
  by_cases h : 0 ≤ r ∧ r < n
  · rw [decide_eq_true h]
    exact (among_yes (by omega) (by omega) w).mono fun _ _ ⟨h1, h2⟩ => ⟨h1, h2.symm⟩
  · rw [decide_eq_false h]
    exact (among_no (by omega) (by omega) w).mono fun _ _ ⟨h1, h2⟩ => ⟨h1, h2.symm⟩
set_option maxRecDepth 100000 in
set_option maxHeartbeats 2000000 in
theorem isState_any (P B F : List Int) (a b c e : Option Addr) (n ca cb cc ne ce : Nat) (k : Nat) (w : World) (h1 : n = P.length) (h2 : n = B.length) (h3 : n = F.length) (hk : k < n) (hn : n ≤ 100000) (hA : IntsAt w a P) (hB : IntsAt w b B) (hC : IntsAt w c F) :
    Calls Try.prog 86 #[.agg #[.slice a n ca, .slice b n cb, .slice c n cc, .slice e ne ce], .int .i64 k] w fun r w' => r = .returned (.bool (stB P B F k)) ∧ Below w.heap.size w w' := by
  have A1 : ∀ o, Below w.heap.size w (w.alloc o) := fun o => (Below.refl _ _).alloc (Nat.le_refl _) o
  obtain ⟨pb, po, rfl, pl, pc⟩ := hA k (by omega)
  obtain ⟨qb, qo, rfl, ql, qc⟩ := hB k (by omega)
  obtain ⟨fb, fo, rfl, fl, fc⟩ := hC k (by omega)
  have gp : ∀ o, (w.alloc o).cell? ⟨pb, po + k, none⟩ = some (.int .i64 (P.getD k 0)) := fun o => ((A1 o).cell (p := ⟨pb, po + k, none⟩) pl).trans pc
  have gq : ∀ o, (w.alloc o).cell? ⟨qb, qo + k, none⟩ = some (.int .i64 (B.getD k 0)) := fun o => ((A1 o).cell (p := ⟨qb, qo + k, none⟩) ql).trans qc
  have gf : ∀ o, (w.alloc o).cell? ⟨fb, fo + k, none⟩ = some (.int .i64 (F.getD k 0)) := fun o => ((A1 o).cell (p := ⟨fb, fo + k, none⟩) fl).trans fc
  clear hA hB hC pc qc fc h1 h2 h3
  have hkI : (k : Int) < (n : Int) := by omega
  unfold stB
  generalize P.getD k 0 = x at gp ⊢
  generalize B.getD k 0 = y at gq ⊢
  generalize F.getD k 0 = z at gf ⊢
  have BD : Hid (∀ o m, Below w.heap.size w ((w.alloc o).drewN m)) := fun o m => below_drewN (A1 o) _
  by_cases hk0 : k = 0
  · have hk0I : ((k : Int) == 0) = true := by simp; omega
    have hk0K : decide ((k : Int) = 0) = true := decide_eq_true (by omega)
    rw [if_pos hk0]
    clear hk0
    by_cases e1 : x = -1
    · by_cases e2 : y = -1
      · by_cases e3 : z = 0
        · subst e1 e2 e3
          go_enter Try.func86, Try.ntmps86
          go_wp2
          go_quiet (fail)
          go_wp2
          go_ret
          exact ⟨rfl, BD.out _ _⟩
        · subst e1 e2
          have e3b : (z == 0) = false := by simpa using e3
          have e3c : decide (z = 0) = false := decide_eq_false e3
          rw [e3c]
          go_enter Try.func86, Try.ntmps86
          go_wp2
          go_quiet (fail)
          go_wp2
          go_ret
          exact ⟨rfl, BD.out _ _⟩
      · subst e1
        have e2b : (y == -1) = false := by simpa using e2
        have e2c : decide (y = -1) = false := decide_eq_false e2
        rw [e2c]
        go_enter Try.func86, Try.ntmps86
        go_wp2
        go_quiet (fail)
        go_wp2
        go_ret
        exact ⟨rfl, BD.out _ _⟩
    · have e1b : (x == -1) = false := by simpa using e1
      have e1c : decide (x = -1) = false := decide_eq_false e1
      rw [e1c]
      go_enter Try.func86, Try.ntmps86
      go_wp2
      go_quiet (fail)
      go_wp2
      go_ret
      exact ⟨rfl, BD.out _ _⟩
  · have hk0I : ((k : Int) == 0) = false := by simp; omega
    have hk0K : decide ((k : Int) = 0) = false := decide_eq_false (by omega)
    have hk0J : ¬ (k : Int) = 0 := by omega
    rw [if_neg hk0]
    clear hk0
    have HP : Hid (∀ w', Calls Try.prog 72 #[.int .i64 x, .int .i64 0, .int .i64 k] w' fun e w'' => e = .returned (.bool (decide (0 ≤ x ∧ x < (k : Int)))) ∧ w'' = w') := fun w' => amongB (by omega) w'
    have HF : Hid (∀ w', Calls Try.prog 72 #[.int .i64 z, .int .i64 0, .int .i64 k] w' fun e w'' => e = .returned (.bool (decide (0 ≤ z ∧ z < (k : Int)))) ∧ w'' = w') := fun w' => amongB (by omega) w'
    have HG : Hid (∀ w', Calls Try.prog 73 #[.int .i64 y] w' fun e w'' => e = .returned (.bool (goodB y)) ∧ w'' = w') := fun w' => igood_any y w'
    generalize decide (0 ≤ x ∧ x < (k : Int)) = q1 at HP ⊢
    generalize decide (0 ≤ z ∧ z < (k : Int)) = q3 at HF ⊢
    generalize goodB y = q2 at HG ⊢
    cases q1
    · go_enter Try.func86, Try.ntmps86
      go_wp2
      go_quiet (fail)
      go_wp2_with fail
      refine Calls.mono (HP.out _) ?_
      rintro e w1 ⟨rfl, rfl⟩
      go_wp2
      go_ret
      exact ⟨rfl, BD.out _ _⟩
    · cases q2
      · go_enter Try.func86, Try.ntmps86
        go_wp2
        go_quiet (fail)
        go_wp2_with fail
        refine Calls.mono (HP.out _) ?_
        rintro e w1 ⟨rfl, rfl⟩
        go_wp2_with fail
        refine Calls.mono (HG.out _) ?_
        rintro e w1 ⟨rfl, rfl⟩
        go_wp2
        go_ret
        exact ⟨rfl, BD.out _ _⟩
      · go_enter Try.func86, Try.ntmps86
        go_wp2
        go_quiet (fail)
        go_wp2_with fail
        refine Calls.mono (HP.out _) ?_
        rintro e w1 ⟨rfl, rfl⟩
        go_wp2_with fail
        refine Calls.mono (HG.out _) ?_
        rintro e w1 ⟨rfl, rfl⟩
        go_wp2_with fail
        refine Calls.mono (HF.out _) ?_
        rintro e w1 ⟨rfl, rfl⟩
        go_wp2
        go_ret
        exact ⟨by cases q3 <;> rfl, BD.out _ _⟩
set_option maxRecDepth 100000 in
set_option maxHeartbeats 2000000 in
theorem bits_any (L : List Int) (ao : Option Addr) (n cap : Nat) (w : World) (hn : n = L.length) (hl : L.length ≤ 1048576) (hA : IntsAt w ao L) :
    Calls Try.prog 85 #[.slice ao n cap, .int .i64 8] w fun e w' => (∃ x, e = .returned (.tuple #[.int .u64 x, .bool (risB 0 7 L)])) ∧ w' = w := by
  have HA : Hid _ := hA
  clear hA
  subst hn
  go_enter Try.func85, Try.ntmps85
  go_wp2
  go_loopw [6, 7, 12] (fun bv hv i wr => ∃ (k : Nat) (x h : Int), k ≤ L.length ∧ i = .int .i64 k ∧ bv = .int .u64 x ∧ hv = .int .i64 h ∧ h = (if k = 0 then -1 else L.getD (k - 1) 0) ∧ (∀ j, j < k → okR 0 7 L j) ∧ -1 ≤ h ∧ h ≤ 7 ∧ wr = w) (fun _ _ i _ => L.length - (intOf i).toNat)
  case atStart => exact ⟨0, 0, -1, Nat.zero_le _, rfl, rfl, rfl, rfl, fun j hj => absurd hj (by omega), by omega, by omega, rfl⟩
  case round =>
    obtain ⟨k, x, h, hk, rfl, rfl, rfl, hh, hall, hm1, hm7, rfl⟩ := hrel
    have HALL : Hid _ := hall
    have HH : Hid _ := hh
    clear hall hh
    by_cases hlt : k < L.length
    · have hltI : (k : Int) < (L.length : Int) := by omega
      obtain ⟨b1, o1, rfl, l1, g1⟩ := HA.out k hlt
      by_cases q1 : L.getD k 0 ≤ h
      · have HR : Hid (risB 0 7 L = false) := risB_bad hlt fun ⟨⟨h1, _⟩, h3⟩ => by
          have := HH.out
          split at this
          · omega
          · have := h3 (by omega); omega
        generalize L.getD k 0 = y at g1 q1
        go_wp2
        go_ret2
        exact ⟨⟨0, by rw [HR.out] <;> rfl⟩, rfl⟩
      · by_cases q2 : 8 ≤ L.getD k 0
        · have HR : Hid (risB 0 7 L = false) := risB_bad hlt fun ⟨⟨_, h2⟩, _⟩ => by omega
          generalize L.getD k 0 = y at g1 q1 q2
          have q1b : decide (y ≤ h) = false := decide_eq_false q1
          go_wp2
          go_ret2
          exact ⟨⟨0, by rw [HR.out] <;> rfl⟩, rfl⟩
        · have HN : Hid (∀ j, j < k + 1 → okR 0 7 L j) := fun j hj => by
            by_cases ej : j = k
            · subst ej
              have := HH.out
              refine ⟨by omega, fun h0 => ?_⟩
              rw [if_neg (by omega)] at this
              omega
            · exact HALL.out j (by omega)
          have HY : Hid (L.getD (k + 1 - 1) 0 = L.getD k 0) := (by rw [Nat.add_sub_cancel] : L.getD (k + 1 - 1) 0 = L.getD k 0)
          generalize L.getD k 0 = y at g1 q1 q2 HY
          have q1b : decide (y ≤ h) = false := decide_eq_false q1
          have q2b : decide (8 ≤ y) = false := decide_eq_false q2
          have hy0 : 0 ≤ y := by omega
          go_wp2
          go_roundw
          case rel => exact ⟨k + 1, _, y, by omega, by go_num, rfl, rfl, by rw [if_neg (by omega), HY.out], HN.out, by omega, by omega, by first | rfl | trivial⟩
          case measure => simp [intOf]; omega
    · obtain rfl : k = L.length := by omega
      have hltI : ¬ (L.length : Int) < (L.length : Int) := by omega
      have HR : Hid (risB 0 7 L = true) := decide_eq_true HALL.out
      go_wp2
      go_ret2
      exact ⟨⟨x, by rw [HR.out] <;> rfl⟩, rfl⟩
end Go.Proofs.Ytabjjlcjephhkaa
