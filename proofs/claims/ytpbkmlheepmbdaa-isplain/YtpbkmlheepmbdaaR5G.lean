/-
  IsPlain of both.
-/
import Derived.Test.YtpbkmlheepmbdaaR5H
namespace Go.Proofs.Ytpbkmlheepmbdaa
open Go.ChangeShapes Go.WideShapes Go.ChangeAt Go.RowKit
def plainB (P : List Nd) : Bool := P.all fun x => decide (x.1 ≠ 5 ∧ x.1 ≠ 7)
theorem plainB_no {P : List Nd} {k : Nat} (h : k < P.length) (h1 : (nd P k).1 = 5 ∨ (nd P k).1 = 7) : plainB P = false := by
  rw [Bool.eq_false_iff]
  intro q
  have := List.all_eq_true.1 q (nd P k) (by simp [nd, List.getD, h])
  simp only [decide_eq_true_eq] at this
  omega
theorem plainB_yes {P : List Nd} (h : ∀ j, j < P.length → (nd P j).1 ≠ 5 ∧ (nd P j).1 ≠ 7) : plainB P = true :=
  List.all_eq_true.2 fun x hx => by
    obtain ⟨j, hj, rfl⟩ := List.mem_iff_getElem.1 hx
    have := h j hj
    simp only [nd, List.getD, List.getElem?_eq_getElem hj, Option.getD_some] at this
    exact decide_eq_true this
set_option maxRecDepth 100000 in
set_option maxHeartbeats 2000000 in
theorem splain_any (P : List Nd) (ao : Option Addr) (cap : Nat) (w : World) (hl : szP P ≤ 1048576) (hA : ResAt w ao P) :
    Calls Try.prog 28 #[.slice ao P.length cap] w fun e w' => e = .returned (.tuple #[.bool (goodP P && plainB P), .bool (goodP P)]) ∧ Below w.heap.size w w' := by
  have HA : Hid _ := hA
  have HL : Hid _ := hl
  have hpl : P.length ≤ 1048576 := by unfold szP at hl; omega
  clear hA hl
  cases hg : goodP P
  · have HG : Hid _ := hg
    clear hg
    go_enter Try.func28, Try.ntmps28
    go_wp2_with fail
    refine (sgoodRe_any P ao cap _ HL.out HA.out).mono ?_
    rintro e w1 ⟨rfl, b⟩
    rw [HG.out]
    go_wp2
    go_ret2
    exact ⟨rfl, b⟩
  · have HG : Hid _ := hg
    clear hg
    go_enter Try.func28, Try.ntmps28
    go_wp2_with fail
    refine (sgoodRe_any P ao cap _ HL.out HA.out).mono ?_
    rintro e w1 ⟨rfl, b⟩
    rw [HG.out]
    have B1 : Hid _ := b
    clear b
    go_wp2
    go_loopw [11] (fun i wr => ∃ k : Nat, k ≤ P.length ∧ i = .int .i64 k ∧ (∀ j, j < k → (nd P j).1 ≠ 5 ∧ (nd P j).1 ≠ 7) ∧ Below w.heap.size w wr) (fun i _ => P.length - (intOf i).toNat)
    case atStart => exact ⟨0, Nat.zero_le _, rfl, fun j hj => absurd hj (by omega), B1.out⟩
    case round =>
      obtain ⟨k, hk, rfl, hall, hbw⟩ := hrel
      have HALL : Hid _ := hall
      have BW0 : Hid _ := hbw
      clear hall hbw
      by_cases hlt : k < P.length
      · have hltI : (k : Int) < (P.length : Int) := by omega
        obtain ⟨b1, o1, sa, sc, rfl, l1, h0, h1, iS⟩ := HA.out k hlt
        have g0 : wr.cell? ⟨b1, o1 + k * 2, none⟩ = some (.int .i64 (nd P k).1) := (BW0.out.cell (p := ⟨b1, o1 + k * 2, none⟩) l1).trans h0
        have g1 : wr.cell? ⟨b1, o1 + k * 2 + 1, none⟩ = some (.slice sa (nd P k).2.length sc) := (BW0.out.cell (p := ⟨b1, o1 + k * 2 + 1, none⟩) l1).trans h1
        have HNO : Hid ((nd P k).1 = 5 ∨ (nd P k).1 = 7 → plainB P = false) := plainB_no hlt
        obtain ⟨q, hq⟩ : ∃ q, (nd P k).1 = q := ⟨_, rfl⟩
        have HQ : Hid _ := hq
        rw [hq] at g0
        clear h0 h1 iS hq
        by_cases h5 : q = 5
        · subst h5
          go_wp2
          go_ret2
          exact ⟨by rw [HNO.out (.inl HQ.out)]; rfl, BW0.out.trans ((by go_grown : Below wr.heap.size wr _).mono BW0.out.size)⟩
        by_cases h7 : q = 7
        · subst h7
          go_wp2
          go_ret2
          exact ⟨by rw [HNO.out (.inr HQ.out)]; rfl, BW0.out.trans ((by go_grown : Below wr.heap.size wr _).mono BW0.out.size)⟩
        have hb5 : (q == 5) = false := by simpa using h5
        have hb7 : (q == 7) = false := by simpa using h7
        go_wp2
        go_roundw
        case rel => exact ⟨k + 1, by omega, by go_num, fun j hj => by
          by_cases e : j = k
          · subst e; rw [HQ.out]; exact ⟨h5, h7⟩
          · exact HALL.out j (by omega), BW0.out.trans ((by go_grown : Below wr.heap.size wr _).mono BW0.out.size)⟩
        case measure => simp [intOf]; omega
      · obtain rfl : k = P.length := by omega
        have HY : Hid (plainB P = true) := plainB_yes HALL.out
        go_wp2
        go_ret2
        exact ⟨by rw [HY.out]; rfl, BW0.out⟩
set_option maxRecDepth 100000 in
set_option maxHeartbeats 2000000 in
theorem iplain_any (P : List Nd) (ao : Option Addr) (cap : Nat) (w : World) (hl : szP P ≤ 1048576) (hA : ResAt w ao P) :
    Calls Try.prog 27 #[.slice ao P.length cap] w fun e w' => e = .returned (.tuple #[.bool (goodP P && plainB P), .bool (goodP P)]) ∧ Below w.heap.size w w' := by
  have HA : Hid _ := hA
  have HL : Hid _ := hl
  have hpl : P.length ≤ 1048576 := by unfold szP at hl; omega
  clear hA hl
  cases hg : goodP P
  · have HG : Hid _ := hg
    clear hg
    go_enter Try.func27, Try.ntmps27
    go_wp2_with fail
    refine (igoodRe_any P ao cap _ HL.out HA.out).mono ?_
    rintro e w1 ⟨rfl, b⟩
    rw [HG.out]
    go_wp2
    go_ret2
    exact ⟨rfl, b⟩
  · have HG : Hid _ := hg
    clear hg
    go_enter Try.func27, Try.ntmps27
    go_wp2_with fail
    refine (igoodRe_any P ao cap _ HL.out HA.out).mono ?_
    rintro e w1 ⟨rfl, b⟩
    rw [HG.out]
    have B1 : Hid _ := b
    clear b
    go_wp2
    go_loopw [11] (fun i wr => ∃ k : Nat, k ≤ P.length ∧ i = .int .i64 k ∧ (∀ j, j < k → (nd P j).1 ≠ 5 ∧ (nd P j).1 ≠ 7) ∧ Below w.heap.size w wr) (fun i _ => P.length - (intOf i).toNat)
    case atStart => exact ⟨0, Nat.zero_le _, rfl, fun j hj => absurd hj (by omega), B1.out⟩
    case round =>
      obtain ⟨k, hk, rfl, hall, hbw⟩ := hrel
      have HALL : Hid _ := hall
      have BW0 : Hid _ := hbw
      clear hall hbw
      by_cases hlt : k < P.length
      · have hltI : (k : Int) < (P.length : Int) := by omega
        obtain ⟨b1, o1, sa, sc, rfl, l1, h0, h1, iS⟩ := HA.out k hlt
        have g0 : wr.cell? ⟨b1, o1 + k * 2, none⟩ = some (.int .i64 (nd P k).1) := (BW0.out.cell (p := ⟨b1, o1 + k * 2, none⟩) l1).trans h0
        have g1 : wr.cell? ⟨b1, o1 + k * 2 + 1, none⟩ = some (.slice sa (nd P k).2.length sc) := (BW0.out.cell (p := ⟨b1, o1 + k * 2 + 1, none⟩) l1).trans h1
        have HNO : Hid ((nd P k).1 = 5 ∨ (nd P k).1 = 7 → plainB P = false) := plainB_no hlt
        obtain ⟨q, hq⟩ : ∃ q, (nd P k).1 = q := ⟨_, rfl⟩
        have HQ : Hid _ := hq
        rw [hq] at g0
        clear h0 h1 iS hq
        by_cases h5 : q = 5
        · subst h5
          go_wp2
          go_ret2
          exact ⟨by rw [HNO.out (.inl HQ.out)]; rfl, BW0.out.trans ((by go_grown : Below wr.heap.size wr _).mono BW0.out.size)⟩
        by_cases h7 : q = 7
        · subst h7
          go_wp2
          go_ret2
          exact ⟨by rw [HNO.out (.inr HQ.out)]; rfl, BW0.out.trans ((by go_grown : Below wr.heap.size wr _).mono BW0.out.size)⟩
        have hb5 : (q == 5) = false := by simpa using h5
        have hb7 : (q == 7) = false := by simpa using h7
        go_wp2
        go_roundw
        case rel => exact ⟨k + 1, by omega, by go_num, fun j hj => by
          by_cases e : j = k
          · subst e; rw [HQ.out]; exact ⟨h5, h7⟩
          · exact HALL.out j (by omega), BW0.out.trans ((by go_grown : Below wr.heap.size wr _).mono BW0.out.size)⟩
        case measure => simp [intOf]; omega
      · obtain rfl : k = P.length := by omega
        have HY : Hid (plainB P = true) := plainB_yes HALL.out
        go_wp2
        go_ret2
        exact ⟨by rw [HY.out]; rfl, BW0.out⟩
end Go.Proofs.Ytpbkmlheepmbdaa
