/-
  The laws' own copies, sizes and comparisons of lists of nodes.
-/
import Derived.Test.YtlkcdcdgpklpoaaR5A
import Derived.Test.YtlkcdcdgpklpoaaEq
import Derived.Test.YtlkcdcdgpklpoaaReg
namespace Go.Proofs.Ytlkcdcdgpklpoaa
open Go.ChangeShapes Go.WideShapes Go.ChangeAt Go.RowKit
set_option maxRecDepth 100000 in
set_option maxHeartbeats 1000000 in
theorem szRe_any (x : Nd) (sa : Option Addr) (sc : Nat) (left : Int) (w : World) (h0 : 0 ≤ left) (h1 : left ≤ 1048576) (hx : x.2.length ≤ maxLen) :
    Calls Try.prog 71 #[.agg #[.int .i64 x.1, .slice sa x.2.length sc], .int .i64 left] w fun e w' => e = .returned (.int .i64 (if left - x.2.length < 0 then -1 else left - x.2.length)) ∧ Below w.heap.size w w' := by
  obtain ⟨op, s⟩ := x
  have h2 : s.length ≤ 9223372036854775807 := by unfold maxLen at hx; exact hx
  clear hx
  by_cases h : left - s.length < 0
  · rw [if_pos h]
    go_enter Try.func71, Try.ntmps71
    go_wp2_with (first | (go_at_call 89; go_in) | fail)
    go_ret
    exact ⟨rfl, by go_grown⟩
  · rw [if_neg h]
    go_enter Try.func71, Try.ntmps71
    go_wp2_with (first | (go_at_call 89; go_in) | fail)
    go_ret
    exact ⟨rfl, by go_grown⟩
set_option maxRecDepth 100000 in
set_option maxHeartbeats 2000000 in
theorem szReS_any (P : List Nd) (ao : Option Addr) (cap : Nat) (w : World) (hl : P.length ≤ maxLen) (hx : ∀ y ∈ P, y.2.length ≤ maxLen) (hA : ResAt w ao P) :
    Calls Try.prog 23 #[.slice ao P.length cap, .int .i64 1048576] w fun e w' => ((szP P ≤ 1048576 ∧ e = .returned (.int .i64 (1048576 - szP P))) ∨ (1048576 < szP P ∧ e = .returned (.int .i64 (-1)))) ∧ Below w.heap.size w w' := by
  have HA : Hid _ := hA
  have HX : Hid _ := hx
  have h2 : P.length ≤ 9223372036854775807 := by unfold maxLen at hl; exact hl
  clear hA hx hl
  by_cases hbig : (1048576 : Int) - P.length < 0
  · go_enter Try.func23, Try.ntmps23
    go_wp2
    go_ret
    exact ⟨.inr ⟨by unfold szP; omega, rfl⟩, Below.refl _ _⟩
  go_enter Try.func23, Try.ntmps23
  go_wp2
  go_loopw [1, 5] (fun l i wr => ∃ (k : Nat), k ≤ P.length ∧ i = .int .i64 k ∧ l = .int .i64 (1048576 - P.length - szK P k) ∧ P.length + szK P k ≤ 1048576 ∧ Below w.heap.size w wr) (fun _ i _ => P.length - (intOf i).toNat)
  case atStart => exact ⟨0, Nat.zero_le _, rfl, by simp [szK], by simp [szK]; omega, Below.refl _ _⟩
  case round =>
    obtain ⟨k, hk, rfl, rfl, hs, hbw⟩ := hrel
    have BW0 : Hid _ := hbw
    clear hbw
    by_cases hlt : k < P.length
    · have hltI : (k : Int) < (P.length : Int) := by omega
      obtain ⟨b1, o1, sa, sc, rfl, l1, h0, h1, iS⟩ := HA.out k hlt
      have g0 : wr.cell? ⟨b1, o1 + k * 2, none⟩ = some (.int .i64 (nd P k).1) := (BW0.out.cell (p := ⟨b1, o1 + k * 2, none⟩) l1).trans h0
      have g1 : wr.cell? ⟨b1, o1 + k * 2 + 1, none⟩ = some (.slice sa (nd P k).2.length sc) := (BW0.out.cell (p := ⟨b1, o1 + k * 2 + 1, none⟩) l1).trans h1
      have hls : (nd P k).2.length ≤ maxLen := HX.out _ (by simp [nd, List.getD, hlt])
      have HST : Hid _ := szK_step P k hlt
      have HMO : Hid _ := szK_mono P (k + 1)
      have HAL : Hid _ := szK_all P
      clear h0 h1 iS
      generalize hsk : szK P k = z at *
      go_wp2_with fail
      refine (szRe_any (nd P k) sa sc _ _ (by omega) (by omega) hls).mono ?_
      rintro e w2 ⟨rfl, b2⟩
      have B2 : Hid (Below w.heap.size w w2) := BW0.out.trans (b2.mono BW0.out.size)
      clear b2 g0 g1
      by_cases h : (1048576 : Int) - P.length - z - (nd P k).2.length < 0
      · rw [if_pos h]
        go_wp2
        go_ret
        refine ⟨.inr ⟨?_, rfl⟩, B2.out⟩
        have q1 := HST.out
        have q2 := HMO.out
        rw [HAL.out] at q2
        unfold szP
        omega
      · rw [if_neg h]
        go_wp2
        go_roundw
        case rel => exact ⟨k + 1, by omega, by go_num, by rw [HST.out]; congr 1; push_cast; omega, by rw [HST.out]; omega, B2.out⟩
        case measure => simp [intOf]; omega
    · obtain rfl : k = P.length := by omega
      have HAL : Hid _ := szK_all P
      go_wp2
      go_ret
      refine ⟨.inl ⟨by unfold szP; rw [← HAL.out]; omega, ?_⟩, BW0.out⟩
      unfold szP
      rw [← HAL.out]
      exact congrArg (fun z : Int => Ending.returned (.int .i64 z)) (show (1048576 : Int) - P.length - szK P P.length = 1048576 - ((P.length + szK P P.length : Nat) : Int) by push_cast; omega)
set_option maxRecDepth 100000 in
set_option maxHeartbeats 1000000 in
theorem eqRe_any (x : Nd) (sa sb : Option Addr) (sc sd : Nat) (w : World) (hl : x.2.length ≤ 1048576) (hA : IntsAt w sa x.2) (hB : IntsAt w sb x.2) :
    Calls Try.prog 79 #[.agg #[.int .i64 x.1, .slice sa x.2.length sc], .agg #[.int .i64 x.1, .slice sb x.2.length sd]] w fun e w' => e = .returned (.bool true) ∧ Below w.heap.size w w' := by
  obtain ⟨op, s⟩ := x
  have HA : Hid _ := hA
  have HB : Hid _ := hB
  have A2 : ∀ o p, Below w.heap.size w ((w.alloc o).alloc p) := fun o p => ((Below.refl _ _).alloc (Nat.le_refl _) o).alloc (by simp) p
  clear hA hB
  go_enter Try.func79, Try.ntmps79
  go_wp2_with fail
  refine (eq_any s _ _ _ _ _ hl (IntsAt.keepB HA.out (A2 _ _)) (IntsAt.keepB HB.out (A2 _ _))).mono ?_
  rintro e w1 ⟨rfl, b1⟩
  have B1 : Hid _ := (A2 _ _).trans (b1.mono (A2 _ _).size)
  clear b1
  go_wp2
  go_ret
  exact ⟨rfl, B1.out⟩
set_option maxRecDepth 100000 in
set_option maxHeartbeats 2000000 in
theorem eqReS_any (P : List Nd) (ao bo : Option Addr) (ca cb : Nat) (w : World) (hl : szP P ≤ 1048576) (hA : ResAt w ao P) (hB : ResAt w bo P) :
    Calls Try.prog 28 #[.slice ao P.length ca, .slice bo P.length cb] w fun e w' => e = .returned (.bool true) ∧ Below w.heap.size w w' := by
  have HA : Hid _ := hA
  have HB : Hid _ := hB
  have HL : Hid _ := hl
  have hpl : P.length ≤ 1048576 := by unfold szP at hl; omega
  clear hA hB hl
  go_enter Try.func28, Try.ntmps28
  go_wp2
  go_loopw [5] (fun i wr => ∃ k : Nat, k ≤ P.length ∧ i = .int .i64 k ∧ Below w.heap.size w wr) (fun i _ => P.length - (intOf i).toNat)
  case atStart => exact ⟨0, Nat.zero_le _, rfl, Below.refl _ _⟩
  case round =>
    obtain ⟨k, hk, rfl, hbw⟩ := hrel
    have BW0 : Hid _ := hbw
    clear hbw
    by_cases hlt : k < P.length
    · have hltI : (k : Int) < (P.length : Int) := by omega
      obtain ⟨b1, o1, sa, sc, rfl, l1, h0, h1, iS⟩ := HA.out k hlt
      obtain ⟨b2, o2, sb, sd, rfl, l2, k0, k1, iT⟩ := HB.out k hlt
      have hls : (nd P k).2.length ≤ 1048576 := Nat.le_trans (nd_len P k hlt) HL.out
      have lr1 : b1 < wr.heap.size := Nat.lt_of_lt_of_le l1 BW0.out.size
      have lr2 : b2 < wr.heap.size := Nat.lt_of_lt_of_le l2 BW0.out.size
      have IS : Hid (∀ y : BW wr, IntsAt y.x sa (nd P k).2) := fun y => (IntsAt.keepB iS BW0.out).keepB y.h
      have IT : Hid (∀ y : BW wr, IntsAt y.x sb (nd P k).2) := fun y => (IntsAt.keepB iT BW0.out).keepB y.h
      go_wp2
      have g0 : ∀ y : BW wr, y.x.cell? ⟨b1, o1 + k * 2, none⟩ = some (.int .i64 (nd P k).1) := fun y => (y.h.cell (p := ⟨b1, o1 + k * 2, none⟩) lr1).trans ((BW0.out.cell (p := ⟨b1, o1 + k * 2, none⟩) l1).trans h0)
      have g1 : ∀ y : BW wr, y.x.cell? ⟨b1, o1 + k * 2 + 1, none⟩ = some (.slice sa (nd P k).2.length sc) := fun y => (y.h.cell (p := ⟨b1, o1 + k * 2 + 1, none⟩) lr1).trans ((BW0.out.cell (p := ⟨b1, o1 + k * 2 + 1, none⟩) l1).trans h1)
      have g2 : ∀ y : BW wr, y.x.cell? ⟨b2, o2 + k * 2, none⟩ = some (.int .i64 (nd P k).1) := fun y => (y.h.cell (p := ⟨b2, o2 + k * 2, none⟩) lr2).trans ((BW0.out.cell (p := ⟨b2, o2 + k * 2, none⟩) l2).trans k0)
      have g3 : ∀ y : BW wr, y.x.cell? ⟨b2, o2 + k * 2 + 1, none⟩ = some (.slice sb (nd P k).2.length sd) := fun y => (y.h.cell (p := ⟨b2, o2 + k * 2 + 1, none⟩) lr2).trans ((BW0.out.cell (p := ⟨b2, o2 + k * 2 + 1, none⟩) l2).trans k1)
      clear h0 h1 iS k0 k1 iT
      have hne := BW.some wr
      refine wp_region_below (by kernel_rfl) (by kernel_rfl) ?_
      repeat (go_big_quiet_step (first | (go_at_call 79; exact BW.call (eqRe_any (nd P k) sa sb sc sd _ hls (IS.out _) (IT.out _)))))
      rintro w2 ⟨⟨w2', b2⟩, hw⟩
      obtain rfl : w2 = w2' := hw
      have B2 : Hid (Below w.heap.size w w2) := BW0.out.trans (b2.mono BW0.out.size)
      clear b2 g0 g1 g2 g3
      go_wp2
      go_roundw
      case rel => exact ⟨k + 1, by omega, by go_num, B2.out⟩
      case measure => simp [intOf]; omega
    · obtain rfl : k = P.length := by omega
      go_wp2
      go_ret
      exact ⟨rfl, BW0.out⟩
end Go.Proofs.Ytlkcdcdgpklpoaa
