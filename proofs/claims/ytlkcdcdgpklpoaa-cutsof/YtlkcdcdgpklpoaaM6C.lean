/-
  Contracts of the laws' toIntSS, toBoolS, szIntSS, eqIntSS, eqBoolS.
-/
import Derived.Test.YtlkcdcdgpklpoaaM6B
namespace Go.Proofs.Ytlkcdcdgpklpoaa
open Go.ChangeShapes Go.WideShapes Go.ChangeAt Go.RowKit
abbrev flags (F : List Bool) : List Value := F.map Value.bool
theorem flags_of_own {w : World} {base : Nat} {v : Value} {n : Nat} {F : List Bool} (h : w.ownsRow base 4 1 v n (flags F)) : n = F.length ∧ ∃ ao cap, v = .slice ao n cap ∧ FlagsAt w ao F := by
  have hn : n = F.length := by have := h.1; simp [flags] at this; omega
  subst hn
  refine ⟨rfl, ?_⟩
  rcases h.2 with ⟨rfl, h0⟩ | ⟨g, cap, cur, rfl, h2, h3, h4⟩
  · refine ⟨none, 0, by rw [h0], fun j hj => ?_⟩
    omega
  · refine ⟨_, _, rfl, fun j hj => ⟨g, 0, rfl, (Array.getElem?_eq_some_iff.1 h3).1, ?_⟩⟩
    rw [Nat.zero_add, World.ownsRow.cellAt h j (by omega)]
    simp [flags, List.getD, hj]
set_option maxRecDepth 100000 in
set_option maxHeartbeats 2000000 in
theorem toIntSS_any (R : Rw) (ao : Option Addr) (cap : Nat) (w : World) (hl : szR R ≤ 1048576) (hA : RowsAt w ao R) :
    Calls Try.prog 92 #[.slice ao R.length cap] w fun e w' => ∃ v, e = .returned v ∧ OwnR w' w.heap.size v R.length R.length (rw_ R) ∧ Below w.heap.size w w' := by
  have hpl : R.length ≤ 1048576 := by unfold szR at hl; omega
  obtain ⟨w1, hmk, how, hb1⟩ := make_rows w R.length hpl
  have HA : Hid _ := hA
  have HL : Hid _ := hl
  have HO : Hid (OwnR w1 w.heap.size (.slice (some ⟨w.heap.size, 0, none⟩) R.length R.length) R.length 0 (rw_ R)) := ⟨_, by simp, how, fun j hj => by omega, fun i j hi => by omega⟩
  have HB : Hid _ := hb1
  clear hA hl how hb1
  go_enter Try.func92, Try.ntmps92
  go_wp2
  go_loopw [4] (fun i wr => ∃ k : Nat, k ≤ R.length ∧ i = .int .i64 k ∧ OwnR wr w.heap.size (.slice (some ⟨w.heap.size, 0, none⟩) R.length R.length) R.length k (rw_ R) ∧ Below w.heap.size w wr) (fun i _ => R.length - (intOf i).toNat)
  case atStart => exact ⟨0, Nat.zero_le _, rfl, HO.out, HB.out⟩
  case round =>
    obtain ⟨k, hk, rfl, hrow, hbw⟩ := hrel
    have HR : Hid (OwnR wr w.heap.size (.slice (some ⟨w.heap.size, 0, none⟩) R.length R.length) R.length k (rw_ R)) := hrow
    have BW0 : Hid _ := hbw
    clear hrow hbw
    by_cases hlt : k < R.length
    · have hltI : (k : Int) < (R.length : Int) := by omega
      obtain ⟨b1, o1, sa, sc, rfl, l1, h1, iS⟩ := HA.out k hlt
      have hls : (rw_ R k).length ≤ 1048576 := Nat.le_trans (rw_len R k hlt) HL.out
      have g1 : wr.cell? ⟨b1, o1 + k, none⟩ = some (.slice sa (rw_ R k).length sc) := (BW0.out.cell (p := ⟨b1, o1 + k, none⟩) l1).trans h1
      have IS : Hid _ := IntsAt.keepB iS BW0.out
      clear h1 iS
      go_wp2_with fail
      refine (toI_any (rw_ R k) sa sc _ hls IS.out).mono ?_
      rintro e w2 ⟨v, rfl, ox, b2⟩
      obtain ⟨p1, p2, p3, ⟨u0, p4⟩, p5, p6⟩ := OwnR.lay HR.out hlt v ox b2
      have P1 : Hid (OwnR (w2.setCell ⟨w.heap.size, k, none⟩ v) w.heap.size (.slice (some ⟨w.heap.size, 0, none⟩) R.length R.length) R.length (k + 1) (rw_ R)) := p1
      have B2 : Hid (Below w.heap.size w w2) := BW0.out.trans (b2.mono BW0.out.size)
      have B3 : Hid (Below w.heap.size w (w2.setCell ⟨w.heap.size, k, none⟩ v)) := Below.grown B2.out p2 B2.out.size (fun g e => by have := Option.some.inj e; omega)
      obtain ⟨-, va, vc, rfl, -⟩ := ints_of_own ox
      clear b2 ox g1 p1 p2
      go_wp2
      go_roundw
      case rel => exact ⟨k + 1, by omega, by go_num, P1.out, B3.out⟩
      case measure => simp [intOf]; omega
    · obtain rfl : k = R.length := by omega
      go_wp2
      go_ret
      exact ⟨_, rfl, HR.out, BW0.out⟩
/-- Flags as far as they are copied. -/
def cpyB (F : List Bool) (k : Nat) : List Bool := F.take k ++ List.replicate (F.length - k) false
theorem cpyB_step (F : List Bool) (k : Nat) (h : k < F.length) : (flags (cpyB F k)).set k (.bool (F.getD k false)) = flags (cpyB F (k + 1)) := by
  have h1 : F.take (k + 1) = F.take k ++ [F.getD k false] := by rw [List.take_add_one]; simp [List.getD, h]
  have h2 : List.replicate (F.length - k) false = false :: List.replicate (F.length - (k + 1)) false := by
    rw [show F.length - k = (F.length - (k + 1)) + 1 by omega, List.replicate_succ]
  have h3 : (flags (F.take k)).length = k := by simp [flags]; omega
  unfold cpyB
  rw [h1, h2]
  simp only [flags, List.map_append, List.map_cons, List.map_nil] at h3 ⊢
  rw [List.set_append_right _ _ (by omega)]
  simp [show k - min k F.length = 0 by omega]
theorem cpyB_get (F : List Bool) (k : Nat) (h : k < F.length) : (flags (cpyB F k))[k]? = some (.bool false) := by
  simp only [flags, cpyB, List.getElem?_map]
  rw [List.getElem?_append_right (by simp; omega)]
  simp [show k - min k F.length = 0 by omega, show 0 < F.length - k by omega]
theorem cpyB_all (F : List Bool) : cpyB F F.length = F := by simp [cpyB]
theorem cpyB_none (F : List Bool) : flags (cpyB F 0) = List.replicate F.length (.bool false) := by simp [cpyB, flags]
set_option maxRecDepth 100000 in
set_option maxHeartbeats 2000000 in
theorem szIntSS_any (R : Rw) (ao : Option Addr) (cap : Nat) (left : Int) (w : World) (h0 : 0 ≤ left) (h1 : left ≤ 1048576) (hl : R.length ≤ maxLen) (hx : ∀ y ∈ R, y.length ≤ maxLen) (hA : RowsAt w ao R) :
    Calls Try.prog 88 #[.slice ao R.length cap, .int .i64 left] w fun e w' => ((szR R ≤ left ∧ e = .returned (.int .i64 (left - szR R))) ∨ (left < szR R ∧ e = .returned (.int .i64 (-1)))) ∧ Below w.heap.size w w' := by
  have HA : Hid _ := hA
  have HX : Hid _ := hx
  have h2 : R.length ≤ 9223372036854775807 := by unfold maxLen at hl; exact hl
  clear hA hx hl
  by_cases hbig : left - R.length < 0
  · go_enter Try.func88, Try.ntmps88
    go_wp2
    go_ret
    exact ⟨.inr ⟨by unfold szR; omega, rfl⟩, Below.refl _ _⟩
  go_enter Try.func88, Try.ntmps88
  go_wp2
  go_loopw [1, 5] (fun l i wr => ∃ (k : Nat), k ≤ R.length ∧ i = .int .i64 k ∧ l = .int .i64 (left - R.length - szRK R k) ∧ R.length + szRK R k ≤ left ∧ Below w.heap.size w wr) (fun _ i _ => R.length - (intOf i).toNat)
  case atStart => exact ⟨0, Nat.zero_le _, rfl, by simp [szRK], by simp [szRK]; omega, Below.refl _ _⟩
  case round =>
    obtain ⟨k, hk, rfl, rfl, hs, hbw⟩ := hrel
    have BW0 : Hid _ := hbw
    clear hbw
    by_cases hlt : k < R.length
    · have hltI : (k : Int) < (R.length : Int) := by omega
      obtain ⟨b1, o1, sa, sc, rfl, l1, h1', iS⟩ := HA.out k hlt
      have g1 : wr.cell? ⟨b1, o1 + k, none⟩ = some (.slice sa (rw_ R k).length sc) := (BW0.out.cell (p := ⟨b1, o1 + k, none⟩) l1).trans h1'
      have hls : (rw_ R k).length ≤ 9223372036854775807 := HX.out _ (rw_mem R k hlt)
      have HST : Hid _ := szRK_step R k hlt
      have HMO : Hid _ := szRK_mono R (k + 1)
      have HAL : Hid _ := szRK_all R
      clear h1' iS
      generalize hsk : szRK R k = z at *
      by_cases h : left - R.length - z - (rw_ R k).length < 0
      · go_wp2_with (first | (go_at_call 89; go_in) | fail)
        go_ret
        refine ⟨.inr ⟨?_, rfl⟩, by first | exact BW0.out | (exact BW0.out.trans (by go_grown))⟩
        have q1 := HST.out
        have q2 := HMO.out
        rw [HAL.out] at q2
        unfold szR
        omega
      · go_wp2_with (first | (go_at_call 89; go_in) | fail)
        go_roundw
        case rel => exact ⟨k + 1, by omega, by go_num, by rw [HST.out]; exact congrArg (Value.int .i64) (by push_cast; omega), by rw [HST.out]; push_cast; omega, BW0.out⟩
        case measure => simp [intOf]; omega
    · obtain rfl : k = R.length := by omega
      have HAL : Hid _ := szRK_all R
      go_wp2
      go_ret
      refine ⟨.inl ⟨by unfold szR; rw [← HAL.out]; push_cast; omega, ?_⟩, BW0.out⟩
      unfold szR
      rw [← HAL.out]
      exact congrArg (fun z : Int => Ending.returned (.int .i64 z)) (show left - R.length - szRK R R.length = left - ((R.length + szRK R R.length : Nat) : Int) by push_cast; omega)
set_option maxRecDepth 100000 in
set_option maxHeartbeats 2000000 in
theorem eqIntSS_any (R : Rw) (ao bo : Option Addr) (ca cb : Nat) (w : World) (hl : szR R ≤ 1048576) (hA : RowsAt w ao R) (hB : RowsAt w bo R) :
    Calls Try.prog 85 #[.slice ao R.length ca, .slice bo R.length cb] w fun e w' => e = .returned (.bool true) ∧ Below w.heap.size w w' := by
  have HA : Hid _ := hA
  have HB : Hid _ := hB
  have HL : Hid _ := hl
  have hpl : R.length ≤ 1048576 := by unfold szR at hl; omega
  clear hA hB hl
  go_enter Try.func85, Try.ntmps85
  go_wp2
  go_loopw [5] (fun i wr => ∃ k : Nat, k ≤ R.length ∧ i = .int .i64 k ∧ Below w.heap.size w wr) (fun i _ => R.length - (intOf i).toNat)
  case atStart => exact ⟨0, Nat.zero_le _, rfl, Below.refl _ _⟩
  case round =>
    obtain ⟨k, hk, rfl, hbw⟩ := hrel
    have BW0 : Hid _ := hbw
    clear hbw
    by_cases hlt : k < R.length
    · have hltI : (k : Int) < (R.length : Int) := by omega
      obtain ⟨b1, o1, sa, sc, rfl, l1, h1, iS⟩ := HA.out k hlt
      obtain ⟨b2, o2, sb, sd, rfl, l2, k1, iT⟩ := HB.out k hlt
      have hls : (rw_ R k).length ≤ 1048576 := Nat.le_trans (rw_len R k hlt) HL.out
      have lr1 : b1 < wr.heap.size := Nat.lt_of_lt_of_le l1 BW0.out.size
      have lr2 : b2 < wr.heap.size := Nat.lt_of_lt_of_le l2 BW0.out.size
      have IS : Hid (∀ y : BW wr, IntsAt y.x sa (rw_ R k)) := fun y => (IntsAt.keepB iS BW0.out).keepB y.h
      have IT : Hid (∀ y : BW wr, IntsAt y.x sb (rw_ R k)) := fun y => (IntsAt.keepB iT BW0.out).keepB y.h
      go_wp2
      have g1 : ∀ y : BW wr, y.x.cell? ⟨b1, o1 + k, none⟩ = some (.slice sa (rw_ R k).length sc) := fun y => (y.h.cell (p := ⟨b1, o1 + k, none⟩) lr1).trans ((BW0.out.cell (p := ⟨b1, o1 + k, none⟩) l1).trans h1)
      have g3 : ∀ y : BW wr, y.x.cell? ⟨b2, o2 + k, none⟩ = some (.slice sb (rw_ R k).length sd) := fun y => (y.h.cell (p := ⟨b2, o2 + k, none⟩) lr2).trans ((BW0.out.cell (p := ⟨b2, o2 + k, none⟩) l2).trans k1)
      clear h1 iS k1 iT
      have hne := BW.some wr
      refine wp_region_below (by kernel_rfl) (by kernel_rfl) ?_
      repeat (go_big_quiet_step (first | (go_at_call 29; exact BW.call (eq_any (rw_ R k) sa sb sc sd _ hls (IS.out _) (IT.out _)))))
      rintro w2 ⟨⟨w2', b2⟩, hw⟩
      obtain rfl : w2 = w2' := hw
      have B2 : Hid (Below w.heap.size w w2) := BW0.out.trans (b2.mono BW0.out.size)
      clear b2 g1 g3
      go_wp2
      go_roundw
      case rel => exact ⟨k + 1, by omega, by go_num, B2.out⟩
      case measure => simp [intOf]; omega
    · obtain rfl : k = R.length := by omega
      go_wp2
      go_ret
      exact ⟨rfl, BW0.out⟩
set_option maxRecDepth 100000 in
set_option maxHeartbeats 1000000 in
theorem eqBoolS_any (L : List Bool) (a b : Option Addr) (ca cb : Nat) (w : World) (hl : L.length ≤ 1048576) (ha : FlagsAt w a L) (hb : FlagsAt w b L) :
    Calls Try.prog 106 #[.slice a L.length ca, .slice b L.length cb] w fun e w' => e = .returned (.bool true) ∧ Below w.heap.size w w' := by
  have HA : Hid _ := ha
  have HB : Hid _ := hb
  clear ha hb
  go_enter Try.func106, Try.ntmps106
  go_wp2
  go_loopw [5] (fun i wr => ∃ k : Nat, k ≤ L.length ∧ i = .int .i64 k ∧ Below w.heap.size w wr) (fun i _ => L.length - (intOf i).toNat)
  case atStart => exact ⟨0, Nat.zero_le _, rfl, Below.refl _ _⟩
  case round =>
    obtain ⟨k, hk, rfl, hbw⟩ := hrel
    by_cases hlt : k < L.length
    · obtain ⟨b1, o1, rfl, l1, h1⟩ := HA.out k hlt
      obtain ⟨b2, o2, rfl, l2, h2⟩ := HB.out k hlt
      have g1 : wr.cell? ⟨b1, o1 + k, none⟩ = some (.bool (L.getD k false)) := (hbw.cell (p := ⟨b1, o1 + k, none⟩) l1).trans h1
      have g2 : wr.cell? ⟨b2, o2 + k, none⟩ = some (.bool (L.getD k false)) := (hbw.cell (p := ⟨b2, o2 + k, none⟩) l2).trans h2
      have hltI : (k : Int) < (L.length : Int) := by omega
      clear h1 h2
      generalize L.getD k false = x at *
      have hxx : (x == x) = true := by simp
      have hxn : (x != x) = false := by simp
      go_wp2
      go_quiet (fail)
      go_wp2
      go_roundw
      case rel => exact ⟨k + 1, by omega, by go_num, below_drewN hbw _⟩
      case measure => simp [intOf]; omega
    · go_wp2
      go_ret
      exact ⟨rfl, hbw⟩
end Go.Proofs.Ytlkcdcdgpklpoaa
