/-
  SplitAll of both: each rune's parts one behind the other.
-/
import Derived.Test.YtjfehgmpcgepnaaN3C
namespace Go.Proofs.Ytjfehgmpcgepnaa
open Go.ChangeShapes Go.WideShapes Go.ChangeAt Go.RowKit
set_option maxRecDepth 100000 in
set_option maxHeartbeats 2000000 in
theorem ssplitL_any (L : List Int) (ao : Option Addr) (cap : Nat) (w : World) (hl : L.length ≤ 300) (hg : allG L = true) (hA : IntsAt w ao L) :
    Calls Try.prog 21 #[.slice ao L.length cap] w fun e w' => ∃ v, e = .returned v ∧ w'.ownsRow w.heap.size 3 1 v (splitAllL L).length (ints (splitAllL L)) ∧ Below w.heap.size w w' := by
  obtain ⟨i0, hi, hz0, hz1, hz2⟩ := info_parts Try.info3
  have HA : Hid _ := hA
  have HG : Hid _ := hg
  clear hA hg
  go_enter Try.func21, Try.ntmps21
  go_wp2
  go_loopw [3, 8] (fun v i wr => ∃ k : Nat, k ≤ L.length ∧ i = .int .i64 k ∧ wr.ownsRow w.heap.size 3 1 v (splitAllL (L.take k)).length (ints (splitAllL (L.take k))) ∧ Below w.heap.size w wr) (fun _ i _ => L.length - (intOf i).toNat)
  case atStart => exact ⟨0, Nat.zero_le _, rfl, World.ownsRow_nil _ _ _ _, Below.refl _ _⟩
  case round =>
    obtain ⟨k, hk, rfl, hown, hbw⟩ := hrel
    by_cases hlt : k < L.length
    · have hltI : (k : Int) < (L.length : Int) := by omega
      obtain ⟨b1, o1, rfl, l1, h1⟩ := HA.out k hlt
      have hc : wr.cell? ⟨b1, o1 + k, none⟩ = some (.int .i64 (L.getD k 0)) := (hbw.cell (p := ⟨b1, o1 + k, none⟩) l1).trans h1
      have hg : goodB (L.getD k 0) = true := allG_true HG.out _ (by simp [List.getD, hlt])
      have hsp := splitAllL_snoc L k hlt
      have HSP : Hid _ := hsp
      have hln : (splitAllL (L.take k)).length ≤ 900 := by have h2 := (splitAllL_len (L.take k)).2; simp at h2; omega
      have hl3 := (splitL_len (L.getD k 0)).2
      have g1 := goodB_true hg
      have g2 := g1.1
      have g3 := g1.2.1
      have HGD : Hid _ := hg
      clear hsp h1 g1 hg
      generalize L.getD k 0 = r at *
      generalize splitAllL (L.take k) = S at *
      go_wp2_with fail
      refine (ssplit_any r _ g2 g3).mono ?_
      rintro e w1 ⟨v1, rfl, ow1, hb1⟩
      have hown1 := ownsRow_below hown hb1
      have hbw1 := hbw.trans (hb1.mono hbw.size)
      clear hown hbw hb1 hc
      go_wp2_with (at_builtin; refine wpList_append_row _ rfl _ _ 24 rfl w.heap.size 3 i0 (.int .i64 0) 1 8 Try.underlying24 hi hz0 hz1 hz2 rfl (by decide) _ _ _ rfl hown1 _ _ _ _ rfl ow1 (ints_one _) ?c3 ?c4 ?c5 ?_)
      case c3 => unfold maxLen; omega
      case c4 => omega
      case c5 => exact hbw1.size
      intro v' w2 hown2 hgrow _
      have hb2 : Below w.heap.size w w2 := Below.grown hbw1 hgrow hbw1.size (fun g hg => (hown1.lt g hg).1)
      clear hgrow hown1 hbw1 ow1
      go_wp2
      go_roundw
      case rel => exact ⟨k + 1, by omega, by go_num, by rw [HSP.out]; simpa [ints] using hown2, hb2⟩
      case measure => simp [intOf]; omega
    · obtain rfl : k = L.length := by omega
      rw [List.take_length] at hown
      go_wp2
      go_ret
      exact ⟨_, rfl, hown, hbw⟩
set_option maxRecDepth 100000 in
set_option maxHeartbeats 4000000 in
theorem isplitAll_any (L : List Int) (ao : Option Addr) (cap : Nat) (w : World) (hh : heldB L = true) (hA : IntsAt w ao L) :
    Calls Try.prog 16 #[.slice ao L.length cap] w fun e w' => (((splitAllL L).length ≤ 300 ∧ ∃ v, e = .returned (.tuple #[v, .bool true]) ∧ w'.ownsRow w.heap.size 3 1 v (splitAllL L).length (ints (splitAllL L))) ∨ (300 < (splitAllL L).length ∧ e = .returned (.tuple #[.slice none 0 0, .bool false]))) ∧ Below w.heap.size w w' := by
  obtain ⟨i0, hi, hz0, hz1, hz2⟩ := info_parts Try.info3
  have HA : Hid _ := hA
  have HH : Hid _ := hh
  have hl := (heldB_true hh).1
  have HG : Hid _ := (heldB_true hh).2
  clear hA hh
  go_enter Try.func16, Try.ntmps16
  go_wp2_with fail
  refine (iheld_any L ao cap _ (by omega) HA.out).mono ?_
  rintro e w1 ⟨rfl, rfl⟩
  rw [HH.out]
  go_wp2
  go_loopw [4, 14] (fun v i wr => ∃ k : Nat, k ≤ L.length ∧ i = .int .i64 k ∧ wr.ownsRow w.heap.size 3 1 v (splitAllL (L.take k)).length (ints (splitAllL (L.take k))) ∧ Below w.heap.size w wr) (fun _ i _ => L.length - (intOf i).toNat)
  case atStart => exact ⟨0, Nat.zero_le _, rfl, World.ownsRow_nil _ _ _ _, Below.refl _ _⟩
  case round =>
    obtain ⟨k, hk, rfl, hown, hbw⟩ := hrel
    by_cases hlt : k < L.length
    · have hltI : (k : Int) < (L.length : Int) := by omega
      obtain ⟨b1, o1, rfl, l1, h1⟩ := HA.out k hlt
      have hc : wr.cell? ⟨b1, o1 + k, none⟩ = some (.int .i64 (L.getD k 0)) := (hbw.cell (p := ⟨b1, o1 + k, none⟩) l1).trans h1
      have hg : goodB (L.getD k 0) = true := allG_true HG.out _ (by simp [List.getD, hlt])
      have hsp := splitAllL_snoc L k hlt
      have HSP : Hid _ := hsp
      have hln : (splitAllL (L.take k)).length ≤ 900 := by have h2 := (splitAllL_len (L.take k)).2; simp at h2; omega
      have hl3 := (splitL_len (L.getD k 0)).2
      have g1 := goodB_true hg
      have g2 := g1.1
      have g3 := g1.2.1
      have HGD : Hid _ := hg
      clear hsp h1 g1 hg
      generalize L.getD k 0 = r at *
      generalize splitAllL (L.take k) = S at *
      go_wp2_with fail
      refine (isplitR_yes r _ HGD.out).mono ?_
      rintro e w1 ⟨v1, rfl, ow1, hb1⟩
      have hown1 := ownsRow_below hown hb1
      have hbw1 := hbw.trans (hb1.mono hbw.size)
      clear hown hbw hb1 hc
      go_wp2_with (at_builtin; refine wpList_append_row _ rfl _ _ 24 rfl w.heap.size 3 i0 (.int .i64 0) 1 8 Try.underlying24 hi hz0 hz1 hz2 rfl (by decide) _ _ _ rfl hown1 _ _ _ _ rfl ow1 (ints_one _) ?c3 ?c4 ?c5 ?_)
      case c3 => unfold maxLen; omega
      case c4 => omega
      case c5 => exact hbw1.size
      intro v' w2 hown2 hgrow _
      have hb2 : Below w.heap.size w w2 := Below.grown hbw1 hgrow hbw1.size (fun g hg => (hown1.lt g hg).1)
      clear hgrow hown1 hbw1 ow1
      go_wp2
      go_roundw
      case rel => exact ⟨k + 1, by omega, by go_num, by rw [HSP.out]; simpa [ints] using hown2, hb2⟩
      case measure => simp [intOf]; omega
    · obtain rfl : k = L.length := by omega
      rw [List.take_length] at hown
      have OW : Hid _ := hown
      have B : Hid _ := hbw
      obtain ⟨_, a, c, rfl, _⟩ := ints_of_own hown
      clear hown hbw
      by_cases hs : (300 : Int) < ((splitAllL L).length : Int)
      · go_wp2
        go_ret2
        exact ⟨.inr ⟨by omega, rfl⟩, B.out⟩
      · go_wp2
        go_ret2
        exact ⟨.inl ⟨by omega, _, rfl, OW.out⟩, B.out⟩
theorem isplitAll_yes (L : List Int) (ao : Option Addr) (cap : Nat) (w : World) (hh : heldB L = true) (hs : (splitAllL L).length ≤ 300) (hA : IntsAt w ao L) :
    Calls Try.prog 16 #[.slice ao L.length cap] w fun e w' => ∃ v, e = .returned (.tuple #[v, .bool true]) ∧ w'.ownsRow w.heap.size 3 1 v (splitAllL L).length (ints (splitAllL L)) ∧ Below w.heap.size w w' := by
  refine (isplitAll_any L ao cap w hh hA).mono ?_
  rintro e w' ⟨⟨_, v, he, ho⟩ | ⟨h, _⟩, hb⟩
  · exact ⟨v, he, ho, hb⟩
  · omega
set_option maxRecDepth 100000 in
set_option maxHeartbeats 1000000 in
theorem isplitAll_no (L : List Int) (ao : Option Addr) (cap : Nat) (w : World) (hl : L.length ≤ 1048576) (hh : ¬ (heldB L = true ∧ (splitAllL L).length ≤ 300)) (hA : IntsAt w ao L) :
    Calls Try.prog 16 #[.slice ao L.length cap] w fun e w' => e = .returned (.tuple #[.slice none 0 0, .bool false]) ∧ Below w.heap.size w w' := by
  cases hb : heldB L
  · have HH : Hid _ := hb
    have HA : Hid _ := hA
    clear hb hh hA
    go_enter Try.func16, Try.ntmps16
    go_wp2_with fail
    refine (iheld_any L ao cap _ hl HA.out).mono ?_
    rintro e w1 ⟨rfl, rfl⟩
    rw [HH.out]
    go_wp2
    go_ret2
    exact ⟨rfl, Below.refl _ _⟩
  · refine (isplitAll_any L ao cap w hb hA).mono ?_
    rintro e w' ⟨⟨h, _⟩ | ⟨_, he⟩, hb2⟩
    · exact absurd ⟨hb, h⟩ hh
    · exact ⟨he, hb2⟩
end Go.Proofs.Ytjfehgmpcgepnaa
