/-
  Contracts of spec.l1AllRunes, spec.TextOf and impl.TextOf.
-/
import Derived.Test.YtflgdfkcgkibgaaDoorTxt
import Derived.Test.YtflgdfkcgkibgaaDoorUtf
namespace Go.Proofs.YtflgdfkcgkibgaaDoor
open Go.ChangeShapes Go.WideShapes Go.ChangeAt Go.RowKit
def allG (L : List Int) : Bool := L.all goodB
theorem allG_true {L : List Int} (h : allG L = true) : ∀ r ∈ L, goodB r = true := fun r hr => List.all_eq_true.1 h r hr
theorem allG_bad {L : List Int} {k : Nat} (h : k < L.length) (hb : goodB (L.getD k 0) = false) : allG L = false := by
  rw [Bool.eq_false_iff]
  intro ha
  have := allG_true ha (L.getD k 0) (by simp [List.getD, h])
  rw [hb] at this
  cases this
/-- Whether runes have a text. -/
def tB (L : List Int) : Bool := decide (L.length ≤ 1000) && allG L && decide ((textB L).length ≤ 1000)
def tS (L : List Int) : ByteArray := if tB L then textS L else ⟨#[]⟩
theorem tS_yes {L : List Int} (h : tB L = true) : tS L = textS L := by simp [tS, h]
theorem tS_no {L : List Int} (h : tB L = false) : tS L = ⟨#[]⟩ := by simp [tS, h]
set_option maxRecDepth 100000 in
set_option maxHeartbeats 1000000 in
theorem all_any (L : List Int) (ao : Option Addr) (cap : Nat) (w : World) (hl : L.length ≤ 1048576) (hA : IntsAt w ao L) :
    Calls Tryd.prog 51 #[.slice ao L.length cap] w fun e w' => e = .returned (.bool (allG L && decide (L.length ≤ 1000))) ∧ Below w.heap.size w w' := by
  have HA : Hid _ := hA
  clear hA
  go_enter Tryd.func51, Tryd.ntmps51
  go_wp2
  go_loopw [7] (fun i wr => ∃ k : Nat, k ≤ L.length ∧ i = .int .i64 k ∧ (∀ j, j < k → goodB (L.getD j 0) = true) ∧ wr = w) (fun i _ => L.length - (intOf i).toNat)
  case atStart => exact ⟨0, Nat.zero_le _, rfl, fun j hj => absurd hj (by omega), rfl⟩
  case round =>
    obtain ⟨k, hk, rfl, hall, rfl⟩ := hrel
    have HALL : Hid _ := hall
    clear hall
    by_cases hlt : k < L.length
    · have hltI : (k : Int) < (L.length : Int) := by omega
      obtain ⟨b1, o1, rfl, l1, h1⟩ := HA.out k hlt
      cases hgd : goodB (L.getD k 0)
      · have HG : Hid _ := hgd
        have HB : Hid _ := allG_bad hlt hgd
        clear hgd
        generalize L.getD k 0 = r at *
        go_wp2_with (go_at_call 14; refine (good_not HG.out _).mono ?_; rintro e w' ⟨rfl, rfl⟩)
        go_ret
        exact ⟨by rw [HB.out]; rfl, Below.refl _ _⟩
      · have HG : Hid _ := hgd
        have HN : Hid (∀ j, j < k + 1 → goodB (L.getD j 0) = true) := fun j hj => by
          by_cases e : j = k
          · subst e; exact hgd
          · exact HALL.out j (by omega)
        clear hgd
        generalize L.getD k 0 = r at *
        go_wp2_with (go_at_call 14; refine (good_yes HG.out _).mono ?_; rintro e w' ⟨rfl, rfl⟩)
        go_roundw
        case rel => exact ⟨k + 1, by omega, by go_num, HN.out, by first | rfl | trivial⟩
        case measure => simp [intOf]; omega
    · obtain rfl : k = L.length := by omega
      have HB : Hid (allG L = true) := List.all_eq_true.2 fun r hr => by
        obtain ⟨j, hj, rfl⟩ := List.mem_iff_getElem.1 hr
        have := HALL.out j hj
        simpa [List.getD, hj] using this
      go_wp2
      go_ret
      exact ⟨by rw [HB.out, Bool.true_and]; exact ret_bool (decide_eq_decide.2 ⟨fun h => by omega, fun h => by omega⟩), Below.refl _ _⟩
set_option maxRecDepth 100000 in
set_option maxHeartbeats 1000000 in
theorem stext_any (L : List Int) (ao : Option Addr) (cap : Nat) (w : World) (hl : L.length ≤ 1048576) (hA : IntsAt w ao L) :
    Calls Tryd.prog 28 #[.slice ao L.length cap] w fun e w' => e = .returned (.tuple #[.string (tS L), .bool (tB L)]) ∧ Below w.heap.size w w' := by
  have HA : Hid _ := hA
  clear hA
  cases hall : allG L && decide (L.length ≤ 1000)
  · have HALL : Hid _ := hall
    have hn : tB L = false := by
      unfold tB
      rw [Bool.and_comm (decide _) (allG L), hall]; rfl
    rw [tS_no hn, hn]
    clear hn hall
    go_enter Tryd.func28, Tryd.ntmps28
    go_wp2_with fail
    refine (all_any L _ _ _ hl HA.out).mono ?_
    rintro e w1 ⟨rfl, b1⟩
    rw [HALL.out]
    go_wp2
    go_ret2
    exact ⟨rfl, b1⟩
  · have HALL : Hid _ := hall
    rw [Bool.and_eq_true, decide_eq_true_eq] at hall
    have HG : Hid _ := allG_true hall.1
    by_cases ht : (textB L).length ≤ 1000
    · have hy : tB L = true := by unfold tB; rw [hall.1, decide_eq_true hall.2, decide_eq_true ht]; rfl
      have hsz : ¬ (1000 : Int) < ((textS L).size : Int) := by rw [textS_size]; omega
      rw [tS_yes hy, hy]
      clear hall hy ht
      go_enter Tryd.func28, Tryd.ntmps28
      go_wp2_with fail
      refine (all_any L _ _ _ hl HA.out).mono ?_
      rintro e w1 ⟨rfl, b1⟩
      rw [HALL.out]
      go_wp2_with fail
      refine (text_of_any L _ _ _ hl HG.out (IntsAt.below HA.out b1)).mono ?_
      rintro e w2 ⟨rfl, b2⟩
      have B2 : Hid _ := b1.trans (b2.mono b1.size)
      clear b1 b2
      go_wp2_with fail
      refine (text_of_any L _ _ _ hl HG.out (IntsAt.below HA.out B2.out)).mono ?_
      rintro e w3 ⟨rfl, b3⟩
      go_wp2
      go_ret2
      exact ⟨rfl, Below.trans B2.out (b3.mono (Below.size B2.out))⟩
    · have hn : tB L = false := by unfold tB; rw [decide_eq_false ht, Bool.and_false]
      have hsz : (1000 : Int) < ((textS L).size : Int) := by rw [textS_size]; omega
      rw [tS_no hn, hn]
      clear hall hn ht
      go_enter Tryd.func28, Tryd.ntmps28
      go_wp2_with fail
      refine (all_any L _ _ _ hl HA.out).mono ?_
      rintro e w1 ⟨rfl, b1⟩
      rw [HALL.out]
      go_wp2_with fail
      refine (text_of_any L _ _ _ hl HG.out (IntsAt.below HA.out b1)).mono ?_
      rintro e w2 ⟨rfl, b2⟩
      have B2 : Hid _ := b1.trans (b2.mono b1.size)
      clear b1 b2
      go_wp2
      go_ret2
      exact ⟨rfl, B2.out⟩
set_option maxRecDepth 100000 in
set_option maxHeartbeats 1000000 in
theorem itext_big (L : List Int) (ao : Option Addr) (cap : Nat) (w : World) (hl : (1000 : Int) < L.length) :
    Calls Tryd.prog 23 #[.slice ao L.length cap] w fun e w' => e = .returned (.tuple #[.string (tS L), .bool (tB L)]) ∧ Below w.heap.size w w' := by
  have hn : tB L = false := by unfold tB; rw [decide_eq_false (by omega : ¬ L.length ≤ 1000)]; rfl
  rw [tS_no hn, hn]
  clear hn
  go_enter Tryd.func23, Tryd.ntmps23
  go_wp2
  go_ret2
  exact ⟨rfl, Below.refl _ _⟩
set_option maxRecDepth 100000 in
set_option maxHeartbeats 2000000 in
theorem itext_any (L : List Int) (ao : Option Addr) (cap : Nat) (w : World) (hl : L.length ≤ 1000) (hA : IntsAt w ao L) (hT : Tabs w) :
    Calls Tryd.prog 23 #[.slice ao L.length cap] w fun e w' => e = .returned (.tuple #[.string (tS L), .bool (tB L)]) ∧ Below w.heap.size w w' := by
  obtain ⟨i0, hi, hz0, hz1, hz2⟩ := info_parts Tryd.info5
  have HA : Hid _ := hA
  have HT : Hid _ := hT
  have h1000 : ¬ (1000 : Int) < (L.length : Int) := by omega
  clear hA hT
  go_enter Tryd.func23, Tryd.ntmps23
  go_wp2_with (at_make; refine wpList_make_own _ rfl _ _ 22 rfl w.heap.size 5 i0 (.int .u8 0) 1 Tryd.underlying22 hi hz0 hz1 _ _ _ L.length rfl rfl rfl (by rw [hz2]; omega) (by unfold maxLen; omega) (Nat.le_refl _) ?_)
  intro w1 hown1 hg1
  have hb1 : Below w.heap.size w w1 := Below.grown (Below.refl _ _) hg1 (Nat.le_refl _) (fun k hk => by cases hk)
  clear hg1
  go_wp2
  go_loopw [4, 17] (fun v i wr => ∃ k : Nat, k ≤ L.length ∧ i = .int .i64 k ∧ (∀ j, j < k → goodB (L.getD j 0) = true) ∧ wr.ownsRow w.heap.size 5 1 v (textB (L.take k)).length (byteC (textB (L.take k))) ∧ Below w.heap.size w wr) (fun _ i _ => L.length - (intOf i).toNat)
  case atStart => exact ⟨0, Nat.zero_le _, rfl, fun j hj => absurd hj (by omega), hown1, hb1⟩
  case round =>
    obtain ⟨k, hk, rfl, hall, hown, hbw⟩ := hrel
    have HALL : Hid _ := hall
    clear hall hown1 hb1
    by_cases hlt : k < L.length
    · have hltI : (k : Int) < (L.length : Int) := by omega
      obtain ⟨b1, o1, rfl, l1, h1⟩ := HA.out k hlt
      have g1 : wr.cell? ⟨b1, o1 + k, none⟩ = some (.int .i64 (L.getD k 0)) := (hbw.cell (p := ⟨b1, o1 + k, none⟩) l1).trans h1
      have HTW : Hid _ := HT.out.below hbw
      clear h1
      cases hgd : goodB (L.getD k 0)
      · have HG : Hid _ := hgd
        have HB : Hid (tB L = false) := by
          show tB L = false
          unfold tB; rw [allG_bad hlt hgd, Bool.and_false]; rfl
        clear hgd
        generalize L.getD k 0 = r at *
        go_wp2_with (go_at_call 11; refine (iutf_no r _ HG.out).mono ?_; rintro e w' ⟨rfl, rfl⟩)
        go_ret2
        exact ⟨by rw [tS_no HB.out, HB.out]; rfl, hbw⟩
      · have HG : Hid _ := hgd
        have HN : Hid (∀ j, j < k + 1 → goodB (L.getD j 0) = true) := fun j hj => by
          by_cases e : j = k
          · subst e; exact hgd
          · exact HALL.out j (by omega)
        have HST : Hid _ := textB_step L k hlt
        have hlen : (textB (L.take k)).length ≤ 4000 := by have := (textB_len (L.take k)).2; have := List.length_take_le k L; omega
        have hes : (encS (L.getD k 0)).size ≤ 4 := by have := encN_len (L.getD k 0); rw [encS_size]; omega
        clear hgd
        generalize L.getD k 0 = r at *
        go_wp2_with fail
        refine (iutf_any r _ HG.out HTW.out).mono ?_
        rintro e w2 ⟨rfl, hb2⟩
        have hown2 := ownsRow_below hown hb2
        have hbw2 := hbw.trans (hb2.mono hbw.size)
        clear hown hbw hb2 g1
        go_wp2_with (at_builtin; refine Lib.wpList_append_own_string _ rfl _ _ 22 9 rfl w.heap.size 5 i0 Tryd.underlying22 Tryd.underlying9 hi hz0 hz1 hz2 _ _ _ rfl hown2 (encS r) rfl ?c1 ?c2 ?c3 ?_)
        case c1 => unfold maxLen; omega
        case c2 => omega
        case c3 => exact hbw2.size
        intro v' w3 hown3 hgrow _
        have hb3 : Below w.heap.size w w3 := Below.grown hbw2 hgrow hbw2.size (fun g hg => (hown2.lt g hg).1)
        clear hgrow hown2 hbw2
        go_wp2
        go_roundw
        case rel =>
          refine ⟨k + 1, by omega, by go_num, HN.out, ?_, hb3⟩
          have e1 : (textB (L.take (k + 1))).length = (textB (L.take k)).length + (encS r).size := by
            rw [HST.out, List.length_append]; simp
          rw [e1, HST.out]
          simpa [byteC, Lib.strCells] using hown3
        case measure => simp [intOf]; omega
    · obtain rfl : k = L.length := by omega
      rw [List.take_length] at hown
      have HG : Hid (allG L = true) := List.all_eq_true.2 fun r hr => by
        obtain ⟨j, hj, rfl⟩ := List.mem_iff_getElem.1 hr
        have := HALL.out j hj
        simpa [List.getD, hj] using this
      have hcv := conv_own hown
      obtain ⟨ao', cap', hv⟩ : ∃ ao' cap', u4 = .slice ao' (textB L).length cap' := by
        rcases hown.2 with ⟨h1, h2⟩ | ⟨g, c, cur, h1, _⟩
        · exact ⟨none, 0, by rw [h1, h2]⟩
        · exact ⟨_, _, h1⟩
      subst hv
      by_cases ht : (textB L).length ≤ 1000
      · have hy : tB L = true := by unfold tB; rw [HG.out, decide_eq_true hl, decide_eq_true ht]; rfl
        have hsz : ¬ (1000 : Int) < ((textB L).length : Int) := by omega
        have HY : Hid _ := hy
        clear hy
        go_wp2
        go_ret2
        exact ⟨by rw [tS_yes HY.out, HY.out]; rfl, hbw⟩
      · have hn : tB L = false := by unfold tB; rw [decide_eq_false ht, Bool.and_false]
        have hsz : (1000 : Int) < ((textB L).length : Int) := by omega
        have HN : Hid _ := hn
        clear hn
        go_wp2
        go_ret2
        exact ⟨by rw [tS_no HN.out, HN.out]; rfl, hbw⟩
end Go.Proofs.YtflgdfkcgkibgaaDoor
