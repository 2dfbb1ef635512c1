/-
  Contracts of spec.l1AllRunes, spec.TextOf and impl.TextOf.
-/
import Derived.Test.YtdhppigjlldfmaaDoorTxt
import Derived.Test.YtdhppigjlldfmaaDoorRof
import Derived.Test.YtdhppigjlldfmaaDoorUtf
import Derived.Test.YtdhppigjlldfmaaDoorAlls
namespace Go.Proofs.YtdhppigjlldfmaaDoor
open Go.ChangeShapes Go.WideShapes Go.ChangeAt Go.RowKit
/-- Whether runes have a text. -/
def tB (L : List Int) : Bool := decide (L.length ≤ 1000) && allG L && decide ((textB L).length ≤ 1000)
def tS (L : List Int) : ByteArray := if tB L then textS L else ⟨#[]⟩
theorem tS_yes {L : List Int} (h : tB L = true) : tS L = textS L := by simp [tS, h]
theorem tS_no {L : List Int} (h : tB L = false) : tS L = ⟨#[]⟩ := by simp [tS, h]
set_option maxRecDepth 100000 in
set_option maxHeartbeats 1000000 in
theorem itext_big (L : List Int) (ao : Option Addr) (cap : Nat) (w : World) (hl : (1000 : Int) < L.length) :
    Calls Tryd.prog 11 #[.slice ao L.length cap] w fun e w' => e = .returned (.tuple #[.string (tS L), .bool (tB L)]) ∧ Below w.heap.size w w' := by
  have hn : tB L = false := by unfold tB; rw [decide_eq_false (by omega : ¬ L.length ≤ 1000)]; rfl
  rw [tS_no hn, hn]
  clear hn
  go_enter Tryd.func11, Tryd.ntmps11
  go_wp2
  go_ret2
  exact ⟨rfl, Below.refl _ _⟩
set_option maxRecDepth 100000 in
set_option maxHeartbeats 2000000 in
theorem itext_any (L : List Int) (ao : Option Addr) (cap : Nat) (w : World) (hl : L.length ≤ 1000) (hA : IntsAt w ao L) (hT : Tabs w) :
    Calls Tryd.prog 11 #[.slice ao L.length cap] w fun e w' => e = .returned (.tuple #[.string (tS L), .bool (tB L)]) ∧ Below w.heap.size w w' := by
  obtain ⟨i0, hi, hz0, hz1, hz2⟩ := info_parts Tryd.info5
  have HA : Hid _ := hA
  have HT : Hid _ := hT
  have h1000 : ¬ (1000 : Int) < (L.length : Int) := by omega
  clear hA hT
  go_enter Tryd.func11, Tryd.ntmps11
  go_wp2_with (at_make; refine wpList_make_own _ rfl _ _ 30 rfl w.heap.size 5 i0 (.int .u8 0) 1 Tryd.underlying30 hi hz0 hz1 _ _ _ L.length rfl rfl rfl (by rw [hz2]; omega) (by unfold maxLen; omega) (Nat.le_refl _) ?_)
  intro w1 hown1 hg1
  have hb1 : Below w.heap.size w w1 := Below.grown (Below.refl _ _) hg1 (Nat.le_refl _) (fun k hk => by cases hk)
  clear hg1
  go_wp2
  go_loopw [4, 17] (fun v i wr => ∃ k : Nat, k ≤ L.length ∧ i = .int .i64 k ∧ (∀ j, j < k → goodB (L.getD j 0) = true) ∧ wr.ownsRow w.heap.size 5 1 v (textB (L.take k)).length (byteC (textB (L.take k))) ∧ Below w.heap.size w wr) (fun _ i _ => L.length - (intOf i).toNat)
  case atStart => exact ⟨0, Nat.zero_le _, rfl, fun j hj => absurd hj (by omega), hown1, hb1⟩
  case round =>
    obtain ⟨k, hk, rfl, hall, hown, hbw⟩ := hrel
    have HALL : Hid _ := hall
    clear hall hown1 hb1
    by_cases hlt : k < L.length
    · have hltI : (k : Int) < (L.length : Int) := by omega
      obtain ⟨b1, o1, rfl, l1, h1⟩ := HA.out k hlt
      have g1 : wr.cell? ⟨b1, o1 + k, none⟩ = some (.int .i64 (L.getD k 0)) := (hbw.cell (p := ⟨b1, o1 + k, none⟩) l1).trans h1
      have HTW : Hid _ := HT.out.below hbw
      clear h1
      cases hgd : goodB (L.getD k 0)
      · have HG : Hid _ := hgd
        have HB : Hid (tB L = false) := by
          show tB L = false
          unfold tB; rw [allG_bad hlt hgd, Bool.and_false]; rfl
        clear hgd
        generalize L.getD k 0 = r at *
        go_wp2_with (go_at_call 14; refine (iutf_no r _ HG.out).mono ?_; rintro e w' ⟨rfl, rfl⟩)
        go_ret2
        exact ⟨by rw [tS_no HB.out, HB.out]; rfl, hbw⟩
      · have HG : Hid _ := hgd
        have HN : Hid (∀ j, j < k + 1 → goodB (L.getD j 0) = true) := fun j hj => by
          by_cases e : j = k
          · subst e; exact hgd
          · exact HALL.out j (by omega)
        have HST : Hid _ := textB_step L k hlt
        have hlen : (textB (L.take k)).length ≤ 4000 := by have := (textB_len (L.take k)).2; have := List.length_take_le k L; omega
        have hes : (encS (L.getD k 0)).size ≤ 4 := by have := encN_len (L.getD k 0); rw [encS_size]; omega
        clear hgd
        generalize L.getD k 0 = r at *
        go_wp2_with fail
        refine (iutf_any r _ HG.out HTW.out).mono ?_
        rintro e w2 ⟨rfl, hb2⟩
        have hown2 := ownsRow_below hown hb2
        have hbw2 := hbw.trans (hb2.mono hbw.size)
        clear hown hbw hb2 g1
        go_wp2_with (at_builtin; refine Lib.wpList_append_own_string _ rfl _ _ 30 9 rfl w.heap.size 5 i0 Tryd.underlying30 Tryd.underlying9 hi hz0 hz1 hz2 _ _ _ rfl hown2 (encS r) rfl ?c1 ?c2 ?c3 ?_)
        case c1 => unfold maxLen; omega
        case c2 => omega
        case c3 => exact hbw2.size
        intro v' w3 hown3 hgrow _
        have hb3 : Below w.heap.size w w3 := Below.grown hbw2 hgrow hbw2.size (fun g hg => (hown2.lt g hg).1)
        clear hgrow hown2 hbw2
        go_wp2
        go_roundw
        case rel =>
          refine ⟨k + 1, by omega, by go_num, HN.out, ?_, hb3⟩
          have e1 : (textB (L.take (k + 1))).length = (textB (L.take k)).length + (encS r).size := by
            rw [HST.out, List.length_append]; simp
          rw [e1, HST.out]
          simpa [byteC, Lib.strCells] using hown3
        case measure => simp [intOf]; omega
    · obtain rfl : k = L.length := by omega
      rw [List.take_length] at hown
      have HG : Hid (allG L = true) := List.all_eq_true.2 fun r hr => by
        obtain ⟨j, hj, rfl⟩ := List.mem_iff_getElem.1 hr
        have := HALL.out j hj
        simpa [List.getD, hj] using this
      have hcv := conv_own hown
      obtain ⟨ao', cap', hv⟩ : ∃ ao' cap', u4 = .slice ao' (textB L).length cap' := by
        rcases hown.2 with ⟨h1, h2⟩ | ⟨g, c, cur, h1, _⟩
        · exact ⟨none, 0, by rw [h1, h2]⟩
        · exact ⟨_, _, h1⟩
      subst hv
      by_cases ht : (textB L).length ≤ 1000
      · have hy : tB L = true := by unfold tB; rw [HG.out, decide_eq_true hl, decide_eq_true ht]; rfl
        have hsz : ¬ (1000 : Int) < ((textB L).length : Int) := by omega
        have HY : Hid _ := hy
        clear hy
        go_wp2
        go_ret2
        exact ⟨by rw [tS_yes HY.out, HY.out]; rfl, hbw⟩
      · have hn : tB L = false := by unfold tB; rw [decide_eq_false ht, Bool.and_false]
        have hsz : (1000 : Int) < ((textB L).length : Int) := by omega
        have HN : Hid _ := hn
        clear hn
        go_wp2
        go_ret2
        exact ⟨by rw [tS_no HN.out, HN.out]; rfl, hbw⟩
end Go.Proofs.YtdhppigjlldfmaaDoor
