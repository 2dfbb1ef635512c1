/-
  The short pattern of a list of runes: GlobOf of the specification and of the program.
-/
import Derived.Test.YtdhppigjlldfmaaDoorG9A
import Derived.Test.YtdhppigjlldfmaaDoorN3E
namespace Go.Proofs.YtdhppigjlldfmaaDoor
open Go.ChangeShapes Go.WideShapes Go.ChangeAt Go.RowKit
theorem al_G (w : World) (o : Obj) : Below w.heap.size w (w.alloc o) := (Below.refl _ _).alloc (Nat.le_refl _) o
theorem push_below {w0 w w5 : World} {o : Obj} {base n : Nat} {v : Value} {xs : List Value} (hO : w.ownsRow base 3 1 v n xs) (hB : Below base w0 w) (hz : base ≤ w.heap.size) (hg : (w.alloc o).grownBy w5 v.ownBlock) : Below base w0 w5 ∧ base ≤ w5.heap.size := by
  have h1 : base ≤ (w.alloc o).heap.size := Nat.le_trans hz (al_G w o).size
  exact ⟨Below.grown (hB.trans ((al_G w o).mono hz)) hg h1 (fun g e => (World.ownsRow.lt hO g e).1), Nat.le_trans h1 hg.size⟩
theorem mk1_yes {x : Int} (h : isMk x = true) : mk1 x = [92, x] := by unfold mk1; rw [if_pos h]
theorem mk1_no {x : Int} (h : isMk x = false) : mk1 x = [x] := by unfold mk1; rw [if_neg (by rw [h]; decide)]
theorem row_two {L : List Int} {k : Nat} (h : k < L.length) (hm : isMk (L.getD k 0) = true) {w : World} {base : Nat} {v : Value} (ho : w.ownsRow base 3 1 v ((mkL (L.take k)).length + 1 + 1) (ints (mkL (L.take k)) ++ [.int .i64 92, .int .i64 (L.getD k 0)])) : w.ownsRow base 3 1 v (mkL (L.take (k + 1))).length (ints (mkL (L.take (k + 1)))) := by
  rw [mkL_step L k h, mk1_yes hm]
  have e1 : (mkL (L.take k) ++ [92, L.getD k 0]).length = (mkL (L.take k)).length + 1 + 1 := by simp
  have e2 : ints (mkL (L.take k) ++ [92, L.getD k 0]) = ints (mkL (L.take k)) ++ [.int .i64 92, .int .i64 (L.getD k 0)] := by simp [ints]
  rw [e1, e2]
  exact ho
theorem row_one {L : List Int} {k : Nat} (h : k < L.length) (hm : isMk (L.getD k 0) = false) {w : World} {base : Nat} {v : Value} (ho : w.ownsRow base 3 1 v ((mkL (L.take k)).length + 1) (ints (mkL (L.take k)) ++ ints [L.getD k 0])) : w.ownsRow base 3 1 v (mkL (L.take (k + 1))).length (ints (mkL (L.take (k + 1)))) := by
  rw [mkL_step L k h, mk1_no hm]
  have e1 : (mkL (L.take k) ++ [L.getD k 0]).length = (mkL (L.take k)).length + 1 := by simp
  have e2 : ints (mkL (L.take k) ++ [L.getD k 0]) = ints (mkL (L.take k)) ++ ints [L.getD k 0] := by simp [ints]
  rw [e1, e2]
  exact ho
set_option maxRecDepth 100000 in
set_option maxHeartbeats 2000000 in
theorem iglobOf_any (L : List Int) (ao : Option Addr) (cap : Nat) (w : World) (hA : IntsAt w ao L) (hT : Tabs w) :
    Calls Tryd.prog 6 #[.slice ao L.length cap] w fun e w' => e = .returned (.tuple #[.string (gS L), .bool (gB L)]) ∧ Below w.heap.size w w' := by
  by_cases h20 : L.length ≤ 20
  case neg =>
    have hI : (20 : Int) < (L.length : Int) := by omega
    have hn : gB L = false := by unfold gB; rw [decide_eq_false h20]; rfl
    rw [gS_no hn, hn]
    go_enter Tryd.func6, Tryd.ntmps6
    go_wp2
    go_ret2
    exact ⟨rfl, Below.refl _ _⟩
  have hI : ¬ (20 : Int) < (L.length : Int) := by omega
  have HA : Hid _ := hA
  have HT : Hid _ := hT
  clear hA hT
  obtain ⟨n, hn⟩ : ∃ n, n = L.length := ⟨_, rfl⟩
  have HN : Hid (n = L.length) := hn
  have HTB : Hid (tB (mkL L) = gB L ∧ tS (mkL L) = gS L) := ⟨tB_mk h20, tS_mk h20⟩
  rw [← hn] at h20 hI ⊢
  clear hn
  go_enter Tryd.func6, Tryd.ntmps6
  go_wp2
  go_loopw [4, 12] (fun v i wr => ∃ k : Nat, k ≤ n ∧ i = .int .i64 k ∧ wr.ownsRow w.heap.size 3 1 v (mkL (L.take k)).length (ints (mkL (L.take k))) ∧ Below w.heap.size w wr) (fun _ i _ => n - (intOf i).toNat)
  case atStart => exact ⟨0, Nat.zero_le _, rfl, by rw [List.take_zero]; exact World.ownsRow_nil _ _ _ _, Below.refl _ _⟩
  case round =>
    obtain ⟨k, hk, rfl, hO, hbw⟩ := hrel
    have HO : Hid (wr.ownsRow w.heap.size 3 1 u4 (mkL (L.take k)).length (ints (mkL (L.take k)))) := hO
    have BW : Hid (Below w.heap.size w wr) := hbw
    clear hO hbw
    by_cases hlt : k < n
    · have hltI : (k : Int) < (n : Int) := by omega
      have hkL : k < L.length := by have := HN.out; omega
      obtain ⟨b1, o1, rfl, l1, h1⟩ := HA.out k hkL
      have g1 : wr.cell? ⟨b1, o1 + k, none⟩ = some (.int .i64 (L.getD k 0)) := (BW.out.cell (p := ⟨b1, o1 + k, none⟩) l1).trans h1
      have hml := mkL_take L k
      have HML : Hid ((mkL (L.take k)).length ≤ 40) := (by omega : (mkL (L.take k)).length ≤ 40)
      have EO : Hid (∀ o, (wr.alloc o).ownsRow w.heap.size 3 1 u4 (mkL (L.take k)).length (ints (mkL (L.take k)))) := fun o => World.ownsRow.keepB HO.out (al_G wr o)
      have HZ : Hid (∀ o, w.heap.size ≤ (wr.alloc o).heap.size) := fun o => Nat.le_trans BW.out.size (al_G wr o).size
      have HMK : Hid (Calls Tryd.prog 10 #[.int .i64 (L.getD k 0)] wr fun e w' => e = .returned (.bool (isMk (L.getD k 0))) ∧ w' = wr) := isMark_any _ _
      clear hml h1
      cases hm : isMk (L.getD k 0) with
      | true =>
        rw [hm] at HMK
        have HM : Hid (isMk (L.getD k 0) = true) := hm
        have RT : Hid (∀ (w : World) base v, w.ownsRow base 3 1 v ((mkL (L.take k)).length + 1 + 1) (ints (mkL (L.take k)) ++ [.int .i64 92, .int .i64 (L.getD k 0)]) → w.ownsRow base 3 1 v (mkL (L.take (k + 1))).length (ints (mkL (L.take (k + 1))))) := fun w base v => row_two hkL hm
        clear hm
        generalize L.getD k 0 = x at *
        go_wp2_with fail
        refine Calls.mono HMK.out ?_
        rintro e w' ⟨rfl, rfl⟩
        go_wp2_with (at_builtin; refine wpA _ rfl (.tmp 18) (.tmp 19) rfl w.heap.size u4 (mkL (L.take k)).length (ints (mkL (L.take k))) rfl (EO.out _) (some ⟨w'.heap.size, 0, none⟩) [92] 1 1 rfl rfl (ints_new _ _ 3 _ rfl) (by have := HML.out; omega) (HZ.out _) ?_)
        intro v5 w5 hr hg hat
        have PB : Hid _ := push_below HO.out BW.out BW.out.size hg
        have O5 : Hid _ := hr
        clear hr hg hat
        have EO5 : Hid (∀ o, (w5.alloc o).ownsRow w.heap.size 3 1 v5 ((mkL (L.take k)).length + 1) (ints (mkL (L.take k)) ++ ints [92])) := fun o => World.ownsRow.keepB O5.out (al_G w5 o)
        have HZ5 : Hid (∀ o, w.heap.size ≤ (w5.alloc o).heap.size) := fun o => Nat.le_trans PB.out.2 (al_G w5 o).size
        go_wp2_with (at_builtin; refine wpA _ rfl (.tmp 21) (.tmp 23) rfl w.heap.size v5 ((mkL (L.take k)).length + 1) (ints (mkL (L.take k)) ++ ints [92]) rfl (EO5.out _) (some ⟨w5.heap.size, 0, none⟩) [x] 1 1 rfl rfl (ints_new _ _ 3 _ rfl) (by have := HML.out; omega) (HZ5.out _) ?_)
        intro v6 w6 hr hg hat
        have PB6 : Hid _ := push_below O5.out PB.out.1 PB.out.2 hg
        have O6 : Hid _ := RT.out _ _ _ hr
        clear hr hg hat
        go_wp2
        go_roundw
        case rel => exact ⟨k + 1, by omega, by go_num, O6.out, PB6.out.1⟩
        case measure => simp [intOf]; omega
      | false =>
        rw [hm] at HMK
        have RT : Hid (∀ (w : World) base v, w.ownsRow base 3 1 v ((mkL (L.take k)).length + 1) (ints (mkL (L.take k)) ++ ints [L.getD k 0]) → w.ownsRow base 3 1 v (mkL (L.take (k + 1))).length (ints (mkL (L.take (k + 1))))) := fun w base v => row_one hkL hm
        clear hm
        generalize L.getD k 0 = x at *
        go_wp2_with fail
        refine Calls.mono HMK.out ?_
        rintro e w' ⟨rfl, rfl⟩
        go_wp2_with (at_builtin; refine wpA _ rfl (.tmp 21) (.tmp 23) rfl w.heap.size u4 (mkL (L.take k)).length (ints (mkL (L.take k))) rfl (EO.out _) (some ⟨w'.heap.size, 0, none⟩) [x] 1 1 rfl rfl (ints_new _ _ 3 _ rfl) (by have := HML.out; omega) (HZ.out _) ?_)
        intro v6 w6 hr hg hat
        have PB6 : Hid _ := push_below HO.out BW.out BW.out.size hg
        have O6 : Hid _ := RT.out _ _ _ hr
        clear hr hg hat
        go_wp2
        go_roundw
        case rel => exact ⟨k + 1, by omega, by go_num, O6.out, PB6.out.1⟩
        case measure => simp [intOf]; omega
    · obtain rfl : k = n := by omega
      have hltI : ¬ (k : Int) < (k : Int) := by omega
      have hOL : wr.ownsRow w.heap.size 3 1 u4 (mkL L).length (ints (mkL L)) := by
        have := HO.out
        rwa [HN.out, List.take_length] at this
      obtain ⟨-, av, cv, rfl, iv⟩ := ints_of_own hOL
      have hml := mkL_len L
      have HTX : Hid (Calls Tryd.prog 11 #[.slice av (mkL L).length cv] wr fun e w'' => e = .returned (.tuple #[.string (gS L), .bool (gB L)]) ∧ Below wr.heap.size wr w'') := by
        have := itext_any (mkL L) av cv wr (by have := HN.out; omega) iv (HT.out.below BW.out)
        rwa [HTB.out.1, HTB.out.2] at this
      obtain ⟨gs, hgs⟩ : ∃ gs, gs = gS L := ⟨_, rfl⟩
      obtain ⟨gb, hgb⟩ : ∃ gb, gb = gB L := ⟨_, rfl⟩
      rw [← hgs, ← hgb] at HTX
      have HGS : Hid _ := hgs
      have HGB : Hid _ := hgb
      clear hOL iv hml hgs hgb
      go_wp2_with fail
      refine Calls.mono HTX.out ?_
      rintro e w2 ⟨rfl, b2⟩
      have B2 : Hid (Below w.heap.size w w2) := BW.out.trans (b2.mono BW.out.size)
      clear b2
      go_wp2
      go_ret2
      exact ⟨by rw [← HGS.out, ← HGB.out] <;> rfl, B2.out⟩
set_option maxRecDepth 100000 in
set_option maxHeartbeats 2000000 in
theorem sglobOf_any (L : List Int) (ao : Option Addr) (cap : Nat) (w : World) (hl : L.length ≤ 1048576) (hA : IntsAt w ao L) :
    Calls Tryd.prog 4 #[.slice ao L.length cap] w fun e w' => e = .returned (.tuple #[.string (gS L), .bool (gB L)]) ∧ Below w.heap.size w w' := by
  have HALL : Hid (Calls Tryd.prog 8 #[.slice ao L.length cap] w fun e w' => e = .returned (.bool (allG L && decide (L.length ≤ 1000))) ∧ Below w.heap.size w w') := all_any L ao cap w hl hA
  cases hg : (allG L && decide (L.length ≤ 1000)) with
  | false =>
    have hn : gB L = false := by
      unfold gB
      by_cases h : L.length ≤ 20
      · rw [decide_eq_true (show L.length ≤ 1000 by omega), Bool.and_true] at hg
        rw [hg, Bool.and_false]
      · rw [decide_eq_false h]; rfl
    rw [hg] at HALL
    rw [gS_no hn, hn]
    clear hg hn hA
    go_enter Tryd.func4, Tryd.ntmps4
    go_wp2_with fail
    refine Calls.mono HALL.out ?_
    rintro e w1 ⟨rfl, b1⟩
    go_wp2
    go_ret2
    exact ⟨rfl, b1⟩
  | true =>
    have hga : allG L = true := by rw [Bool.and_eq_true] at hg; exact hg.1
    rw [hg] at HALL
    by_cases h20 : L.length ≤ 20
    case neg =>
      have hI : (20 : Int) < (L.length : Int) := by omega
      have hn : gB L = false := by unfold gB; rw [decide_eq_false h20]; rfl
      rw [gS_no hn, hn]
      clear hg hn hA hga
      go_enter Tryd.func4, Tryd.ntmps4
      go_wp2_with fail
      refine Calls.mono HALL.out ?_
      rintro e w1 ⟨rfl, b1⟩
      go_wp2
      go_ret2
      exact ⟨rfl, b1⟩
    have hI : ¬ (20 : Int) < (L.length : Int) := by omega
    have hy : gB L = true := by unfold gB; rw [decide_eq_true h20, hga]; rfl
    rw [gS_yes hy, hy]
    have HA : Hid _ := hA
    have HG : Hid (∀ r ∈ mkL L, goodB r = true) := allG_true (by rw [mkL_good]; exact hga)
    clear hA hg hy hga
    obtain ⟨n, hn⟩ : ∃ n, n = L.length := ⟨_, rfl⟩
    have HN : Hid (n = L.length) := hn
    rw [← hn] at h20 hI HALL ⊢
    clear hn hl
    go_enter Tryd.func4, Tryd.ntmps4
    go_wp2_with fail
    refine Calls.mono HALL.out ?_
    rintro e w1 ⟨rfl, b1⟩
    have B1 : Hid (Below w.heap.size w w1) := b1
    clear b1
    go_wp2
    go_loopw [4, 17] (fun v i wr => ∃ k : Nat, k ≤ n ∧ i = .int .i64 k ∧ wr.ownsRow w.heap.size 3 1 v (mkL (L.take k)).length (ints (mkL (L.take k))) ∧ Below w.heap.size w wr) (fun _ i _ => n - (intOf i).toNat)
    case atStart => exact ⟨0, Nat.zero_le _, rfl, by rw [List.take_zero]; exact World.ownsRow_nil _ _ _ _, B1.out⟩
    case round =>
      obtain ⟨k, hk, rfl, hO, hbw⟩ := hrel
      have HO : Hid (wr.ownsRow w.heap.size 3 1 u4 (mkL (L.take k)).length (ints (mkL (L.take k)))) := hO
      have BW : Hid (Below w.heap.size w wr) := hbw
      clear hO hbw
      by_cases hlt : k < n
      · have hltI : (k : Int) < (n : Int) := by omega
        have hkL : k < L.length := by have := HN.out; omega
        obtain ⟨b1, o1, rfl, l1, h1⟩ := HA.out k hkL
        have g1 : wr.cell? ⟨b1, o1 + k, none⟩ = some (.int .i64 (L.getD k 0)) := (BW.out.cell (p := ⟨b1, o1 + k, none⟩) l1).trans h1
        have hml := mkL_take L k
        have HML : Hid ((mkL (L.take k)).length ≤ 40) := (by omega : (mkL (L.take k)).length ≤ 40)
        have EO : Hid (∀ o, (wr.alloc o).ownsRow w.heap.size 3 1 u4 (mkL (L.take k)).length (ints (mkL (L.take k)))) := fun o => World.ownsRow.keepB HO.out (al_G wr o)
        have HZ : Hid (∀ o, w.heap.size ≤ (wr.alloc o).heap.size) := fun o => Nat.le_trans BW.out.size (al_G wr o).size
        clear hml h1
        cases hm : isMk (L.getD k 0) with
        | true =>
          have RT : Hid (∀ (w : World) base v, w.ownsRow base 3 1 v ((mkL (L.take k)).length + 1 + 1) (ints (mkL (L.take k)) ++ [.int .i64 92, .int .i64 (L.getD k 0)]) → w.ownsRow base 3 1 v (mkL (L.take (k + 1))).length (ints (mkL (L.take (k + 1))))) := fun w base v => row_two hkL hm
          have hcases := isMk_yes hm
          clear hm
          generalize L.getD k 0 = x at *
          rcases hcases with rfl | rfl | rfl | rfl
          all_goals
            go_wp2_with (at_builtin; refine wpA _ rfl (.tmp 35) (.tmp 36) rfl w.heap.size u4 (mkL (L.take k)).length (ints (mkL (L.take k))) rfl (EO.out _) (some ⟨wr.heap.size, 0, none⟩) [92] 1 1 rfl rfl (ints_new _ _ 3 _ rfl) (by have := HML.out; omega) (HZ.out _) ?_)
            intro v5 w5 hr hg hat
            have PB : Hid _ := push_below HO.out BW.out BW.out.size hg
            have O5 : Hid _ := hr
            clear hr hg hat
            have EO5 : Hid (∀ o, (w5.alloc o).ownsRow w.heap.size 3 1 v5 ((mkL (L.take k)).length + 1) (ints (mkL (L.take k)) ++ ints [92])) := fun o => World.ownsRow.keepB O5.out (al_G w5 o)
            have HZ5 : Hid (∀ o, w.heap.size ≤ (w5.alloc o).heap.size) := fun o => Nat.le_trans PB.out.2 (al_G w5 o).size
            go_wp2_with (at_builtin; refine wpA _ rfl (.tmp 38) (.tmp 40) rfl w.heap.size v5 ((mkL (L.take k)).length + 1) (ints (mkL (L.take k)) ++ ints [92]) rfl (EO5.out _) (some ⟨w5.heap.size, 0, none⟩) _ 1 1 rfl rfl (ints_new _ _ 3 _ rfl) (by have := HML.out; omega) (HZ5.out _) ?_)
            intro v6 w6 hr hg hat
            have PB6 : Hid _ := push_below O5.out PB.out.1 PB.out.2 hg
            have O6 : Hid _ := RT.out _ _ _ hr
            clear hr hg hat
            go_wp2
            go_roundw
            case rel => exact ⟨k + 1, by omega, by go_num, O6.out, PB6.out.1⟩
            case measure => simp [intOf]; omega
        | false =>
          have RT : Hid (∀ (w : World) base v, w.ownsRow base 3 1 v ((mkL (L.take k)).length + 1) (ints (mkL (L.take k)) ++ ints [L.getD k 0]) → w.ownsRow base 3 1 v (mkL (L.take (k + 1))).length (ints (mkL (L.take (k + 1))))) := fun w base v => row_one hkL hm
          obtain ⟨e1, e2, e3, e4⟩ := isMk_no hm
          clear hm
          generalize L.getD k 0 = x at *
          have d1 : decide (x = 42) = false := decide_eq_false e1
          have d2 : decide (x = 63) = false := decide_eq_false e2
          have d3 : decide (x = 91) = false := decide_eq_false e3
          have d4 : decide (x = 92) = false := decide_eq_false e4
          have c1 : (x == 42) = false := by simpa using e1
          have c2 : (x == 63) = false := by simpa using e2
          have c3 : (x == 91) = false := by simpa using e3
          have c4 : (x == 92) = false := by simpa using e4
          go_wp2_with (at_builtin; refine wpA _ rfl (.tmp 38) (.tmp 40) rfl w.heap.size u4 (mkL (L.take k)).length (ints (mkL (L.take k))) rfl (EO.out _) (some ⟨wr.heap.size, 0, none⟩) [x] 1 1 rfl rfl (ints_new _ _ 3 _ rfl) (by have := HML.out; omega) (HZ.out _) ?_)
          intro v6 w6 hr hg hat
          have PB6 : Hid _ := push_below HO.out BW.out BW.out.size hg
          have O6 : Hid _ := RT.out _ _ _ hr
          clear hr hg hat
          go_wp2
          go_roundw
          case rel => exact ⟨k + 1, by omega, by go_num, O6.out, PB6.out.1⟩
          case measure => simp [intOf]; omega
      · obtain rfl : k = n := by omega
        have hltI : ¬ (k : Int) < (k : Int) := by omega
        have hOL : wr.ownsRow w.heap.size 3 1 u4 (mkL L).length (ints (mkL L)) := by
          have := HO.out
          rwa [HN.out, List.take_length] at this
        obtain ⟨-, av, cv, rfl, iv⟩ := ints_of_own hOL
        have hml := mkL_len L
        have HTX : Hid (Calls Tryd.prog 9 #[.slice av (mkL L).length cv] wr fun e w'' => e = .returned (.string (textS (mkL L))) ∧ Below wr.heap.size wr w'') := text_of_any (mkL L) av cv wr (by have := HN.out; omega) HG.out iv
        obtain ⟨gs, hgs⟩ : ∃ gs, gs = textS (mkL L) := ⟨_, rfl⟩
        rw [← hgs] at HTX
        have HGS : Hid _ := hgs
        clear hOL iv hml hgs
        go_wp2_with fail
        refine Calls.mono HTX.out ?_
        rintro e w2 ⟨rfl, b2⟩
        have B2 : Hid (Below w.heap.size w w2) := BW.out.trans (b2.mono BW.out.size)
        clear b2
        go_wp2
        go_ret2
        exact ⟨by rw [← HGS.out] <;> rfl, B2.out⟩
end Go.Proofs.YtdhppigjlldfmaaDoor
