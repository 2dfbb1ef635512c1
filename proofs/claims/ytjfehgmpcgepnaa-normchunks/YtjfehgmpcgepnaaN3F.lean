/-
  SortMarks of both.
-/
import Derived.Test.YtjfehgmpcgepnaaN3F2
namespace Go.Proofs.Ytjfehgmpcgepnaa
open Go.ChangeShapes Go.WideShapes Go.ChangeAt Go.RowKit
set_option maxRecDepth 100000 in
set_option maxHeartbeats 1000000 in
theorem isort_no (L : List Int) (ao : Option Addr) (cap : Nat) (w : World) (hl : L.length ≤ 1048576) (hh : heldB L = false) (hA : IntsAt w ao L) :
    Calls Try.prog 30 #[.slice ao L.length cap] w fun e w' => e = .returned (.tuple #[.slice none 0 0, .bool false]) ∧ Below w.heap.size w w' := by
  have HA : Hid _ := hA
  have HH : Hid _ := hh
  clear hA hh
  go_enter Try.func30, Try.ntmps30
  go_wp2_with fail
  refine (iheld_any L ao cap _ hl HA.out).mono ?_
  rintro e w1 ⟨rfl, rfl⟩
  rw [HH.out]
  go_wp2
  go_ret2
  exact ⟨rfl, Below.refl _ _⟩
theorem Sts.get_le (s : Sts) (j : Nat) (hj : j ≤ 5) : (s.get j).length ≤ s.all.length := by
  rcases (by omega : j = 0 ∨ j = 1 ∨ j = 2 ∨ j = 3 ∨ j = 4 ∨ j = 5) with rfl | rfl | rfl | rfl | rfl | rfl <;> simp [Sts.get, Sts.all] <;> omega
set_option maxRecDepth 100000 in
set_option maxHeartbeats 8000000 in
theorem isort_yes (L : List Int) (ao : Option Addr) (cap : Nat) (w : World) (hh : heldB L = true) (hA : IntsAt w ao L) :
    Calls Try.prog 30 #[.slice ao L.length cap] w fun e w' => ∃ v, e = .returned (.tuple #[v, .bool true]) ∧ w'.ownsRow w.heap.size 3 1 v (sortL L).length (ints (sortL L)) ∧ Below w.heap.size w w' := by
  obtain ⟨i0, hi, hz0, hz1, hz2⟩ := info_parts Try.info3
  have HA : Hid _ := hA
  have HH : Hid _ := hh
  have hl := (heldB_true hh).1
  have HG : Hid _ := (heldB_true hh).2
  obtain ⟨w1, hmk, how, hgr⟩ := run_make_own (P := Try.prog) w w.heap.size 24 3 i0 (.int .i64 0) 1 Try.underlying24 hi hz0 hz1 .i64 .i64 L.length (by rw [hz2]; omega) (by unfold maxLen; omega) (Nat.le_refl _)
  have hb1 : Below w.heap.size w w1 := Below.grown (Below.refl _ _) hgr (Nat.le_refl _) (fun g hg => by cases hg)
  have HOW : Hid (w1.ownsRow w.heap.size 3 1 (.slice (some ⟨w.heap.size, 0, none⟩) 0 L.length) 0 []) := how
  have HB1 : Hid _ := hb1
  clear hA hh hgr how hb1
  go_enter Try.func30, Try.ntmps30
  go_wp2_with fail
  refine (iheld_any L ao cap _ (by omega) HA.out).mono ?_
  rintro e w' ⟨rfl, rfl⟩
  rw [HH.out]
  go_wp2
  go_loopw [4, 18] (fun v i wr => ∃ (k : Nat) (vf : Nat → Value), k ≤ L.length ∧ i = .int .i64 k ∧ v = vf 0 ∧ BK w wr w1.heap.size vf (stsOf (L.take k)).get) (fun _ i _ => L.length - (intOf i).toNat)
  case atStart => exact ⟨0, _, Nat.zero_le _, rfl, rfl, (BK.start HOW.out HB1.out).congr (fun i hi => by rcases (by omega : i = 0 ∨ i = 1 ∨ i = 2 ∨ i = 3 ∨ i = 4 ∨ i = 5) with rfl | rfl | rfl | rfl | rfl | rfl <;> rfl)⟩
  case round =>
    obtain ⟨k, vf, hk, rfl, rfl, bk⟩ := hrel
    have hR := bk.hi
    generalize w1.heap.size = R at *
    have BKH : Hid (BK w wr R vf (stsOf (L.take k)).get) := bk
    have c0 := bk.cel 0 (by omega)
    have c1 := bk.cel 1 (by omega)
    have c2 := bk.cel 2 (by omega)
    have c3 := bk.cel 3 (by omega)
    have c4 := bk.cel 4 (by omega)
    have f0 := bk.fz 0
    have hlen : (stsOf (L.take k)).all.length ≤ 300 := by have := sortL_len (L.take k); unfold sortL at this; rw [this]; simp; omega
    have hlen2 := hlen
    rw [Sts.get_len] at hlen2
    by_cases hlt : k < L.length
    · have hltI : (k : Int) < (L.length : Int) := by omega
      obtain ⟨b1, o1, rfl, l1, h1⟩ := HA.out k hlt
      have hc : wr.cell? ⟨b1, o1 + k, none⟩ = some (.int .i64 (L.getD k 0)) := (bk.be.cell (p := ⟨b1, o1 + k, none⟩) l1).trans h1
      have hg : goodB (L.getD k 0) = true := allG_true HG.out _ (by simp [List.getD, hlt])
      have HGD : Hid _ := hg
      have HS : Hid (stsOf (L.take (k + 1)) = (stsOf (L.take k)).step (L.getD k 0)) := by
        show stsOf (L.take (k + 1)) = _
        rw [take_snoc L k hlt, stsOf_snoc]
      clear h1 hg bk
      generalize L.getD k 0 = r at *
      generalize stsOf (L.take k) = s at *
      by_cases hm0 : orderN r = 0
      · have HO : Hid _ := hm0
        clear hm0
        go_wp2_with fail
        refine (iorder_any r _).mono ?_
        rintro e w2 ⟨rfl, hw⟩
        obtain rfl := hw.symm
        rw [HO.out, HGD.out]
        clear hw
        go_wp2_with fail
        refine (iapp_any wr w.heap.size (vf 0) (vf 1) (vf 2) (vf 3) (vf 4) (vf 5) (s.get 0) (s.get 1) (s.get 2) (s.get 3) (s.get 4) (s.get 5) (BKH.out.row 0 (by omega)) (BKH.out.row 1 (by omega)) (BKH.out.row 2 (by omega)) (BKH.out.row 3 (by omega)) (BKH.out.row 4 (by omega)) (BKH.out.row 5 (by omega)) (BKH.out.ap 1 0 (by omega) (by omega) (by omega)) (BKH.out.ap 2 0 (by omega) (by omega) (by omega)) (BKH.out.ap 3 0 (by omega) (by omega) (by omega)) (BKH.out.ap 4 0 (by omega) (by omega) (by omega)) (BKH.out.ap 5 0 (by omega) (by omega) (by omega)) (by omega) BKH.out.be.size).mono ?_
        rintro e w2 ⟨u, rfl, al⟩
        have ALH : Hid (AL wr w2 w.heap.size (vf 0) u s.all) := al
        clear al
        go_wp2_with (at_builtin; refine wpA _ rfl _ _ rfl w.heap.size _ _ _ rfl (World.ownsRow.alloc (AL.own ALH.out) _) _ [r] 1 1 rfl rfl (ints_new _ r _ _ rfl) ?c1 ?c2 ?_)
        all_goals try (case c1 => first | omega | (simp; omega))
        all_goals try (case c2 => have h1 := Below.size (BK.be BKH.out); have h2 := World.grownBy.size (AL.gr ALH.out); simp; omega)
        intro v3 w3 hown3 hgr3 hblk3
        have O3 : Hid (w3.ownsRow w.heap.size 3 1 v3 (s.all ++ [r]).length (ints (s.all ++ [r]))) := own_cast hown3 (by first | rfl | simp) (by first | rfl | simp [ints])
        have G3 : Hid (wr.grownBy w3 (vf 0).ownBlock) := grown_then (grown_then (AL.gr ALH.out) (grown_alloc _ _ (vf 0).ownBlock) (.inl rfl)) hgr3 (AL.blk ALH.out)
        have K3 : Hid (v3.ownBlock = (vf 0).ownBlock ∨ ∃ g, v3.ownBlock = some g ∧ wr.heap.size ≤ g) := by
          rcases hblk3 with h | h
          · rw [Hid, h]; exact AL.blk ALH.out
          · have h2 := World.grownBy.size (AL.gr ALH.out); exact .inr ⟨_, h, by first | omega | (simp; omega)⟩
        have GRH : Hid (GR w wr w3 R vf s.get 0) := BK.gr BKH.out 0 (by omega) G3.out
        have hclr := fun ty => run_clear5 w3 R ty (fun j hj => by rw [GRH.out.cel j hj]; rfl) (fun j => GRH.out.fz j)
        have NEW : Hid (BK w (w3.setCells R 0 (List.replicate 5 nilS)) R (fun j => if j = 0 then v3 else nilS) (stsOf (L.take (k + 1))).get) := by
          show BK _ _ _ _ _
          rw [HS.out]
          exact (BK.flush BKH.out G3.out O3.out K3.out).congr (fun j hj => Sts.get_zero s r HO.out j hj)
        clear hown3 hgr3 hblk3
        go_wp2
        go_roundw
        case rel => exact ⟨k + 1, _, by omega, by go_num, rfl, NEW.out⟩
        case measure => simp [intOf]; omega
      · obtain ⟨m, hm5, hm⟩ : ∃ m : Nat, m < 5 ∧ orderN r = (m : Int) + 1 := ⟨(orderN r - 1).toNat, by have := orderN_lo r; have := orderN_hi r; omega, by have := orderN_lo r; omega⟩
        have HO : Hid _ := hm
        have hmI : (m : Int) < 5 := by omega
        have hm1 : (m : Int) + 1 - 1 = (m : Int) := by omega
        have hcm := BKH.out.cel m hm5
        have hfm := BKH.out.fz m
        have hml : ((s.get (m + 1)).length) ≤ 300 := Nat.le_trans (Sts.get_le s (m + 1) (by omega)) hlen
        clear hm0 hm c0 c1 c2 c3 c4 f0
        go_wp2_with fail
        refine (iorder_any r _).mono ?_
        rintro e w2 ⟨rfl, hw⟩
        obtain rfl := hw.symm
        rw [HO.out, HGD.out]
        clear hw
        go_wp2_with (at_builtin; refine wpA _ rfl _ _ rfl w.heap.size _ _ _ rfl (World.ownsRow.alloc (BK.row BKH.out (m + 1) (by omega)) _) _ [r] 1 1 rfl rfl (ints_new _ r _ _ rfl) ?c1 ?c2 ?_)
        all_goals try (case c1 => first | omega | (simp; omega))
        all_goals try (case c2 => have h1 := Below.size (BK.be BKH.out); simp; omega)
        intro v3 w3 hown3 hgr3 hblk3
        have O3 : Hid (w3.ownsRow w.heap.size 3 1 v3 ((s.get (m + 1)).length + 1) (ints (s.get (m + 1)) ++ ints [r])) := own_cast hown3 (by first | rfl | simp) (by first | rfl | simp [ints])
        obtain ⟨N3, hN3⟩ : ∃ N, Hid (N = (s.get (m + 1)).length + 1) := ⟨_, rfl⟩
        obtain ⟨_, a3, c3', rfl, _⟩ := ints_of_own (own_cast (n' := N3) (xs' := ints (s.get (m + 1) ++ [r])) O3.out hN3.out.symm (by simp [ints]))
        have G3 : Hid (wr.grownBy w3 (vf (m + 1)).ownBlock) := grown_then (grown_alloc _ _ (vf (m + 1)).ownBlock) hgr3 (.inl rfl)
        have K3 : Hid (Value.ownBlock (.slice a3 N3 c3') = (vf (m + 1)).ownBlock ∨ ∃ g, Value.ownBlock (.slice a3 N3 c3') = some g ∧ wr.heap.size ≤ g) := by
          rcases hblk3 with h | h
          · exact .inl h
          · exact .inr ⟨_, h, by first | omega | simp⟩
        have GRH : Hid (GR w wr w3 R vf s.get (m + 1)) := BK.gr BKH.out (m + 1) (by omega) G3.out
        have hcs := GRH.out.cel m hm5
        have hfs := GRH.out.fz m
        have NEW : Hid (BK w (w3.setCell ⟨R, m, none⟩ (.slice a3 N3 c3')) R (fun j => if j = m + 1 then .slice a3 N3 c3' else vf j) (stsOf (L.take (k + 1))).get) := by
          show BK _ _ _ _ _
          rw [HS.out]
          exact (BK.put BKH.out m hm5 G3.out O3.out K3.out).congr (fun j hj => Sts.get_step s r m hm5 HO.out j hj)
        clear hown3 hgr3 hblk3
        go_wp2
        go_roundw
        case rel => exact ⟨k + 1, (fun j => if j = m + 1 then .slice a3 N3 c3' else vf j), by omega, by go_num, by simp, by first | exact NEW.out | (rw [← hN3.out]; exact NEW.out)⟩
        case measure => simp [intOf]; omega
    · obtain rfl : k = L.length := by omega
      rw [List.take_length] at *
      clear bk
      go_wp2_with fail
      refine (iapp_any wr w.heap.size (vf 0) (vf 1) (vf 2) (vf 3) (vf 4) (vf 5) _ _ _ _ _ _ (BKH.out.row 0 (by omega)) (BKH.out.row 1 (by omega)) (BKH.out.row 2 (by omega)) (BKH.out.row 3 (by omega)) (BKH.out.row 4 (by omega)) (BKH.out.row 5 (by omega)) (BKH.out.ap 1 0 (by omega) (by omega) (by omega)) (BKH.out.ap 2 0 (by omega) (by omega) (by omega)) (BKH.out.ap 3 0 (by omega) (by omega) (by omega)) (BKH.out.ap 4 0 (by omega) (by omega) (by omega)) (BKH.out.ap 5 0 (by omega) (by omega) (by omega)) (by omega) BKH.out.be.size).mono ?_
      rintro e w2 ⟨u, rfl, al⟩
      have ALH : Hid (AL wr w2 w.heap.size (vf 0) u (sortL L)) := al
      have B2 : Hid (Below w.heap.size w w2) := Below.grown (BK.be BKH.out) al.gr (Below.size (BK.be BKH.out)) (fun g hg => ((BK.row BKH.out 0 (by omega)).lt g hg).1)
      clear al
      go_wp2
      go_ret2
      exact ⟨_, rfl, ALH.out.own, B2.out⟩
end Go.Proofs.Ytjfehgmpcgepnaa
