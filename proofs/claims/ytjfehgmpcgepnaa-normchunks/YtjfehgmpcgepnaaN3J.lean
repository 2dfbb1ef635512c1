/-
  JoinAll of the program.
-/
import Derived.Test.YtjfehgmpcgepnaaN3I
namespace Go.Proofs.Ytjfehgmpcgepnaa
open Go.ChangeShapes Go.WideShapes Go.ChangeAt Go.RowKit
set_option maxRecDepth 100000 in
set_option maxHeartbeats 16000000 in
theorem ijoinAll_yes (L : List Int) (ao : Option Addr) (cap : Nat) (w : World) (hh : heldB L = true) (hA : IntsAt w ao L) :
    Calls Try.prog 31 #[.slice ao L.length cap] w fun e w' => ∃ v, e = .returned (.tuple #[v, .bool true]) ∧ w'.ownsRow w.heap.size 3 1 v (joinL L).length (ints (joinL L)) ∧ Below w.heap.size w w' := by
  obtain ⟨i0, hi, hz0, hz1, hz2⟩ := info_parts Try.info3
  have HA : Hid _ := hA
  have HH : Hid _ := hh
  have hl := (heldB_true hh).1
  have HG : Hid _ := (heldB_true hh).2
  obtain ⟨w1, hmk, how, hgr⟩ := run_make_own (P := Try.prog) w w.heap.size 24 3 i0 (.int .i64 0) 1 Try.underlying24 hi hz0 hz1 .i64 .i64 L.length (by rw [hz2]; omega) (by unfold maxLen; omega) (Nat.le_refl _)
  have hb1 : Below w.heap.size w w1 := Below.grown (Below.refl _ _) hgr (Nat.le_refl _) (fun g hg => by cases hg)
  have HOW : Hid (w1.ownsRow w.heap.size 3 1 (.slice (some ⟨w.heap.size, 0, none⟩) 0 L.length) 0 []) := how
  have HB1 : Hid _ := hb1
  clear hA hh hgr how hb1
  go_enter Try.func31, Try.ntmps31
  go_wp2_with fail
  refine (iheld_any L ao cap _ (by omega) HA.out).mono ?_
  rintro e w' ⟨rfl, rfl⟩
  rw [HH.out]
  go_wp2
  go_loopw [4, 5, 6, 21] (fun v bv tv i wr => ∃ k : Nat, k ≤ L.length ∧ i = .int .i64 k ∧ bv = .int .i64 (jtsOf (L.take k)).at ∧ tv = .int .i64 (topN (jtsOf (L.take k)).ms) ∧ wr.ownsRow w.heap.size 3 1 v (jtsOf (L.take k)).all.length (ints (jtsOf (L.take k)).all) ∧ Below w.heap.size w wr) (fun _ _ _ i _ => L.length - (intOf i).toNat)
  case atStart => exact ⟨0, Nat.zero_le _, rfl, rfl, rfl, HOW.out, HB1.out⟩
  case round =>
    obtain ⟨k, hk, rfl, rfl, rfl, hown, hbw⟩ := hrel
    clear hmk
    by_cases hlt : k < L.length
    · have hltI : (k : Int) < (L.length : Int) := by omega
      obtain ⟨b1, o1, rfl, l1, h1⟩ := HA.out k hlt
      have hc : wr.cell? ⟨b1, o1 + k, none⟩ = some (.int .i64 (L.getD k 0)) := (hbw.cell (p := ⟨b1, o1 + k, none⟩) l1).trans h1
      have HGD : Hid (goodB (L.getD k 0) = true) := allG_true HG.out _ (by simp [List.getD, hlt])
      have HSTEP : Hid _ := joinL_snoc L k hlt
      have hgood := jtsOf_good (L.take k)
      have hlen : (jtsOf (L.take k)).all.length ≤ 1000 := by have := Jts.fold_len (L.take k); simp at this; omega
      clear h1
      generalize L.getD k 0 = r at *
      generalize jtsOf (L.take k) = s at *
      obtain ⟨N, hN⟩ : ∃ N, s.all.length = N := ⟨_, rfl⟩
      rw [hN] at hown hlen
      have HN : Hid (s.all.length = N) := hN
      have OW : Hid (wr.ownsRow w.heap.size 3 1 _ N (ints s.all)) := hown
      have BWH : Hid _ := hbw
      obtain ⟨ga, gc, rfl⟩ : ∃ ga gc, u4 = Value.slice ga N gc := by
        rcases hown.2 with ⟨h1, h2⟩ | ⟨g, cap', cur, h1, _⟩
        · exact ⟨none, 0, by rw [h1, h2]⟩
        · exact ⟨_, _, h1⟩
      clear hown hbw hN
      obtain ⟨o, ho⟩ : ∃ o, orderN r = o := ⟨_, rfl⟩
      have HO : Hid (orderN r = o) := ho
      have o0 : 0 ≤ o := by have := orderN_lo r; omega
      have o5 : o ≤ 5 := by have := orderN_hi r; omega
      obtain ⟨p, b, M⟩ := s
      obtain ⟨t, ht⟩ : ∃ t, topN M = t := ⟨_, rfl⟩
      have HT0 : Hid (topN M = t) := ht
      have t0 : 0 ≤ t := by have := topN_lo M; omega
      have t5 : t ≤ 5 := by have := topN_hi M; omega
      simp only [ht]
      clear ho ht
      cases b with
      | none =>
        have hp0 := hgood.2 rfl
        simp only at hp0
        subst hp0
        have HST : Hid (jtsOf (L.take (k + 1)) = Jts.next ⟨[], none, M⟩ r) := HSTEP.out
        have HATV : Hid (Jts.at ⟨[], none, M⟩ = -1) := rfl
        rw [HATV.out]
        clear HSTEP hgood
        go_wp2_with fail
        refine (iorder_any r _).mono ?_
        rintro e w' ⟨rfl, hw⟩
        obtain rfl := hw.symm
        rw [HO.out, HGD.out]
        clear hw
        by_cases hm0 : o = 0
        · have hmk : markB r = false := by
            cases hq : markB r
            · rfl
            · have := markB_pos.1 hq; rw [HO.out] at this; omega
          subst hm0
          have HAT : Hid (Jts.at (Jts.next ⟨[], none, M⟩ r) = (N : Int)) := by show _ = _; rw [Jts.next_at_no _ r hmk, HN.out]
          have HTP : Hid (topN (Jts.next ⟨[], none, M⟩ r).ms = 0) := by show _ = _; unfold Jts.next; rw [hmk]; rfl
          go_wp2_with (at_builtin; refine wpA _ rfl _ _ rfl w.heap.size _ _ _ rfl (World.ownsRow.alloc OW.out _) _ [r] 1 1 rfl rfl (ints_new _ r _ _ rfl) ?c1 ?c2 ?_)
          all_goals try (case c1 => omega)
          all_goals try (case c2 => have := Below.size BWH.out; simp; omega)
          intro v3 w3 hown3 hgr3 _
          have B3 : Hid (Below w.heap.size w w3) := Below.grown (Below.alloc BWH.out (Below.size BWH.out) _) hgr3 (by have := Below.size BWH.out; simp; omega) (fun g hg => (World.ownsRow.lt OW.out g hg).1)
          have O3 : Hid (w3.ownsRow w.heap.size 3 1 v3 (Jts.all (Jts.next ⟨[], none, M⟩ r)).length (ints (Jts.all (Jts.next ⟨[], none, M⟩ r)))) := own_cast hown3 (by rw [Jts.next_all, List.length_append, HN.out]; rfl) (by rw [Jts.next_all]; simp [ints, Jts.all])
          clear hgr3 hown3
          go_wp2
          go_roundw
          case rel => exact ⟨k + 1, by omega, by go_num, by rw [HST.out, HAT.out], by rw [HST.out, HTP.out], by rw [HST.out]; exact O3.out, B3.out⟩
          case measure => simp [intOf]; omega
        · have hmk : markB r = true := markB_pos.2 (by rw [HO.out]; omega)
          have htp : topN (Jts.next ⟨[], none, M⟩ r).ms = max t o := by
            unfold Jts.next
            rw [hmk]
            show topN (M ++ [r]) = _
            rw [topN_snoc, HO.out, HT0.out]
          rcases (by omega : t < o ∨ t = o ∨ o < t) with hto | hto | hto
          · skip
            have hmx : max t o = o := by omega
            have HAT : Hid (Jts.at (Jts.next ⟨[], none, M⟩ r) = -1) := by show _ = _; rw [Jts.next_at_mark _ r hmk]; exact HATV.out
            have HTP : Hid (topN (Jts.next ⟨[], none, M⟩ r).ms = o) := htp.trans hmx
            go_wp2_with (at_builtin; refine wpA _ rfl _ _ rfl w.heap.size _ _ _ rfl (World.ownsRow.alloc OW.out _) _ [r] 1 1 rfl rfl (ints_new _ r _ _ rfl) ?c1 ?c2 ?_)
            all_goals try (case c1 => omega)
            all_goals try (case c2 => have := Below.size BWH.out; simp; omega)
            intro v3 w3 hown3 hgr3 _
            have B3 : Hid (Below w.heap.size w w3) := Below.grown (Below.alloc BWH.out (Below.size BWH.out) _) hgr3 (by have := Below.size BWH.out; simp; omega) (fun g hg => (World.ownsRow.lt OW.out g hg).1)
            have O3 : Hid (w3.ownsRow w.heap.size 3 1 v3 (Jts.all (Jts.next ⟨[], none, M⟩ r)).length (ints (Jts.all (Jts.next ⟨[], none, M⟩ r)))) := own_cast hown3 (by rw [Jts.next_all, List.length_append, HN.out]; rfl) (by rw [Jts.next_all]; simp [ints, Jts.all])
            clear hgr3 hown3
            go_wp2
            go_roundw
            case rel => exact ⟨k + 1, by omega, by go_num, by rw [HST.out, HAT.out], by rw [HST.out, HTP.out], by rw [HST.out]; exact O3.out, B3.out⟩
            case measure => simp [intOf]; omega
          · skip
            have hmx : max t o = o := by omega
            subst hto
            have HAT : Hid (Jts.at (Jts.next ⟨[], none, M⟩ r) = -1) := by show _ = _; rw [Jts.next_at_mark _ r hmk]; exact HATV.out
            have HTP : Hid (topN (Jts.next ⟨[], none, M⟩ r).ms = t) := htp.trans (by omega)
            go_wp2_with (at_builtin; refine wpA _ rfl _ _ rfl w.heap.size _ _ _ rfl (World.ownsRow.alloc OW.out _) _ [r] 1 1 rfl rfl (ints_new _ r _ _ rfl) ?c1 ?c2 ?_)
            all_goals try (case c1 => omega)
            all_goals try (case c2 => have := Below.size BWH.out; simp; omega)
            intro v3 w3 hown3 hgr3 _
            have B3 : Hid (Below w.heap.size w w3) := Below.grown (Below.alloc BWH.out (Below.size BWH.out) _) hgr3 (by have := Below.size BWH.out; simp; omega) (fun g hg => (World.ownsRow.lt OW.out g hg).1)
            have O3 : Hid (w3.ownsRow w.heap.size 3 1 v3 (Jts.all (Jts.next ⟨[], none, M⟩ r)).length (ints (Jts.all (Jts.next ⟨[], none, M⟩ r)))) := own_cast hown3 (by rw [Jts.next_all, List.length_append, HN.out]; rfl) (by rw [Jts.next_all]; simp [ints, Jts.all])
            clear hgr3 hown3
            go_wp2
            go_roundw
            case rel => exact ⟨k + 1, by omega, by go_num, by rw [HST.out, HAT.out], by rw [HST.out, HTP.out], by rw [HST.out]; exact O3.out, B3.out⟩
            case measure => simp [intOf]; omega
          · skip
            have hmx : max t o = t := by omega
            have HAT : Hid (Jts.at (Jts.next ⟨[], none, M⟩ r) = -1) := by show _ = _; rw [Jts.next_at_mark _ r hmk]; exact HATV.out
            have HTP : Hid (topN (Jts.next ⟨[], none, M⟩ r).ms = t) := htp.trans hmx
            go_wp2_with (at_builtin; refine wpA _ rfl _ _ rfl w.heap.size _ _ _ rfl (World.ownsRow.alloc OW.out _) _ [r] 1 1 rfl rfl (ints_new _ r _ _ rfl) ?c1 ?c2 ?_)
            all_goals try (case c1 => omega)
            all_goals try (case c2 => have := Below.size BWH.out; simp; omega)
            intro v3 w3 hown3 hgr3 _
            have B3 : Hid (Below w.heap.size w w3) := Below.grown (Below.alloc BWH.out (Below.size BWH.out) _) hgr3 (by have := Below.size BWH.out; simp; omega) (fun g hg => (World.ownsRow.lt OW.out g hg).1)
            have O3 : Hid (w3.ownsRow w.heap.size 3 1 v3 (Jts.all (Jts.next ⟨[], none, M⟩ r)).length (ints (Jts.all (Jts.next ⟨[], none, M⟩ r)))) := own_cast hown3 (by rw [Jts.next_all, List.length_append, HN.out]; rfl) (by rw [Jts.next_all]; simp [ints, Jts.all])
            clear hgr3 hown3
            go_wp2
            go_roundw
            case rel => exact ⟨k + 1, by omega, by go_num, by rw [HST.out, HAT.out], by rw [HST.out, HTP.out], by rw [HST.out]; exact O3.out, B3.out⟩
            case measure => simp [intOf]; omega
      | some b =>
        have HATV : Hid (Jts.at ⟨p, some b, M⟩ = (p.length : Int)) := rfl
        rw [HATV.out]
        have hpN : p.length + 1 + M.length = N := by have := HN.out; simp [Jts.all] at this; omega
        have hms := hgood.1
        have htop := openB_top hms r
        rw [HO.out, HT0.out] at htop
        obtain ⟨gb, go, rfl, lgb, hcb⟩ := own_ints OW.out p.length (by rw [HN.out]; omega)
        rw [show (Jts.all ⟨p, some b, M⟩).getD p.length 0 = b from get_mid p M b] at hcb
        have hst := OW.out
        clear hgood hms
        have hplI : (p.length : Int) < (N : Int) := by omega
        have hpl0 : ¬ (p.length : Int) < 0 := by omega
        cases hop : openB M r
        · have HST : Hid (jtsOf (L.take (k + 1)) = Jts.next ⟨p, some b, M⟩ r) := HSTEP.out.trans (Jts.step_no p M b r (by rw [hop]; simp))
          have hno : ¬ (t = 0 ∨ t < o) := fun h => by have := htop.2 h; rw [hop] at this; cases this
          have hno1 : ¬ t = 0 := fun h => hno (.inl h)
          have hno2 : ¬ t < o := fun h => hno (.inr h)
          have htb : (t == 0) = false := by rw [beq_eq_false_iff_ne]; exact hno1
          clear hop hst htop hno
          go_wp2_with fail
          refine (iorder_any r _).mono ?_
          rintro e w' ⟨rfl, hw⟩
          obtain rfl := hw.symm
          rw [HO.out, HGD.out]
          clear hw
          by_cases hm0 : o = 0
          · have hmk : markB r = false := by
              cases hq : markB r
              · rfl
              · have := markB_pos.1 hq; rw [HO.out] at this; omega
            subst hm0
            have HAT : Hid (Jts.at (Jts.next ⟨p, some b, M⟩ r) = (N : Int)) := by show _ = _; rw [Jts.next_at_no _ r hmk, HN.out]
            have HTP : Hid (topN (Jts.next ⟨p, some b, M⟩ r).ms = 0) := by show _ = _; unfold Jts.next; rw [hmk]; rfl
            go_wp2_with (at_builtin; refine wpA _ rfl _ _ rfl w.heap.size _ _ _ rfl (World.ownsRow.alloc OW.out _) _ [r] 1 1 rfl rfl (ints_new _ r _ _ rfl) ?c1 ?c2 ?_)
            all_goals try (case c1 => omega)
            all_goals try (case c2 => have := Below.size BWH.out; simp; omega)
            intro v3 w3 hown3 hgr3 _
            have B3 : Hid (Below w.heap.size w w3) := Below.grown (Below.alloc BWH.out (Below.size BWH.out) _) hgr3 (by have := Below.size BWH.out; simp; omega) (fun g hg => (World.ownsRow.lt OW.out g hg).1)
            have O3 : Hid (w3.ownsRow w.heap.size 3 1 v3 (Jts.all (Jts.next ⟨p, some b, M⟩ r)).length (ints (Jts.all (Jts.next ⟨p, some b, M⟩ r)))) := own_cast hown3 (by rw [Jts.next_all, List.length_append, HN.out]; rfl) (by rw [Jts.next_all]; simp [ints, Jts.all])
            clear hgr3 hown3
            go_wp2
            go_roundw
            case rel => exact ⟨k + 1, by omega, by go_num, by rw [HST.out, HAT.out], by rw [HST.out, HTP.out], by rw [HST.out]; exact O3.out, B3.out⟩
            case measure => simp [intOf]; omega
          · have hmk : markB r = true := markB_pos.2 (by rw [HO.out]; omega)
            have htp : topN (Jts.next ⟨p, some b, M⟩ r).ms = max t o := by
              unfold Jts.next
              rw [hmk]
              show topN (M ++ [r]) = _
              rw [topN_snoc, HO.out, HT0.out]
            rcases (by omega : t = o ∨ o < t) with hto | hto
            · skip
              have hmx : max t o = o := by omega
              subst hto
              have HAT : Hid (Jts.at (Jts.next ⟨p, some b, M⟩ r) = (p.length : Int)) := by show _ = _; rw [Jts.next_at_mark _ r hmk]; exact HATV.out
              have HTP : Hid (topN (Jts.next ⟨p, some b, M⟩ r).ms = t) := htp.trans (by omega)
              go_wp2_with (at_builtin; refine wpA _ rfl _ _ rfl w.heap.size _ _ _ rfl (World.ownsRow.alloc OW.out _) _ [r] 1 1 rfl rfl (ints_new _ r _ _ rfl) ?c1 ?c2 ?_)
              all_goals try (case c1 => omega)
              all_goals try (case c2 => have := Below.size BWH.out; simp; omega)
              intro v3 w3 hown3 hgr3 _
              have B3 : Hid (Below w.heap.size w w3) := Below.grown (Below.alloc BWH.out (Below.size BWH.out) _) hgr3 (by have := Below.size BWH.out; simp; omega) (fun g hg => (World.ownsRow.lt OW.out g hg).1)
              have O3 : Hid (w3.ownsRow w.heap.size 3 1 v3 (Jts.all (Jts.next ⟨p, some b, M⟩ r)).length (ints (Jts.all (Jts.next ⟨p, some b, M⟩ r)))) := own_cast hown3 (by rw [Jts.next_all, List.length_append, HN.out]; rfl) (by rw [Jts.next_all]; simp [ints, Jts.all])
              clear hgr3 hown3
              go_wp2
              go_roundw
              case rel => exact ⟨k + 1, by omega, by go_num, by rw [HST.out, HAT.out], by rw [HST.out, HTP.out], by rw [HST.out]; exact O3.out, B3.out⟩
              case measure => simp [intOf]; omega
            · skip
              have hmx : max t o = t := by omega
              have HAT : Hid (Jts.at (Jts.next ⟨p, some b, M⟩ r) = (p.length : Int)) := by show _ = _; rw [Jts.next_at_mark _ r hmk]; exact HATV.out
              have HTP : Hid (topN (Jts.next ⟨p, some b, M⟩ r).ms = t) := htp.trans hmx
              go_wp2_with (at_builtin; refine wpA _ rfl _ _ rfl w.heap.size _ _ _ rfl (World.ownsRow.alloc OW.out _) _ [r] 1 1 rfl rfl (ints_new _ r _ _ rfl) ?c1 ?c2 ?_)
              all_goals try (case c1 => omega)
              all_goals try (case c2 => have := Below.size BWH.out; simp; omega)
              intro v3 w3 hown3 hgr3 _
              have B3 : Hid (Below w.heap.size w w3) := Below.grown (Below.alloc BWH.out (Below.size BWH.out) _) hgr3 (by have := Below.size BWH.out; simp; omega) (fun g hg => (World.ownsRow.lt OW.out g hg).1)
              have O3 : Hid (w3.ownsRow w.heap.size 3 1 v3 (Jts.all (Jts.next ⟨p, some b, M⟩ r)).length (ints (Jts.all (Jts.next ⟨p, some b, M⟩ r)))) := own_cast hown3 (by rw [Jts.next_all, List.length_append, HN.out]; rfl) (by rw [Jts.next_all]; simp [ints, Jts.all])
              clear hgr3 hown3
              go_wp2
              go_roundw
              case rel => exact ⟨k + 1, by omega, by go_num, by rw [HST.out, HAT.out], by rw [HST.out, HTP.out], by rw [HST.out]; exact O3.out, B3.out⟩
              case measure => simp [intOf]; omega
        · have hyes := htop.1 hop
          by_cases hj0 : 0 ≤ joinN b r
          · have HST : Hid (jtsOf (L.take (k + 1)) = ⟨p, some (joinN b r), M⟩) := HSTEP.out.trans (Jts.step_yes p M b r ⟨hop, hj0⟩)
            have hgo : go = 0 := by
              rcases hst.2 with ⟨h1, _⟩ | ⟨g, cap', cur, h1, _⟩
              · cases h1
              · simp only [Value.slice.injEq, Option.some.injEq, Addr.mk.injEq, true_and, and_true] at h1
                exact h1.1.2
            subst hgo
            have hfz := hst.frozenAt p.length
            have hsd := hst.stored p.length (.int .i64 (joinN b r))
            rw [show (ints (Jts.all ⟨p, some b, M⟩)).set p.length (.int .i64 (joinN b r)) = ints (p ++ [joinN b r] ++ M) from set_mid p M b (joinN b r)] at hsd
            have HSD : Hid _ := hsd
            have sj := ijoin_any b r
            rw [joinV_yes hj0, decide_eq_true hj0] at sj
            have SJ : Hid _ := sj
            have hpb : wr.cell? ⟨gb, p.length, none⟩ = some (.int .i64 b) := by have := hcb; rw [Nat.zero_add] at this; exact this
            clear hop hst hsd hcb htop sj
            generalize joinN b r = jn at *
            rcases hyes with ht | ht
            · subst ht
              go_wp2_with fail
              refine (iorder_any r _).mono ?_
              rintro e w' ⟨rfl, hw⟩
              obtain rfl := hw.symm
              rw [HO.out, HGD.out]
              clear hw
              go_wp2_with fail
              refine (SJ.out _).mono ?_
              rintro e w' ⟨rfl, rfl⟩
              go_wp2
              go_roundw
              case rel => exact ⟨k + 1, by omega, by go_num, by rw [HST.out]; rfl, by rw [HST.out]; exact congrArg (Value.int .i64) HT0.out.symm, by rw [HST.out]; exact own_cast HSD.out.1 (by rw [← HN.out]; simp [Jts.all]) rfl, Below.grown BWH.out HSD.out.2 (Below.size BWH.out) (fun g hg => (World.ownsRow.lt OW.out g (by rw [← hg]; rfl)).1)⟩
              case measure => simp [intOf]; omega
            · by_cases ht0 : t = 0
              · subst ht0
                go_wp2_with fail
                refine (iorder_any r _).mono ?_
                rintro e w' ⟨rfl, hw⟩
                obtain rfl := hw.symm
                rw [HO.out, HGD.out]
                clear hw
                go_wp2_with fail
                refine (SJ.out _).mono ?_
                rintro e w' ⟨rfl, rfl⟩
                go_wp2
                go_roundw
                case rel => exact ⟨k + 1, by omega, by go_num, by rw [HST.out]; rfl, by rw [HST.out]; exact congrArg (Value.int .i64) HT0.out.symm, by rw [HST.out]; exact own_cast HSD.out.1 (by rw [← HN.out]; simp [Jts.all]) rfl, Below.grown BWH.out HSD.out.2 (Below.size BWH.out) (fun g hg => (World.ownsRow.lt OW.out g (by rw [← hg]; rfl)).1)⟩
                case measure => simp [intOf]; omega
              · have htb : (t == 0) = false := by rw [beq_eq_false_iff_ne]; exact ht0
                go_wp2_with fail
                refine (iorder_any r _).mono ?_
                rintro e w' ⟨rfl, hw⟩
                obtain rfl := hw.symm
                rw [HO.out, HGD.out]
                clear hw
                go_wp2_with fail
                refine (SJ.out _).mono ?_
                rintro e w' ⟨rfl, rfl⟩
                go_wp2
                go_roundw
                case rel => exact ⟨k + 1, by omega, by go_num, by rw [HST.out]; rfl, by rw [HST.out]; exact congrArg (Value.int .i64) HT0.out.symm, by rw [HST.out]; exact own_cast HSD.out.1 (by rw [← HN.out]; simp [Jts.all]) rfl, Below.grown BWH.out HSD.out.2 (Below.size BWH.out) (fun g hg => (World.ownsRow.lt OW.out g (by rw [← hg]; rfl)).1)⟩
                case measure => simp [intOf]; omega
          · have HST : Hid (jtsOf (L.take (k + 1)) = Jts.next ⟨p, some b, M⟩ r) := HSTEP.out.trans (Jts.step_no p M b r (fun h => hj0 h.2))
            have sj := ijoin_any b r
            rw [joinV_no hj0, decide_eq_false hj0] at sj
            have SJ : Hid _ := sj
            clear hop hst htop sj
            rcases hyes with ht | ht
            · subst ht
              go_wp2_with fail
              refine (iorder_any r _).mono ?_
              rintro e w' ⟨rfl, hw⟩
              obtain rfl := hw.symm
              rw [HO.out, HGD.out]
              clear hw
              go_wp2_with fail
              refine (SJ.out _).mono ?_
              rintro e w' ⟨rfl, rfl⟩
              by_cases hm0 : o = 0
              · have hmk : markB r = false := by
                  cases hq : markB r
                  · rfl
                  · have := markB_pos.1 hq; rw [HO.out] at this; omega
                subst hm0
                have HAT : Hid (Jts.at (Jts.next ⟨p, some b, M⟩ r) = (N : Int)) := by show _ = _; rw [Jts.next_at_no _ r hmk, HN.out]
                have HTP : Hid (topN (Jts.next ⟨p, some b, M⟩ r).ms = 0) := by show _ = _; unfold Jts.next; rw [hmk]; rfl
                go_wp2_with (at_builtin; refine wpA _ rfl _ _ rfl w.heap.size _ _ _ rfl (World.ownsRow.alloc OW.out _) _ [r] 1 1 rfl rfl (ints_new _ r _ _ rfl) ?c1 ?c2 ?_)
                all_goals try (case c1 => omega)
                all_goals try (case c2 => have := Below.size BWH.out; simp; omega)
                intro v3 w3 hown3 hgr3 _
                have B3 : Hid (Below w.heap.size w w3) := Below.grown (Below.alloc BWH.out (Below.size BWH.out) _) hgr3 (by have := Below.size BWH.out; simp; omega) (fun g hg => (World.ownsRow.lt OW.out g hg).1)
                have O3 : Hid (w3.ownsRow w.heap.size 3 1 v3 (Jts.all (Jts.next ⟨p, some b, M⟩ r)).length (ints (Jts.all (Jts.next ⟨p, some b, M⟩ r)))) := own_cast hown3 (by rw [Jts.next_all, List.length_append, HN.out]; rfl) (by rw [Jts.next_all]; simp [ints, Jts.all])
                clear hgr3 hown3
                go_wp2
                go_roundw
                case rel => exact ⟨k + 1, by omega, by go_num, by rw [HST.out, HAT.out], by rw [HST.out, HTP.out], by rw [HST.out]; exact O3.out, B3.out⟩
                case measure => simp [intOf]; omega
              · have hmk : markB r = true := markB_pos.2 (by rw [HO.out]; omega)
                have htp : topN (Jts.next ⟨p, some b, M⟩ r).ms = max 0 o := by
                  unfold Jts.next
                  rw [hmk]
                  show topN (M ++ [r]) = _
                  rw [topN_snoc, HO.out, HT0.out]
                have hto : 0 < o := by omega
                have hmx : max 0 o = o := by omega
                have HAT : Hid (Jts.at (Jts.next ⟨p, some b, M⟩ r) = (p.length : Int)) := by show _ = _; rw [Jts.next_at_mark _ r hmk]; exact HATV.out
                have HTP : Hid (topN (Jts.next ⟨p, some b, M⟩ r).ms = o) := htp.trans hmx
                go_wp2_with (at_builtin; refine wpA _ rfl _ _ rfl w.heap.size _ _ _ rfl (World.ownsRow.alloc OW.out _) _ [r] 1 1 rfl rfl (ints_new _ r _ _ rfl) ?c1 ?c2 ?_)
                all_goals try (case c1 => omega)
                all_goals try (case c2 => have := Below.size BWH.out; simp; omega)
                intro v3 w3 hown3 hgr3 _
                have B3 : Hid (Below w.heap.size w w3) := Below.grown (Below.alloc BWH.out (Below.size BWH.out) _) hgr3 (by have := Below.size BWH.out; simp; omega) (fun g hg => (World.ownsRow.lt OW.out g hg).1)
                have O3 : Hid (w3.ownsRow w.heap.size 3 1 v3 (Jts.all (Jts.next ⟨p, some b, M⟩ r)).length (ints (Jts.all (Jts.next ⟨p, some b, M⟩ r)))) := own_cast hown3 (by rw [Jts.next_all, List.length_append, HN.out]; rfl) (by rw [Jts.next_all]; simp [ints, Jts.all])
                clear hgr3 hown3
                go_wp2
                go_roundw
                case rel => exact ⟨k + 1, by omega, by go_num, by rw [HST.out, HAT.out], by rw [HST.out, HTP.out], by rw [HST.out]; exact O3.out, B3.out⟩
                case measure => simp [intOf]; omega
            · by_cases ht0 : t = 0
              · subst ht0
                go_wp2_with fail
                refine (iorder_any r _).mono ?_
                rintro e w' ⟨rfl, hw⟩
                obtain rfl := hw.symm
                rw [HO.out, HGD.out]
                clear hw
                go_wp2_with fail
                refine (SJ.out _).mono ?_
                rintro e w' ⟨rfl, rfl⟩
                by_cases hm0 : o = 0
                · exfalso; omega
                · have hmk : markB r = true := markB_pos.2 (by rw [HO.out]; omega)
                  have htp : topN (Jts.next ⟨p, some b, M⟩ r).ms = max 0 o := by
                    unfold Jts.next
                    rw [hmk]
                    show topN (M ++ [r]) = _
                    rw [topN_snoc, HO.out, HT0.out]
                  have hto : 0 < o := by omega
                  have hmx : max 0 o = o := by omega
                  have HAT : Hid (Jts.at (Jts.next ⟨p, some b, M⟩ r) = (p.length : Int)) := by show _ = _; rw [Jts.next_at_mark _ r hmk]; exact HATV.out
                  have HTP : Hid (topN (Jts.next ⟨p, some b, M⟩ r).ms = o) := htp.trans hmx
                  go_wp2_with (at_builtin; refine wpA _ rfl _ _ rfl w.heap.size _ _ _ rfl (World.ownsRow.alloc OW.out _) _ [r] 1 1 rfl rfl (ints_new _ r _ _ rfl) ?c1 ?c2 ?_)
                  all_goals try (case c1 => omega)
                  all_goals try (case c2 => have := Below.size BWH.out; simp; omega)
                  intro v3 w3 hown3 hgr3 _
                  have B3 : Hid (Below w.heap.size w w3) := Below.grown (Below.alloc BWH.out (Below.size BWH.out) _) hgr3 (by have := Below.size BWH.out; simp; omega) (fun g hg => (World.ownsRow.lt OW.out g hg).1)
                  have O3 : Hid (w3.ownsRow w.heap.size 3 1 v3 (Jts.all (Jts.next ⟨p, some b, M⟩ r)).length (ints (Jts.all (Jts.next ⟨p, some b, M⟩ r)))) := own_cast hown3 (by rw [Jts.next_all, List.length_append, HN.out]; rfl) (by rw [Jts.next_all]; simp [ints, Jts.all])
                  clear hgr3 hown3
                  go_wp2
                  go_roundw
                  case rel => exact ⟨k + 1, by omega, by go_num, by rw [HST.out, HAT.out], by rw [HST.out, HTP.out], by rw [HST.out]; exact O3.out, B3.out⟩
                  case measure => simp [intOf]; omega
              · have htb : (t == 0) = false := by rw [beq_eq_false_iff_ne]; exact ht0
                go_wp2_with fail
                refine (iorder_any r _).mono ?_
                rintro e w' ⟨rfl, hw⟩
                obtain rfl := hw.symm
                rw [HO.out, HGD.out]
                clear hw
                go_wp2_with fail
                refine (SJ.out _).mono ?_
                rintro e w' ⟨rfl, rfl⟩
                by_cases hm0 : o = 0
                · exfalso; omega
                · have hmk : markB r = true := markB_pos.2 (by rw [HO.out]; omega)
                  have htp : topN (Jts.next ⟨p, some b, M⟩ r).ms = max t o := by
                    unfold Jts.next
                    rw [hmk]
                    show topN (M ++ [r]) = _
                    rw [topN_snoc, HO.out, HT0.out]
                  have hto : t < o := by omega
                  have hmx : max t o = o := by omega
                  have HAT : Hid (Jts.at (Jts.next ⟨p, some b, M⟩ r) = (p.length : Int)) := by show _ = _; rw [Jts.next_at_mark _ r hmk]; exact HATV.out
                  have HTP : Hid (topN (Jts.next ⟨p, some b, M⟩ r).ms = o) := htp.trans hmx
                  go_wp2_with (at_builtin; refine wpA _ rfl _ _ rfl w.heap.size _ _ _ rfl (World.ownsRow.alloc OW.out _) _ [r] 1 1 rfl rfl (ints_new _ r _ _ rfl) ?c1 ?c2 ?_)
                  all_goals try (case c1 => omega)
                  all_goals try (case c2 => have := Below.size BWH.out; simp; omega)
                  intro v3 w3 hown3 hgr3 _
                  have B3 : Hid (Below w.heap.size w w3) := Below.grown (Below.alloc BWH.out (Below.size BWH.out) _) hgr3 (by have := Below.size BWH.out; simp; omega) (fun g hg => (World.ownsRow.lt OW.out g hg).1)
                  have O3 : Hid (w3.ownsRow w.heap.size 3 1 v3 (Jts.all (Jts.next ⟨p, some b, M⟩ r)).length (ints (Jts.all (Jts.next ⟨p, some b, M⟩ r)))) := own_cast hown3 (by rw [Jts.next_all, List.length_append, HN.out]; rfl) (by rw [Jts.next_all]; simp [ints, Jts.all])
                  clear hgr3 hown3
                  go_wp2
                  go_roundw
                  case rel => exact ⟨k + 1, by omega, by go_num, by rw [HST.out, HAT.out], by rw [HST.out, HTP.out], by rw [HST.out]; exact O3.out, B3.out⟩
                  case measure => simp [intOf]; omega
    · obtain rfl : k = L.length := by omega
      rw [List.take_length] at hown
      go_wp2
      go_ret2
      exact ⟨_, rfl, hown, hbw⟩
set_option maxRecDepth 100000 in
set_option maxHeartbeats 1000000 in
theorem ijoinAll_no (L : List Int) (ao : Option Addr) (cap : Nat) (w : World) (hl : L.length ≤ 1048576) (hh : heldB L = false) (hA : IntsAt w ao L) :
    Calls Try.prog 31 #[.slice ao L.length cap] w fun e w' => e = .returned (.tuple #[.slice none 0 0, .bool false]) ∧ Below w.heap.size w w' := by
  have HA : Hid _ := hA
  have HH : Hid _ := hh
  clear hA hh
  go_enter Try.func31, Try.ntmps31
  go_wp2_with fail
  refine (iheld_any L ao cap _ hl HA.out).mono ?_
  rintro e w1 ⟨rfl, rfl⟩
  rw [HH.out]
  go_wp2
  go_ret2
  exact ⟨rfl, Below.refl _ _⟩
end Go.Proofs.Ytjfehgmpcgepnaa
