/-
  JoinAll of the specification.
-/
import Derived.Test.YtjfehgmpcgepnaaN3H
namespace Go.Proofs.Ytjfehgmpcgepnaa
open Go.ChangeShapes Go.WideShapes Go.ChangeAt Go.RowKit
set_option maxRecDepth 100000 in
set_option maxHeartbeats 8000000 in
theorem sjoinL_any (L : List Int) (ao : Option Addr) (cap : Nat) (w : World) (hl : L.length ≤ 1000) (hA : IntsAt w ao L) :
    Calls Try.prog 23 #[.slice ao L.length cap] w fun e w' => ∃ v, e = .returned v ∧ w'.ownsRow w.heap.size 3 1 v (joinL L).length (ints (joinL L)) ∧ Below w.heap.size w w' := by
  have HA : Hid _ := hA
  clear hA
  go_enter Try.func23, Try.ntmps23
  go_wp2
  go_loopw [3, 4, 13] (fun v bv i wr => ∃ k : Nat, k ≤ L.length ∧ i = .int .i64 k ∧ bv = .int .i64 (jtsOf (L.take k)).at ∧ wr.ownsRow w.heap.size 3 1 v (jtsOf (L.take k)).all.length (ints (jtsOf (L.take k)).all) ∧ Below w.heap.size w wr) (fun _ _ i _ => L.length - (intOf i).toNat)
  case atStart => exact ⟨0, Nat.zero_le _, rfl, rfl, World.ownsRow_nil _ _ _ _, Below.refl _ _⟩
  case round =>
    obtain ⟨k, hk, rfl, rfl, hown, hbw⟩ := hrel
    by_cases hlt : k < L.length
    · have hltI : (k : Int) < (L.length : Int) := by omega
      obtain ⟨b1, o1, rfl, l1, h1⟩ := HA.out k hlt
      have hc : wr.cell? ⟨b1, o1 + k, none⟩ = some (.int .i64 (L.getD k 0)) := (hbw.cell (p := ⟨b1, o1 + k, none⟩) l1).trans h1
      have HSTEP : Hid _ := joinL_snoc L k hlt
      have hgood := jtsOf_good (L.take k)
      have hlen : (jtsOf (L.take k)).all.length ≤ 1000 := by have := Jts.fold_len (L.take k); simp at this; omega
      clear h1
      generalize L.getD k 0 = r at *
      generalize jtsOf (L.take k) = s at *
      obtain ⟨N, hN⟩ : ∃ N, s.all.length = N := ⟨_, rfl⟩
      rw [hN] at hown hlen
      have HN : Hid (s.all.length = N) := hN
      have OW : Hid (wr.ownsRow w.heap.size 3 1 _ N (ints s.all)) := hown
      have BWH : Hid _ := hbw
      have hn1 := hown.1
      obtain ⟨ga, gc, rfl⟩ : ∃ ga gc, u3 = Value.slice ga N gc := by
        rcases hown.2 with ⟨h1, h2⟩ | ⟨g, cap', cur, h1, _⟩
        · exact ⟨none, 0, by rw [h1, h2]⟩
        · exact ⟨_, _, h1⟩
      clear hown hbw hN hn1
      obtain ⟨p, b, M⟩ := s
      cases b with
      | none =>
        have hp0 := hgood.2 rfl
        simp only at hp0
        subst hp0
        have HST : Hid (jtsOf (L.take (k + 1)) = Jts.next ⟨[], none, M⟩ r) := HSTEP.out
        have HATV : Hid (Jts.at ⟨[], none, M⟩ = -1) := rfl
        rw [HATV.out]
        have hall : Jts.all ⟨[], none, M⟩ = M := by simp [Jts.all]
        obtain ⟨A, C, hsT, hAI⟩ := slice_tail OW.out 0 (Nat.zero_le _)
        have hMN : M.length = N := by have := HN.out; rw [hall] at this; exact this
        have hsT0 : ∀ w, (Instr.slice 24 (.slice ga N gc) (some (.int .i64 0)) none none).run Try.prog w = .ok (.slice A N C) w := hsT
        rw [hall] at hAI
        have HAI : Hid (IntsAt wr A M) := hAI
        clear hsT hAI hall HSTEP hgood
        go_wp2
        go_loopw [7, 24] (fun fv i wi => ∃ j : Nat, j ≤ N ∧ i = .int .i64 j ∧ fv = .bool false ∧ wr = wi) (fun _ i _ => N - (intOf i).toNat)
        case atStart => exact ⟨0, Nat.zero_le _, rfl, rfl, rfl⟩
        case round =>
          obtain ⟨j, hj, rfl, rfl, rfl⟩ := hrel
          by_cases hjl : j < N
          · have hjlI : (j : Int) < (N : Int) := by omega
            obtain ⟨bA, oA, rfl, lA, hcA⟩ := HAI.out j (by omega)
            generalize M.getD j 0 = x at *
            go_wp2
            go_roundw
            case rel => exact ⟨j + 1, by omega, by go_num, rfl, by first | rfl | trivial⟩
            case measure => simp [intOf]; omega
          · obtain rfl : j = N := by omega
            have hjl' : ¬ (j : Int) < (j : Int) := by omega
            cases hmk : markB r
            · have HM : Hid _ := hmk
              have HAT : Hid (Jts.at (Jts.next ⟨[], none, M⟩ r) = (j : Int)) := by show _ = _; rw [Jts.next_at_no _ r hmk, HN.out]
              clear hmk
              go_wp2_with (first | (go_at_call 36; refine (smark_any r _).mono ?_; rintro e w' ⟨rfl, hw⟩; obtain rfl := hw.symm; rw [HM.out]) | (at_builtin; refine wpA _ rfl _ _ rfl w.heap.size _ _ _ rfl (World.ownsRow.alloc OW.out _) _ [r] 1 1 rfl rfl (ints_new _ r _ _ rfl) ?c1 ?c2 ?_))
              all_goals try (case c1 => omega)
              all_goals try (case c2 => have := Below.size BWH.out; simp; omega)
              intro v3 w3 hown3 hgr3 _
              have B3 : Hid (Below w.heap.size w w3) := Below.grown (Below.alloc BWH.out (Below.size BWH.out) _) hgr3 (by have := Below.size BWH.out; simp; omega) (fun g hg => (World.ownsRow.lt OW.out g hg).1)
              have O3 : Hid (w3.ownsRow w.heap.size 3 1 v3 (Jts.all (Jts.next ⟨[], none, M⟩ r)).length (ints (Jts.all (Jts.next ⟨[], none, M⟩ r)))) := own_cast hown3 (by rw [Jts.next_all, List.length_append, HN.out]; rfl) (by rw [Jts.next_all]; simp [ints, Jts.all])
              clear hgr3 hown3
              go_wp2
              go_roundw
              case rel => exact ⟨k + 1, by omega, by go_num, by rw [HST.out, HAT.out], by rw [HST.out]; exact O3.out, B3.out⟩
              case measure => simp [intOf]; omega
            · have HM : Hid _ := hmk
              have HAT : Hid (Jts.at (Jts.next ⟨[], none, M⟩ r) = -1) := by show _ = _; rw [Jts.next_at_mark _ r hmk]; exact HATV.out
              clear hmk
              go_wp2_with (first | (go_at_call 36; refine (smark_any r _).mono ?_; rintro e w' ⟨rfl, hw⟩; obtain rfl := hw.symm; rw [HM.out]) | (at_builtin; refine wpA _ rfl _ _ rfl w.heap.size _ _ _ rfl (World.ownsRow.alloc OW.out _) _ [r] 1 1 rfl rfl (ints_new _ r _ _ rfl) ?c1 ?c2 ?_))
              all_goals try (case c1 => omega)
              all_goals try (case c2 => have := Below.size BWH.out; simp; omega)
              intro v3 w3 hown3 hgr3 _
              have B3 : Hid (Below w.heap.size w w3) := Below.grown (Below.alloc BWH.out (Below.size BWH.out) _) hgr3 (by have := Below.size BWH.out; simp; omega) (fun g hg => (World.ownsRow.lt OW.out g hg).1)
              have O3 : Hid (w3.ownsRow w.heap.size 3 1 v3 (Jts.all (Jts.next ⟨[], none, M⟩ r)).length (ints (Jts.all (Jts.next ⟨[], none, M⟩ r)))) := own_cast hown3 (by rw [Jts.next_all, List.length_append, HN.out]; rfl) (by rw [Jts.next_all]; simp [ints, Jts.all])
              clear hgr3 hown3
              go_wp2
              go_roundw
              case rel => exact ⟨k + 1, by omega, by go_num, by rw [HST.out, HAT.out], by rw [HST.out]; exact O3.out, B3.out⟩
              case measure => simp [intOf]; omega
      | some b =>
        have HATV : Hid (Jts.at ⟨p, some b, M⟩ = (p.length : Int)) := rfl
        rw [HATV.out]
        have hpN : p.length + 1 + M.length = N := by have := HN.out; simp [Jts.all] at this; omega
        obtain ⟨A, C, hsT, hAI⟩ := slice_tail OW.out (p.length + 1) (by omega)
        have hsT1 : ∀ w, (Instr.slice 24 (.slice ga N gc) (some (.int .i64 ((p.length : Int) + 1))) none none).run Try.prog w = .ok (.slice A M.length C) w := fun w => by
          have h := hsT w
          rw [show N - (p.length + 1) = M.length by omega, show ((p.length + 1 : Nat) : Int) = (p.length : Int) + 1 by omega] at h
          exact h
        rw [show (Jts.all ⟨p, some b, M⟩).drop (p.length + 1) = M by simp [Jts.all]] at hAI
        have HAI : Hid (IntsAt wr A M) := hAI
        have hms := hgood.1
        obtain ⟨gb, go, rfl, lgb, hcb⟩ := own_ints OW.out p.length (by rw [HN.out]; omega)
        rw [show (Jts.all ⟨p, some b, M⟩).getD p.length 0 = b from get_mid p M b] at hcb
        have hst := OW.out
        clear hsT hAI hgood
        have hplI : (p.length : Int) < (N : Int) := by omega
        have hpl0 : ¬ (p.length : Int) < 0 := by omega
        go_wp2
        go_loopw [7, 24] (fun fv i wi => ∃ j : Nat, j ≤ M.length ∧ i = .int .i64 j ∧ fv = .bool (openB (M.take j) r) ∧ wr = wi) (fun _ i _ => M.length - (intOf i).toNat)
        case atStart => exact ⟨0, Nat.zero_le _, rfl, rfl, rfl⟩
        case round =>
          obtain ⟨j, hj, rfl, rfl, rfl⟩ := hrel
          by_cases hjl : j < M.length
          · have hjlI : (j : Int) < (M.length : Int) := by omega
            obtain ⟨bA, oA, rfl, lA, hcA⟩ := HAI.out j hjl
            have HOP : Hid _ := openB_snoc M j hjl r
            clear hst
            generalize M.getD j 0 = x at *
            generalize openB (M.take j) r = fb at *
            cases hmk : markB r
            · have HM : Hid _ := hmk
              rw [hmk] at HOP
              clear hmk
              cases fb
              all_goals
                go_wp2_with (first | (go_at_call 36; refine (smark_any r _).mono ?_; rintro e w' ⟨rfl, hw⟩; obtain rfl := hw.symm; rw [HM.out]) | (go_at_call 37; (first | (with_reducible refine (sorder_any x _).mono ?_) | (with_reducible refine (sorder_any r _).mono ?_)); rintro e w' ⟨rfl, hw⟩; obtain rfl := hw.symm))
                go_roundw
                case rel => exact ⟨j + 1, by omega, by go_num, by rw [HOP.out]; first | rfl | simp [hx], by first | rfl | trivial⟩
                case measure => simp [intOf]; omega
            · have HM : Hid _ := hmk
              rw [hmk] at HOP
              clear hmk
              by_cases hx : orderN x < orderN r
              · rw [decide_eq_true hx] at HOP
                cases fb
                all_goals
                  go_wp2_with (first | (go_at_call 36; refine (smark_any r _).mono ?_; rintro e w' ⟨rfl, hw⟩; obtain rfl := hw.symm; rw [HM.out]) | (go_at_call 37; (first | (with_reducible refine (sorder_any x _).mono ?_) | (with_reducible refine (sorder_any r _).mono ?_)); rintro e w' ⟨rfl, hw⟩; obtain rfl := hw.symm))
                  go_roundw
                  case rel => exact ⟨j + 1, by omega, by go_num, by rw [HOP.out]; first | rfl | simp [hx], by first | rfl | trivial⟩
                  case measure => simp [intOf]; omega
              · rw [decide_eq_false hx] at HOP
                cases fb
                all_goals
                  go_wp2_with (first | (go_at_call 36; refine (smark_any r _).mono ?_; rintro e w' ⟨rfl, hw⟩; obtain rfl := hw.symm; rw [HM.out]) | (go_at_call 37; (first | (with_reducible refine (sorder_any x _).mono ?_) | (with_reducible refine (sorder_any r _).mono ?_)); rintro e w' ⟨rfl, hw⟩; obtain rfl := hw.symm))
                  go_roundw
                  case rel => exact ⟨j + 1, by omega, by go_num, by rw [HOP.out]; first | rfl | simp [hx], by first | rfl | trivial⟩
                  case measure => simp [intOf]; omega
          · obtain rfl : j = M.length := by omega
            have hjl' : ¬ (M.length : Int) < (M.length : Int) := by omega
            rw [List.take_length]
            cases hop : openB M r
            · have HST : Hid (jtsOf (L.take (k + 1)) = Jts.next ⟨p, some b, M⟩ r) := HSTEP.out.trans (Jts.step_no p M b r (by rw [hop]; simp))
              clear hop hst
              cases hmk : markB r
              · have HM : Hid _ := hmk
                have HAT : Hid (Jts.at (Jts.next ⟨p, some b, M⟩ r) = (N : Int)) := by show _ = _; rw [Jts.next_at_no _ r hmk, HN.out]
                clear hmk
                go_wp2_with (first | (go_at_call 36; refine (smark_any r _).mono ?_; rintro e w' ⟨rfl, hw⟩; obtain rfl := hw.symm; rw [HM.out]) | (at_builtin; refine wpA _ rfl _ _ rfl w.heap.size _ _ _ rfl (World.ownsRow.alloc OW.out _) _ [r] 1 1 rfl rfl (ints_new _ r _ _ rfl) ?c1 ?c2 ?_))
                all_goals try (case c1 => omega)
                all_goals try (case c2 => have := Below.size BWH.out; simp; omega)
                intro v3 w3 hown3 hgr3 _
                have B3 : Hid (Below w.heap.size w w3) := Below.grown (Below.alloc BWH.out (Below.size BWH.out) _) hgr3 (by have := Below.size BWH.out; simp; omega) (fun g hg => (World.ownsRow.lt OW.out g hg).1)
                have O3 : Hid (w3.ownsRow w.heap.size 3 1 v3 (Jts.all (Jts.next ⟨p, some b, M⟩ r)).length (ints (Jts.all (Jts.next ⟨p, some b, M⟩ r)))) := own_cast hown3 (by rw [Jts.next_all, List.length_append, HN.out]; rfl) (by rw [Jts.next_all]; simp [ints, Jts.all])
                clear hgr3 hown3
                go_wp2
                go_roundw
                case rel => exact ⟨k + 1, by omega, by go_num, by rw [HST.out, HAT.out], by rw [HST.out]; exact O3.out, B3.out⟩
                case measure => simp [intOf]; omega
              · have HM : Hid _ := hmk
                have HAT : Hid (Jts.at (Jts.next ⟨p, some b, M⟩ r) = (p.length : Int)) := by show _ = _; rw [Jts.next_at_mark _ r hmk]; exact HATV.out
                clear hmk
                go_wp2_with (first | (go_at_call 36; refine (smark_any r _).mono ?_; rintro e w' ⟨rfl, hw⟩; obtain rfl := hw.symm; rw [HM.out]) | (at_builtin; refine wpA _ rfl _ _ rfl w.heap.size _ _ _ rfl (World.ownsRow.alloc OW.out _) _ [r] 1 1 rfl rfl (ints_new _ r _ _ rfl) ?c1 ?c2 ?_))
                all_goals try (case c1 => omega)
                all_goals try (case c2 => have := Below.size BWH.out; simp; omega)
                intro v3 w3 hown3 hgr3 _
                have B3 : Hid (Below w.heap.size w w3) := Below.grown (Below.alloc BWH.out (Below.size BWH.out) _) hgr3 (by have := Below.size BWH.out; simp; omega) (fun g hg => (World.ownsRow.lt OW.out g hg).1)
                have O3 : Hid (w3.ownsRow w.heap.size 3 1 v3 (Jts.all (Jts.next ⟨p, some b, M⟩ r)).length (ints (Jts.all (Jts.next ⟨p, some b, M⟩ r)))) := own_cast hown3 (by rw [Jts.next_all, List.length_append, HN.out]; rfl) (by rw [Jts.next_all]; simp [ints, Jts.all])
                clear hgr3 hown3
                go_wp2
                go_roundw
                case rel => exact ⟨k + 1, by omega, by go_num, by rw [HST.out, HAT.out], by rw [HST.out]; exact O3.out, B3.out⟩
                case measure => simp [intOf]; omega
            · by_cases hj0 : 0 ≤ joinN b r
              · have HST : Hid (jtsOf (L.take (k + 1)) = ⟨p, some (joinN b r), M⟩) := HSTEP.out.trans (Jts.step_yes p M b r ⟨hop, hj0⟩)
                have hgo : go = 0 := by
                  rcases hst.2 with ⟨h1, _⟩ | ⟨g, cap', cur, h1, _⟩
                  · cases h1
                  · simp only [Value.slice.injEq, Option.some.injEq, Addr.mk.injEq, true_and, and_true] at h1
                    exact h1.1.2
                subst hgo
                have hfz := hst.frozenAt p.length
                have hsd := hst.stored p.length (.int .i64 (joinN b r))
                rw [show (ints (Jts.all ⟨p, some b, M⟩)).set p.length (.int .i64 (joinN b r)) = ints (p ++ [joinN b r] ++ M) from set_mid p M b (joinN b r)] at hsd
                have HSD : Hid _ := hsd
                have SJ : Hid _ := sjoin_any b r
                have hpb : wr.cell? ⟨gb, p.length, none⟩ = some (.int .i64 b) := by have := hcb; rw [Nat.zero_add] at this; exact this
                clear hop hst hsd hcb
                generalize joinN b r = jn at *
                go_wp2_with fail
                refine (SJ.out _).mono ?_
                rintro e w' ⟨rfl, rfl⟩
                go_wp2
                go_roundw
                case rel => exact ⟨k + 1, by omega, by go_num, by rw [HST.out]; rfl, by rw [HST.out]; exact own_cast HSD.out.1 (by rw [← HN.out]; simp [Jts.all]) rfl, Below.grown BWH.out HSD.out.2 (Below.size BWH.out) (fun g hg => (World.ownsRow.lt OW.out g (by rw [← hg]; rfl)).1)⟩
                case measure => simp [intOf]; omega
              · have HST : Hid (jtsOf (L.take (k + 1)) = Jts.next ⟨p, some b, M⟩ r) := HSTEP.out.trans (Jts.step_no p M b r (fun h => hj0 h.2))
                have SJ : Hid _ := sjoin_any b r
                clear hop hst
                generalize joinN b r = jn at *
                go_wp2_with fail
                refine (SJ.out _).mono ?_
                rintro e w' ⟨rfl, rfl⟩
                cases hmk : markB r
                · have HM : Hid _ := hmk
                  have HAT : Hid (Jts.at (Jts.next ⟨p, some b, M⟩ r) = (N : Int)) := by show _ = _; rw [Jts.next_at_no _ r hmk, HN.out]
                  clear hmk
                  go_wp2_with (first | (go_at_call 36; refine (smark_any r _).mono ?_; rintro e w' ⟨rfl, hw⟩; obtain rfl := hw.symm; rw [HM.out]) | (at_builtin; refine wpA _ rfl _ _ rfl w.heap.size _ _ _ rfl (World.ownsRow.alloc OW.out _) _ [r] 1 1 rfl rfl (ints_new _ r _ _ rfl) ?c1 ?c2 ?_))
                  all_goals try (case c1 => omega)
                  all_goals try (case c2 => have := Below.size BWH.out; simp; omega)
                  intro v3 w3 hown3 hgr3 _
                  have B3 : Hid (Below w.heap.size w w3) := Below.grown (Below.alloc BWH.out (Below.size BWH.out) _) hgr3 (by have := Below.size BWH.out; simp; omega) (fun g hg => (World.ownsRow.lt OW.out g hg).1)
                  have O3 : Hid (w3.ownsRow w.heap.size 3 1 v3 (Jts.all (Jts.next ⟨p, some b, M⟩ r)).length (ints (Jts.all (Jts.next ⟨p, some b, M⟩ r)))) := own_cast hown3 (by rw [Jts.next_all, List.length_append, HN.out]; rfl) (by rw [Jts.next_all]; simp [ints, Jts.all])
                  clear hgr3 hown3
                  go_wp2
                  go_roundw
                  case rel => exact ⟨k + 1, by omega, by go_num, by rw [HST.out, HAT.out], by rw [HST.out]; exact O3.out, B3.out⟩
                  case measure => simp [intOf]; omega
                · have HM : Hid _ := hmk
                  have HAT : Hid (Jts.at (Jts.next ⟨p, some b, M⟩ r) = (p.length : Int)) := by show _ = _; rw [Jts.next_at_mark _ r hmk]; exact HATV.out
                  clear hmk
                  go_wp2_with (first | (go_at_call 36; refine (smark_any r _).mono ?_; rintro e w' ⟨rfl, hw⟩; obtain rfl := hw.symm; rw [HM.out]) | (at_builtin; refine wpA _ rfl _ _ rfl w.heap.size _ _ _ rfl (World.ownsRow.alloc OW.out _) _ [r] 1 1 rfl rfl (ints_new _ r _ _ rfl) ?c1 ?c2 ?_))
                  all_goals try (case c1 => omega)
                  all_goals try (case c2 => have := Below.size BWH.out; simp; omega)
                  intro v3 w3 hown3 hgr3 _
                  have B3 : Hid (Below w.heap.size w w3) := Below.grown (Below.alloc BWH.out (Below.size BWH.out) _) hgr3 (by have := Below.size BWH.out; simp; omega) (fun g hg => (World.ownsRow.lt OW.out g hg).1)
                  have O3 : Hid (w3.ownsRow w.heap.size 3 1 v3 (Jts.all (Jts.next ⟨p, some b, M⟩ r)).length (ints (Jts.all (Jts.next ⟨p, some b, M⟩ r)))) := own_cast hown3 (by rw [Jts.next_all, List.length_append, HN.out]; rfl) (by rw [Jts.next_all]; simp [ints, Jts.all])
                  clear hgr3 hown3
                  go_wp2
                  go_roundw
                  case rel => exact ⟨k + 1, by omega, by go_num, by rw [HST.out, HAT.out], by rw [HST.out]; exact O3.out, B3.out⟩
                  case measure => simp [intOf]; omega
    · obtain rfl : k = L.length := by omega
      rw [List.take_length] at hown
      go_wp2
      go_ret
      exact ⟨_, rfl, hown, hbw⟩
end Go.Proofs.Ytjfehgmpcgepnaa
