/-
  For every two lists of bytes, laws.FnBorders returns true: at a drawn list BordersOf and LeastPeriod answer as the specification's, the list has the period that is told and none that is shorter; at a drawn list and word PlacesOf answers as the specification's, and the word stands at each place. No conditions.
-/
import Derived.Test.YtabjjlcjephhkaaW8R
import Derived.Test.YtabjjlcjephhkaaArgB
import Derived.Deep.QuietTactic
import Derived.BigQuiet
namespace Go.Proofs.Ytabjjlcjephhkaa
open Go.ChangeShapes Go.WideShapes Go.ChangeAt Go.WideMaps Go.WideElems Go.RowKit
namespace LawBorders
theorem own : ownKnob Try.prog.godebug = none := by kernel_rfl
theorem laidOut : laidOutB Try.prog = true := by kernel_rfl
set_option maxRecDepth 100000 in
set_option maxHeartbeats 16000000 in
theorem walk_in (a0 : Option Addr) (n0 c0 : Nat) (a1 : Option Addr) (n1 c1 : Nat) (w : World) (hA : ArgB w a0 n0) (hM : ArgB w a1 n1) (hn0 : (n0 : Int) ≤ 1048576) (hn1 : (n1 : Int) ≤ 1048576 - n0) :
    Calls Try.prog 3 #[.slice a0 n0 c0, .slice a1 n1 c1] w fun e w' => e = .returned (.bool true) ∧ Below w.heap.size w w' := by
  have HA : Hid _ := hA
  have HM : Hid _ := hM
  have hn0' : ¬ (1048576 : Int) < (n0 : Int) := by omega
  have hn1' : ¬ (1048576 : Int) - n0 < (n1 : Int) := by omega
  have B0 : Hid (Below w.heap.size w w) := Below.refl _ _
  clear hA hM
  go_enter Try.func3, Try.ntmps3
  go_wp2_with (first | (go_at_call 12; go_in) | fail)
  refine (Calls.mono (dbord_any a0 n0 c0 _ HA.out) ?_)
  rintro e w1 ⟨v1, L, rfl, l1, o1, b⟩
  have B1 : Hid (Below w.heap.size w w1) := b
  obtain ⟨_, aA, cA, rfl, iA⟩ := ints_of_own o1
  have hcA : L.length ≤ cA := own_cap8 o1
  have IA1 : Hid (IntsAt w1 aA L) := iA
  clear b iA o1 B0
  obtain ⟨og, hog⟩ : ∃ og, og = okL L := ⟨_, rfl⟩
  obtain ⟨G, hG⟩ : ∃ G, G = bordA L := ⟨_, rfl⟩
  obtain ⟨pb, hpb⟩ : ∃ pb, pb = perB L := ⟨_, rfl⟩
  obtain ⟨pv, hpv⟩ : ∃ pv, pv = perV L := ⟨_, rfl⟩
  have HIB : Hid (∀ w', IntsAt w' aA L → Calls Try.prog 14 #[.slice aA L.length cA] w' fun e w'' => ∃ v, e = .returned (.tuple #[v, .bool og]) ∧ w''.ownsRow w'.heap.size 3 1 v G.length (ints G) ∧ Below w'.heap.size w' w'') := fun w' h => by rw [hog, hG]; exact ibordersOf_any L aA cA w' (by omega) hcA h
  have HSB : Hid (∀ w', IntsAt w' aA L → Calls Try.prog 15 #[.slice aA L.length cA] w' fun e w'' => ∃ v, e = .returned (.tuple #[v, .bool og]) ∧ w''.ownsRow w'.heap.size 3 1 v G.length (ints G) ∧ Below w'.heap.size w' w'') := fun w' h => by rw [hog, hG]; exact sbordersOf_any L aA cA w' (by omega) hcA h
  have HIP : Hid (∀ w', IntsAt w' aA L → Calls Try.prog 16 #[.slice aA L.length cA] w' fun e w'' => e = .returned (.tuple #[.int .i64 pv, .bool pb]) ∧ Below w'.heap.size w' w'') := fun w' h => by rw [hpb, hpv]; exact iperOf_any L aA cA w' (by omega) hcA h
  have HSP : Hid (∀ w', IntsAt w' aA L → Calls Try.prog 17 #[.slice aA L.length cA] w' fun e w'' => e = .returned (.tuple #[.int .i64 pv, .bool pb]) ∧ Below w'.heap.size w' w'') := fun w' h => by rw [hpb, hpv]; exact sperOf_any L aA cA w' (by omega) hcA h
  have hlG : G.length ≤ 1048576 := by rw [hG]; exact bordA_len L (by omega)
  have HPP : Hid (pb = true → ∃ p : Nat, pv = (p : Int) ∧ 1 ≤ p ∧ p ≤ L.length ∧ (∀ k, p ≤ k → k < L.length → L.getD k 0 = L.getD (k - p) 0) ∧ ∀ q, 1 ≤ q → q < p → ¬ ∀ k, q ≤ k → k < L.length → L.getD k 0 = L.getD (k - q) 0) := fun h => by rw [hpv]; exact per_parts (hpb.symm.trans h)
  clear hog hG hpb hpv
  have bbg : (og == og) = true := by simp
  have bbp : (pb == pb) = true := by simp
  go_wp2_with fail
  refine (Calls.mono (HIB.out _ IA1.out) ?_)
  rintro e w2 ⟨v, rfl, ox, b⟩
  have B2 : Hid (Below w.heap.size w w2) := B1.out.trans (b.mono B1.out.size)
  have IA2 : Hid _ := IntsAt.keepB IA1.out b
  obtain ⟨_, aX, cX, rfl, iX⟩ := ints_of_own ox
  have IX2 : Hid _ := iX
  clear b ox iX B1 IA1
  go_wp2_with fail
  refine (Calls.mono (HSB.out _ IA2.out) ?_)
  rintro e w3 ⟨v, rfl, ox, b⟩
  have B3 : Hid (Below w.heap.size w w3) := B2.out.trans (b.mono B2.out.size)
  have IA3 : Hid _ := IntsAt.keepB IA2.out b
  have IX3 : Hid _ := IntsAt.keepB IX2.out b
  obtain ⟨_, aY, cY, rfl, iY⟩ := ints_of_own ox
  have IY3 : Hid _ := iY
  clear b ox iY B2 IA2 IX2
  go_wp2_with fail
  refine (Calls.mono (HIP.out _ IA3.out) ?_)
  rintro e w4 ⟨rfl, b⟩
  have B4 : Hid (Below w.heap.size w w4) := B3.out.trans (b.mono B3.out.size)
  have IA4 : Hid _ := IntsAt.keepB IA3.out b
  have IX4 : Hid _ := IntsAt.keepB IX3.out b
  have IY4 : Hid _ := IntsAt.keepB IY3.out b
  clear b B3 IA3 IX3 IY3
  go_wp2_with fail
  refine (Calls.mono (HSP.out _ IA4.out) ?_)
  rintro e w5 ⟨rfl, b⟩
  have B5 : Hid (Below w.heap.size w w5) := B4.out.trans (b.mono B4.out.size)
  have IA5 : Hid _ := IntsAt.keepB IA4.out b
  have IX5 : Hid _ := IntsAt.keepB IX4.out b
  have IY5 : Hid _ := IntsAt.keepB IY4.out b
  clear b B4 IA4 IX4 IY4
  go_wp2_with fail
  refine (Calls.mono (same_any G _ _ _ _ _ hlG IX5.out IY5.out) ?_)
  rintro e w6 ⟨rfl, b⟩
  have B6 : Hid (Below w.heap.size w w6) := B5.out.trans (b.mono B5.out.size)
  have IA6 : Hid (IntsAt w6 aA L) := IntsAt.keepB IA5.out b
  clear b B5 IA5 IX5 IY5 HIB HSB HIP HSP
  cases pb with
  | false =>
    have BT : Hid (Below w.heap.size w w6) := B6.out
    clear HPP B6 IA6
    go_wp2_with fail
    refine (Calls.mono (dplc_any a1 n1 c1 _ (ArgB.below HM.out (by first | exact BT.out | exact BT.out.drew))) ?_)
    rintro e y1 ⟨vT, vM, X, M, rfl, lX, lM, oT, oM, b⟩
    have D1 : Hid (Below w.heap.size w y1) := (by first | exact BT.out.trans (b.mono BT.out.size) | exact BT.out.drew.trans (b.mono BT.out.drew.size))
    obtain ⟨_, aT, cT, rfl, iT⟩ := ints_of_own oT
    obtain ⟨_, aM, cM, rfl, iM⟩ := ints_of_own oM
    have hcT : X.length ≤ cT := own_cap8 oT
    have IT1 : Hid (IntsAt y1 aT X) := iT
    have IM1 : Hid (IntsAt y1 aM M) := iM
    clear b oT oM iT iM BT
    obtain ⟨ok2, hok2⟩ : ∃ ok2, ok2 = okP X M := ⟨_, rfl⟩
    obtain ⟨P, hP⟩ : ∃ P, P = plA X M := ⟨_, rfl⟩
    have HIQ : Hid (∀ w', IntsAt w' aT X → IntsAt w' aM M → Calls Try.prog 20 #[.slice aT X.length cT, .slice aM M.length cM] w' fun e w'' => ∃ v, e = .returned (.tuple #[v, .bool ok2]) ∧ w''.ownsRow w'.heap.size 3 1 v P.length (ints P) ∧ Below w'.heap.size w' w'') := fun w' h h' => by rw [hok2, hP]; exact iplacesOf_any X M aT aM cT cM w' (by omega) (by omega) h h'
    have HSQ : Hid (∀ w', IntsAt w' aT X → IntsAt w' aM M → Calls Try.prog 21 #[.slice aT X.length cT, .slice aM M.length cM] w' fun e w'' => ∃ v, e = .returned (.tuple #[v, .bool ok2]) ∧ w''.ownsRow w'.heap.size 3 1 v P.length (ints P) ∧ Below w'.heap.size w' w'') := fun w' h h' => by rw [hok2, hP]; exact splacesOf_any X M aT aM cT cM w' (by omega) (by omega) hcT h h'
    have hlP : P.length ≤ 1048576 := by rw [hP]; exact plA_len X M (by omega)
    have HPL : Hid (∀ i, i < P.length → ∃ j : Nat, P.getD i 0 = (j : Int) ∧ j + M.length ≤ X.length ∧ (X.take (j + M.length)).drop j = M) := fun i hi => by
      rw [hP] at hi ⊢
      exact plA_at X M i hi
    clear hok2 hP
    have bb2 : (ok2 == ok2) = true := by simp
    go_wp2_with fail
    refine (Calls.mono (HIQ.out _ IT1.out IM1.out) ?_)
    rintro e y2 ⟨v, rfl, ox, b⟩
    have D2 : Hid (Below w.heap.size w y2) := D1.out.trans (b.mono D1.out.size)
    have IT2 : Hid _ := IntsAt.keepB IT1.out b
    have IM2 : Hid _ := IntsAt.keepB IM1.out b
    obtain ⟨_, aP, cP, rfl, iP⟩ := ints_of_own ox
    have IP2 : Hid (IntsAt y2 aP P) := iP
    clear b ox iP D1 IT1 IM1
    go_wp2_with fail
    refine (Calls.mono (HSQ.out _ IT2.out IM2.out) ?_)
    rintro e y3 ⟨v, rfl, ox, b⟩
    have D3 : Hid (Below w.heap.size w y3) := D2.out.trans (b.mono D2.out.size)
    have IT3 : Hid _ := IntsAt.keepB IT2.out b
    have IM3 : Hid _ := IntsAt.keepB IM2.out b
    have IP3 : Hid _ := IntsAt.keepB IP2.out b
    obtain ⟨_, aQ, cQ, rfl, iQ⟩ := ints_of_own ox
    have IQ3 : Hid (IntsAt y3 aQ P) := iQ
    clear b ox iQ D2 IT2 IM2 IP2
    go_wp2_with fail
    refine (Calls.mono (same_any P _ _ _ _ _ hlP IP3.out IQ3.out) ?_)
    rintro e y4 ⟨rfl, b⟩
    have D4 : Hid (Below w.heap.size w y4) := D3.out.trans (b.mono D3.out.size)
    have IT4 : Hid (IntsAt y4 aT X) := IntsAt.keepB IT3.out b
    have IM4 : Hid (IntsAt y4 aM M) := IntsAt.keepB IM3.out b
    have IP4 : Hid (IntsAt y4 aP P) := IntsAt.keepB IP3.out b
    clear b D3 IT3 IM3 IP3 IQ3 HIQ HSQ
    go_wp2
    go_loopw [144] (fun i wr => ∃ k : Nat, k ≤ P.length ∧ i = .int .i64 k ∧ Below y4.heap.size y4 wr) (fun i _ => P.length - (intOf i).toNat)
    case atStart => exact ⟨0, Nat.zero_le _, rfl, Below.refl _ _⟩
    case round =>
      obtain ⟨k, hk, rfl, hbz⟩ := hrel
      obtain ⟨y5, hy5⟩ : ∃ y5, y5 = wr := ⟨_, rfl⟩
      subst hy5
      have D5 : Hid (Below y4.heap.size y4 y5) := hbz
      clear hbz
      by_cases hlt : k < P.length
      · have hltI : (k : Int) < (P.length : Int) := by omega
        obtain ⟨j, hj, hjm, hjs⟩ := HPL.out k hlt
        obtain ⟨b1, o1, rfl, m1, h1⟩ := (IntsAt.keepB IP4.out D5.out) k hlt
        rw [hj] at h1
        obtain ⟨A, C, hcut, hci⟩ := cut_ints aT X.length cT j (j + M.length) (by omega) hjm hcT
        rw [show ((j + M.length : Nat) : Int) = (j : Int) + (M.length : Int) by omega, show j + M.length - j = M.length by omega] at hcut
        have hw1 : IntKind.i64.wrap ((j : Int) + (M.length : Int)) = (j : Int) + (M.length : Int) := IntWalk.i64_in _ (by omega)
        have HC : Hid (∀ w', Below y4.heap.size y4 w' → Calls Try.prog 18 #[.slice A M.length C, .slice aM M.length cM] w' fun e w'' => e = .returned (.bool true) ∧ Below w'.heap.size w' w'') := fun w' hb => by
          have iA := hci w' X rfl (IntsAt.keepB IT4.out hb)
          rw [hjs] at iA
          exact same_any M A aM C cM w' (by omega) iA (IntsAt.keepB IM4.out hb)
        clear hj hjs hci
        go_wp2_with fail
        refine (Calls.mono (HC.out _ (by first | exact D5.out | exact D5.out.drew)) ?_)
        rintro e y6 ⟨rfl, b⟩
        have D6 : Hid (Below y4.heap.size y4 y6) := (by first | exact D5.out.trans (b.mono D5.out.size) | exact D5.out.drew.trans (b.mono D5.out.drew.size))
        clear b
        go_wp2
        go_roundw
        case rel => exact ⟨k + 1, by omega, by go_num, D6.out⟩
        case measure => simp [intOf]; omega
      · obtain rfl : k = P.length := by omega
        have hltI : ¬ (P.length : Int) < (P.length : Int) := by omega
        go_wp2
        go_ret
        exact ⟨rfl, D4.out.trans ((by first | exact D5.out | exact D5.out.drew : Below y4.heap.size y4 _).mono D4.out.size)⟩
  | true =>
    obtain ⟨p, rfl, p1, p2, PY, PN⟩ := HPP.out rfl
    have HPY : Hid _ := PY
    have HPN : Hid _ := PN
    clear HPP PY PN
    go_wp2
    go_loopw [14] (fun i wr => ∃ k : Nat, p ≤ k ∧ k ≤ L.length ∧ i = .int .i64 k ∧ Below w6.heap.size w6 wr) (fun i _ => L.length - (intOf i).toNat)
    case atStart => exact ⟨p, Nat.le_refl _, p2, rfl, by first | exact Below.refl _ _ | exact below_drewN (Below.refl _ _) _⟩
    case round =>
      obtain ⟨k, hk1, hk2, rfl, hbz⟩ := hrel
      have BZ : Hid (Below w6.heap.size w6 wr) := hbz
      clear hbz
      by_cases hlt : k < L.length
      · have hltI : (k : Int) < (L.length : Int) := by omega
        obtain ⟨d, hd⟩ : ∃ d, d = k - p := ⟨_, rfl⟩
        have hsub : (k : Int) - (p : Int) = (d : Int) := by omega
        have hsubw : IntKind.i64.wrap ((k : Int) - (p : Int)) = (d : Int) := by rw [hsub]; exact IntWalk.i64_in _ (by omega)
        have hdw : IntKind.i64.wrap (d : Int) = (d : Int) := IntWalk.i64_in _ (by omega)
        have hd2 : d < L.length := by omega
        have hdI : (d : Int) < (L.length : Int) := by omega
        obtain ⟨b1, o1, rfl, m1, h1⟩ := (IntsAt.keepB IA6.out BZ.out) k hlt
        obtain ⟨b2, o2, e2, m2, h2⟩ := (IntsAt.keepB IA6.out BZ.out) d hd2
        cases e2
        rw [HPY.out k hk1 hlt, ← hd] at h1
        generalize L.getD d 0 = x at h1 h2
        clear hd
        go_wp2
        go_quiet (fail)
        go_wp2
        go_roundw
        case rel => exact ⟨k + 1, by omega, by omega, by go_num, by first | exact BZ.out | exact below_drewN BZ.out _⟩
        case measure => simp [intOf]; omega
      · obtain rfl : k = L.length := by omega
        obtain ⟨w7, hw7⟩ : ∃ w7, w7 = wr := ⟨_, rfl⟩
        subst hw7
        have hltI : ¬ (L.length : Int) < (L.length : Int) := by omega
        go_wp2
        go_loopw [15] (fun i wr => ∃ q : Nat, 1 ≤ q ∧ q ≤ p ∧ i = .int .i64 q ∧ Below w6.heap.size w6 wr) (fun i _ => p - (intOf i).toNat)
        case atStart => exact ⟨1, Nat.le_refl _, p1, rfl, by first | exact BZ.out | exact below_drewN BZ.out _⟩
        case round =>
          obtain ⟨q, hq1, hq2, rfl, hbz⟩ := hrel
          obtain ⟨w8, hw8⟩ : ∃ w8, w8 = wr := ⟨_, rfl⟩
          subst hw8
          have B8 : Hid (Below w6.heap.size w6 w8) := hbz
          clear hbz
          by_cases hqp : q < p
          · have hqI : (q : Int) < (p : Int) := by omega
            go_wp2
            go_loopw [16, 17] (fun av i wr => ∃ (a : Bool) (k : Nat), q ≤ k ∧ k ≤ L.length ∧ av = .bool a ∧ i = .int .i64 k ∧ (a = true → ∀ j, q ≤ j → j < k → L.getD j 0 = L.getD (j - q) 0) ∧ Below w6.heap.size w6 wr) (fun _ i _ => L.length - (intOf i).toNat)
            case atStart => exact ⟨true, q, Nat.le_refl _, by omega, rfl, rfl, fun _ j j1 j2 => absurd j2 (by omega), by first | exact B8.out | exact below_drewN B8.out _⟩
            case round =>
              obtain ⟨a, k, hk1, hk2, rfl, rfl, hall, hbz⟩ := hrel
              have B9 : Hid (Below w6.heap.size w6 wr) := hbz
              have HALL : Hid _ := hall
              clear hbz hall
              by_cases hlt : k < L.length
              · have hltK : (k : Int) < (L.length : Int) := by omega
                obtain ⟨d, hd⟩ : ∃ d, d = k - q := ⟨_, rfl⟩
                have hsub : (k : Int) - (q : Int) = (d : Int) := by omega
                have hsubw : IntKind.i64.wrap ((k : Int) - (q : Int)) = (d : Int) := by rw [hsub]; exact IntWalk.i64_in _ (by omega)
                have hdw : IntKind.i64.wrap (d : Int) = (d : Int) := IntWalk.i64_in _ (by omega)
                have hd2 : d < L.length := by omega
                have hdI : (d : Int) < (L.length : Int) := by omega
                obtain ⟨b1, o1, rfl, m1, h1⟩ := (IntsAt.keepB IA6.out B9.out) k hlt
                obtain ⟨b2, o2, e2, m2, h2⟩ := (IntsAt.keepB IA6.out B9.out) d hd2
                cases e2
                have HD : Hid (d = k - q) := hd
                clear hd
                cases a with
                | false =>
                  clear h1 h2
                  go_wp2
                  go_quiet (fail)
                  go_wp2
                  go_roundw
                  case rel => exact ⟨false, k + 1, by omega, by omega, rfl, by go_num, (fun h => by cases h), by first | exact B9.out | exact below_drewN B9.out _⟩
                  case measure => simp [intOf]; omega
                | true =>
                  by_cases hxy : L.getD k 0 = L.getD d 0
                  · have HX : Hid (L.getD k 0 = L.getD d 0) := hxy
                    rw [hxy] at h1
                    clear hxy
                    generalize hx : L.getD d 0 = x at h1 h2
                    have HX2 : Hid (L.getD d 0 = x) := hx
                    clear hx
                    go_wp2
                    go_quiet (fail)
                    go_wp2
                    go_roundw
                    case rel => exact ⟨true, k + 1, by omega, by omega, rfl, by go_num, fun _ j j1 j2 => by
                      by_cases e : j = k
                      · rw [e, HX.out, HD.out]
                      · exact HALL.out (by trivial) j j1 (by omega), by first | exact B9.out | exact below_drewN B9.out _⟩
                    case measure => simp [intOf]; omega
                  · generalize L.getD k 0 = x at h1 hxy
                    generalize L.getD d 0 = y at h2 hxy
                    have hxyb : decide (x = y) = false := decide_eq_false hxy
                    have hxyc : (x == y) = false := by simpa using hxy
                    go_wp2
                    go_quiet (fail)
                    go_wp2
                    go_roundw
                    case rel => exact ⟨false, k + 1, by omega, by omega, rfl, by go_num, (fun h => by cases h), by first | exact B9.out | exact below_drewN B9.out _⟩
                    case measure => simp [intOf]; omega
              · obtain rfl : k = L.length := by omega
                cases a with
                | true => exact absurd (HALL.out (by trivial)) (HPN.out q hq1 hqp)
                | false =>
                  have hltK : ¬ (L.length : Int) < (L.length : Int) := by omega
                  go_wp2
                  go_roundw
                  case rel => exact ⟨q + 1, by omega, by omega, by go_num, by first | exact B9.out | exact below_drewN B9.out _⟩
                  case measure => simp [intOf]; omega
          · obtain rfl : q = p := by omega
            have hqI : ¬ (q : Int) < (q : Int) := by omega
            have BT : Hid (Below w.heap.size w w8) := B6.out.trans (B8.out.mono B6.out.size)
            clear B6 B8 IA6 HPY HPN BZ
            go_wp2_with fail
            refine (Calls.mono (dplc_any a1 n1 c1 _ (ArgB.below HM.out (by first | exact BT.out | exact BT.out.drew))) ?_)
            rintro e y1 ⟨vT, vM, X, M, rfl, lX, lM, oT, oM, b⟩
            have D1 : Hid (Below w.heap.size w y1) := (by first | exact BT.out.trans (b.mono BT.out.size) | exact BT.out.drew.trans (b.mono BT.out.drew.size))
            obtain ⟨_, aT, cT, rfl, iT⟩ := ints_of_own oT
            obtain ⟨_, aM, cM, rfl, iM⟩ := ints_of_own oM
            have hcT : X.length ≤ cT := own_cap8 oT
            have IT1 : Hid (IntsAt y1 aT X) := iT
            have IM1 : Hid (IntsAt y1 aM M) := iM
            clear b oT oM iT iM BT
            obtain ⟨ok2, hok2⟩ : ∃ ok2, ok2 = okP X M := ⟨_, rfl⟩
            obtain ⟨P, hP⟩ : ∃ P, P = plA X M := ⟨_, rfl⟩
            have HIQ : Hid (∀ w', IntsAt w' aT X → IntsAt w' aM M → Calls Try.prog 20 #[.slice aT X.length cT, .slice aM M.length cM] w' fun e w'' => ∃ v, e = .returned (.tuple #[v, .bool ok2]) ∧ w''.ownsRow w'.heap.size 3 1 v P.length (ints P) ∧ Below w'.heap.size w' w'') := fun w' h h' => by rw [hok2, hP]; exact iplacesOf_any X M aT aM cT cM w' (by omega) (by omega) h h'
            have HSQ : Hid (∀ w', IntsAt w' aT X → IntsAt w' aM M → Calls Try.prog 21 #[.slice aT X.length cT, .slice aM M.length cM] w' fun e w'' => ∃ v, e = .returned (.tuple #[v, .bool ok2]) ∧ w''.ownsRow w'.heap.size 3 1 v P.length (ints P) ∧ Below w'.heap.size w' w'') := fun w' h h' => by rw [hok2, hP]; exact splacesOf_any X M aT aM cT cM w' (by omega) (by omega) hcT h h'
            have hlP : P.length ≤ 1048576 := by rw [hP]; exact plA_len X M (by omega)
            have HPL : Hid (∀ i, i < P.length → ∃ j : Nat, P.getD i 0 = (j : Int) ∧ j + M.length ≤ X.length ∧ (X.take (j + M.length)).drop j = M) := fun i hi => by
              rw [hP] at hi ⊢
              exact plA_at X M i hi
            clear hok2 hP
            have bb2 : (ok2 == ok2) = true := by simp
            go_wp2_with fail
            refine (Calls.mono (HIQ.out _ IT1.out IM1.out) ?_)
            rintro e y2 ⟨v, rfl, ox, b⟩
            have D2 : Hid (Below w.heap.size w y2) := D1.out.trans (b.mono D1.out.size)
            have IT2 : Hid _ := IntsAt.keepB IT1.out b
            have IM2 : Hid _ := IntsAt.keepB IM1.out b
            obtain ⟨_, aP, cP, rfl, iP⟩ := ints_of_own ox
            have IP2 : Hid (IntsAt y2 aP P) := iP
            clear b ox iP D1 IT1 IM1
            go_wp2_with fail
            refine (Calls.mono (HSQ.out _ IT2.out IM2.out) ?_)
            rintro e y3 ⟨v, rfl, ox, b⟩
            have D3 : Hid (Below w.heap.size w y3) := D2.out.trans (b.mono D2.out.size)
            have IT3 : Hid _ := IntsAt.keepB IT2.out b
            have IM3 : Hid _ := IntsAt.keepB IM2.out b
            have IP3 : Hid _ := IntsAt.keepB IP2.out b
            obtain ⟨_, aQ, cQ, rfl, iQ⟩ := ints_of_own ox
            have IQ3 : Hid (IntsAt y3 aQ P) := iQ
            clear b ox iQ D2 IT2 IM2 IP2
            go_wp2_with fail
            refine (Calls.mono (same_any P _ _ _ _ _ hlP IP3.out IQ3.out) ?_)
            rintro e y4 ⟨rfl, b⟩
            have D4 : Hid (Below w.heap.size w y4) := D3.out.trans (b.mono D3.out.size)
            have IT4 : Hid (IntsAt y4 aT X) := IntsAt.keepB IT3.out b
            have IM4 : Hid (IntsAt y4 aM M) := IntsAt.keepB IM3.out b
            have IP4 : Hid (IntsAt y4 aP P) := IntsAt.keepB IP3.out b
            clear b D3 IT3 IM3 IP3 IQ3 HIQ HSQ
            go_wp2
            go_loopw [144] (fun i wr => ∃ k : Nat, k ≤ P.length ∧ i = .int .i64 k ∧ Below y4.heap.size y4 wr) (fun i _ => P.length - (intOf i).toNat)
            case atStart => exact ⟨0, Nat.zero_le _, rfl, Below.refl _ _⟩
            case round =>
              obtain ⟨k, hk, rfl, hbz⟩ := hrel
              obtain ⟨y5, hy5⟩ : ∃ y5, y5 = wr := ⟨_, rfl⟩
              subst hy5
              have D5 : Hid (Below y4.heap.size y4 y5) := hbz
              clear hbz
              by_cases hlt : k < P.length
              · have hltI : (k : Int) < (P.length : Int) := by omega
                obtain ⟨j, hj, hjm, hjs⟩ := HPL.out k hlt
                obtain ⟨b1, o1, rfl, m1, h1⟩ := (IntsAt.keepB IP4.out D5.out) k hlt
                rw [hj] at h1
                obtain ⟨A, C, hcut, hci⟩ := cut_ints aT X.length cT j (j + M.length) (by omega) hjm hcT
                rw [show ((j + M.length : Nat) : Int) = (j : Int) + (M.length : Int) by omega, show j + M.length - j = M.length by omega] at hcut
                have hw1 : IntKind.i64.wrap ((j : Int) + (M.length : Int)) = (j : Int) + (M.length : Int) := IntWalk.i64_in _ (by omega)
                have HC : Hid (∀ w', Below y4.heap.size y4 w' → Calls Try.prog 18 #[.slice A M.length C, .slice aM M.length cM] w' fun e w'' => e = .returned (.bool true) ∧ Below w'.heap.size w' w'') := fun w' hb => by
                  have iA := hci w' X rfl (IntsAt.keepB IT4.out hb)
                  rw [hjs] at iA
                  exact same_any M A aM C cM w' (by omega) iA (IntsAt.keepB IM4.out hb)
                clear hj hjs hci
                go_wp2_with fail
                refine (Calls.mono (HC.out _ (by first | exact D5.out | exact D5.out.drew)) ?_)
                rintro e y6 ⟨rfl, b⟩
                have D6 : Hid (Below y4.heap.size y4 y6) := (by first | exact D5.out.trans (b.mono D5.out.size) | exact D5.out.drew.trans (b.mono D5.out.drew.size))
                clear b
                go_wp2
                go_roundw
                case rel => exact ⟨k + 1, by omega, by go_num, D6.out⟩
                case measure => simp [intOf]; omega
              · obtain rfl : k = P.length := by omega
                have hltI : ¬ (P.length : Int) < (P.length : Int) := by omega
                go_wp2
                go_ret
                exact ⟨rfl, D4.out.trans ((by first | exact D5.out | exact D5.out.drew : Below y4.heap.size y4 _).mono D4.out.size)⟩
set_option maxRecDepth 100000 in
set_option maxHeartbeats 1000000 in
theorem walk_big (a0 : Option Addr) (n0 c0 : Nat) (a1 : Option Addr) (n1 c1 : Nat) (w : World) (h : (1048576 : Int) < n0 ∨ ((n0 : Int) ≤ 1048576 ∧ (1048576 : Int) - n0 < n1)) :
    Calls Try.prog 3 #[.slice a0 n0 c0, .slice a1 n1 c1] w fun e w' => e = .returned (.bool true) ∧ Below w.heap.size w w' := by
  rcases h with h | ⟨h1, h2⟩
  · go_enter Try.func3, Try.ntmps3
    go_wp2_with (first | (go_at_call 12; go_in) | fail)
    go_ret
    exact ⟨rfl, Below.refl _ _⟩
  · have h1' : ¬ (1048576 : Int) < (n0 : Int) := by omega
    go_enter Try.func3, Try.ntmps3
    go_wp2_with (first | (go_at_call 12; go_in) | fail)
    go_ret
    exact ⟨rfl, Below.refl _ _⟩
theorem walk (a0 : Option Addr) (n0 c0 : Nat) (a1 : Option Addr) (n1 c1 : Nat) (w : World) (hA : ArgB w a0 n0) (hM : ArgB w a1 n1) :
    Calls Try.prog 3 #[.slice a0 n0 c0, .slice a1 n1 c1] w fun e w' => e = .returned (.bool true) ∧ Below w.heap.size w w' := by
  by_cases h : (1048576 : Int) < n0 ∨ ((n0 : Int) ≤ 1048576 ∧ (1048576 : Int) - n0 < n1)
  · exact walk_big a0 n0 c0 a1 n1 c1 w h
  · exact walk_in a0 n0 c0 a1 n1 c1 w hA hM (by omega) (by omega)
set_option maxRecDepth 100000 in
theorem lifted (os : Os) (started : os.Started) (H : Type) (enc : TypeId × Value → H) :
    ReturnsInHanded {} Try.checked os 3 .any (Rows.fnBordersSpec.pre6 enc Try.prog Try.f3 Rows.fnBordersRow.domain false) (Rows.fnBordersSpec.post enc Try.prog Try.f3 false true false false) := by
  refine returnsInHanded_of_change (C := Try.checked) own started (by kernel_rfl) Try.func3
    (ChangeSpec.witness6 (enc := enc) (C := Try.checked) false ⟨#[], #[.slice none 0 0, .slice none 0 0], []⟩ 8 (by kernel_rfl) (by kernel_rfl) (by kernel_rfl) (by kernel_rfl)) ?_
  intro W base args ds gs before hval0 hW hcnd _
  have hval : ∀ (j : Nat) t v, Try.f3.params[j]? = some t → args[j]? = some v → Value.okWide Try.prog W .any base t v := hval0
  have hW' := hW
  obtain ⟨p, q, hA0, hV, rfl, hfz, hnd⟩ := hW
  have hA : DataW.TrodAll enc Try.prog W 0 (fun _ => true) true Try.f3.params.toList args.toList ds p := hA0
  rw [Try.params3] at hA hval
  obtain ⟨v0, vs0, d0, ds0, p0, q0, hargs, rfl, rfl, h0, r0⟩ := trodAll_cons hA
  obtain ⟨v1, vs1, d1, ds1, p1, q1, hargs1, rfl, rfl, h1, r1⟩ := trodAll_cons r0
  obtain ⟨rfl, rfl, rfl⟩ := trodAll_nil r1
  obtain rfl : args = #[v0, v1] := by cases args; simp_all
  obtain ⟨rfl, rfl⟩ := trodVars_none hV
  obtain ⟨a0, len0, cap0, rfl⟩ := okWide_slice Try.underlying22 (hval 0 22 v0 rfl rfl)
  obtain ⟨a1, len1, cap1, rfl⟩ := okWide_slice Try.underlying22 (hval 1 22 v1 rfl rfl)
  have k0 := h0
  have k1 := h1
  have lt0 : ∀ x ∈ p0, x.block < W.heap.size := by obtain ⟨m, hm⟩ := k0; exact DataW.trod_lt m _ _ _ hm
  have lt1 : ∀ x ∈ p1, x.block < W.heap.size := by obtain ⟨m, hm⟩ := k1; exact DataW.trod_lt m _ _ _ hm
  have i0 : ArgB W a0 len0 := by obtain ⟨fuel, hf⟩ := h0; exact argB_of hf
  have i1 : ArgB W a1 len1 := by obtain ⟨fuel, hf⟩ := h1; exact argB_of hf
  clear hA0 hval0
  refine (walk a0 len0 cap0 a1 len1 cap1 W i0 i1).mono fun e W' ⟨he, bel⟩ => ?_
  subst he
  exact ⟨_, rfl, _, _, _, [], _, [], hW', trodAll_mk1 (shut_bool Try.underlying4 _), trodAll_cons_mk (Below.trod laidOut (by kernel_rfl) (of_decide_eq_true (by kernel_rfl)) k0 bel lt0) (trodAll_cons_mk (Below.trod laidOut (by kernel_rfl) (of_decide_eq_true (by kernel_rfl)) k1 bel lt1) trodAll_mk0), rfl, bel.frame _, fun h => by cases h⟩
theorem row : Rows.FnBordersSaid :=
  OpenClaim.holds_of_wide 3 Try.f3 rfl rfl rfl rfl rfl rfl rfl ⟨rfl, rfl, rfl, rfl, rfl⟩ rfl rfl rfl rfl rfl (by kernel_rfl) Try.func3 (by kernel_rfl)
    (of_decide_eq_true (by kernel_rfl)) (by unfold Func.isWrapper; first | (rw [if_pos (by decide +kernel)]; kernel_rfl) | (rw [if_neg (by decide +kernel)]; exact ⟨rfl, rfl⟩))
    (fun os started H enc _ => lifted os started H enc)
end LawBorders
theorem borders_holds : Rows.FnBordersSaid := LawBorders.row
#print axioms borders_holds
end Go.Proofs.Ytabjjlcjephhkaa
