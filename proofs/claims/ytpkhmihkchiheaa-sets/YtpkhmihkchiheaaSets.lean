/-
  For every two lists of bytes, laws.FnSets returns true: at drawn sets UnionSet, MeetSet, NotSet, GoodSet, InSet and CountSet answer as the specification's, a rune is in a union, a meeting just where it is in one, in both, and the contrary of the contrary is the set, with all numbers between both. No conditions.
-/
import Derived.Test.YtpkhmihkchiheaaSetsB
import Derived.Test.YtpkhmihkchiheaaArgB
import Derived.Test.YtpkhmihkchiheaaC4Ds
import Derived.Test.YtpkhmihkchiheaaC4Dt
import Derived.Deep.DeepCutAuto
namespace Go.Proofs.Ytpkhmihkchiheaa
open Go.ChangeShapes Go.WideShapes Go.ChangeAt Go.WideMaps Go.WideElems Go.RowKit
namespace LawSets
theorem own : ownKnob Try.prog.godebug = none := by kernel_rfl
theorem laidOut : laidOutB Try.prog = true := by kernel_rfl
set_option maxRecDepth 100000 in
set_option maxHeartbeats 16000000 in
theorem walk_in (a0 : Option Addr) (n0 c0 : Nat) (a1 : Option Addr) (n1 c1 : Nat) (w : World) (hA : ArgB w a0 n0) (hM : ArgB w a1 n1) (hn0 : (n0 : Int) ≤ 1048576) (hn1 : (n1 : Int) ≤ 1048576 - n0) :
    Calls Try.prog 4 #[.slice a0 n0 c0, .slice a1 n1 c1] w fun e w' => e = .returned (.bool true) ∧ Below w.heap.size w w' := by
  have HA : Hid _ := hA
  have HM : Hid _ := hM
  have hn0' : ¬ (1048576 : Int) < (n0 : Int) := by omega
  have hn1' : ¬ (1048576 : Int) - n0 < (n1 : Int) := by omega
  have B0 : Hid (Below w.heap.size w w) := Below.refl _ _
  clear hA hM
  go_enter Try.func4, Try.ntmps4
  go_wp2_with (first | (go_at_call 5; go_in) | fail)
  refine (Calls.mono (duni_any a0 n0 c0 _ HA.out) ?_)
  rintro e w1 ⟨v1, v2, L1, L2, rfl, l1, l2, o1, o2, b⟩
  have B1 : Hid (Below w.heap.size w w1) := B0.out.trans (b.mono B0.out.size)
  clear b B0 
  obtain ⟨_, aA, cA, rfl, iA⟩ := ints_of_own o1
  have IA1 : Hid _ := iA
  clear iA o1
  obtain ⟨_, aC, cC, rfl, iC⟩ := ints_of_own o2
  have IC1 : Hid _ := iC
  clear iC o2
  have hl1 : L1.length ≤ 1048576 := by omega
  have hl2 : L2.length ≤ 1048576 := by omega
  obtain ⟨oku, Gu, hu, SPu, IMu, Fu⟩ := uni_both L1 L2 hl1 hl2
  have HSPu : Hid _ := SPu
  have HIMu : Hid _ := IMu
  have HFu : Hid _ := Fu
  clear SPu IMu Fu
  have bbu : (oku == oku) = true := by simp
  obtain ⟨okm, Gm, hm, SPm, IMm, Fm⟩ := meet_both L1 L2 hl1 hl2
  have HSPm : Hid _ := SPm
  have HIMm : Hid _ := IMm
  have HFm : Hid _ := Fm
  clear SPm IMm Fm
  have bbm : (okm == okm) = true := by simp
  obtain ⟨okn, Gn, hn, SPn, IMn, Fn⟩ := not_both L1 hl1
  have HSPn : Hid _ := SPn
  have HIMn : Hid _ := IMn
  have HFn : Hid _ := Fn
  clear SPn IMn Fn
  have bbn : (okn == okn) = true := by simp
  go_wp2_with fail
  refine (Calls.mono (HIMu.out _ _ _ _ _ IA1.out IC1.out) ?_)
  rintro e w2 ⟨v, rfl, ox, b⟩
  have IA2 : Hid _ := IntsAt.keepB IA1.out b
  have IC2 : Hid _ := IntsAt.keepB IC1.out b
  have B2 : Hid (Below w.heap.size w w2) := B1.out.trans (b.mono B1.out.size)
  clear b B1 IA1 IC1
  obtain ⟨_, aU, cU, rfl, iU⟩ := ints_of_own ox
  have IU2 : Hid _ := iU
  clear iU ox
  go_wp2_with fail
  refine (Calls.mono (HSPu.out _ _ _ _ _ IA2.out IC2.out) ?_)
  rintro e w3 ⟨v, rfl, ox, b⟩
  have IA3 : Hid _ := IntsAt.keepB IA2.out b
  have IC3 : Hid _ := IntsAt.keepB IC2.out b
  have IU3 : Hid _ := IntsAt.keepB IU2.out b
  have B3 : Hid (Below w.heap.size w w3) := B2.out.trans (b.mono B2.out.size)
  clear b B2 IA2 IC2 IU2
  obtain ⟨_, aUs, cUs, rfl, iUs⟩ := ints_of_own ox
  have IUs3 : Hid _ := iUs
  clear iUs ox
  go_wp2_with fail
  refine (Calls.mono (HIMm.out _ _ _ _ _ IA3.out IC3.out) ?_)
  rintro e w4 ⟨v, rfl, ox, b⟩
  have IA4 : Hid _ := IntsAt.keepB IA3.out b
  have IC4 : Hid _ := IntsAt.keepB IC3.out b
  have IU4 : Hid _ := IntsAt.keepB IU3.out b
  have IUs4 : Hid _ := IntsAt.keepB IUs3.out b
  have B4 : Hid (Below w.heap.size w w4) := B3.out.trans (b.mono B3.out.size)
  clear b B3 IA3 IC3 IU3 IUs3
  obtain ⟨_, aM, cM, rfl, iM⟩ := ints_of_own ox
  have IM4 : Hid _ := iM
  clear iM ox
  go_wp2_with fail
  refine (Calls.mono (HSPm.out _ _ _ _ _ IA4.out IC4.out) ?_)
  rintro e w5 ⟨v, rfl, ox, b⟩
  have IA5 : Hid _ := IntsAt.keepB IA4.out b
  have IC5 : Hid _ := IntsAt.keepB IC4.out b
  have IU5 : Hid _ := IntsAt.keepB IU4.out b
  have IUs5 : Hid _ := IntsAt.keepB IUs4.out b
  have IM5 : Hid _ := IntsAt.keepB IM4.out b
  have B5 : Hid (Below w.heap.size w w5) := B4.out.trans (b.mono B4.out.size)
  clear b B4 IA4 IC4 IU4 IUs4 IM4
  obtain ⟨_, aMs, cMs, rfl, iMs⟩ := ints_of_own ox
  have IMs5 : Hid _ := iMs
  clear iMs ox
  go_wp2_with fail
  refine (Calls.mono (HIMn.out _ _ _ IA5.out) ?_)
  rintro e w6 ⟨v, rfl, ox, b⟩
  have IA6 : Hid _ := IntsAt.keepB IA5.out b
  have IC6 : Hid _ := IntsAt.keepB IC5.out b
  have IU6 : Hid _ := IntsAt.keepB IU5.out b
  have IUs6 : Hid _ := IntsAt.keepB IUs5.out b
  have IM6 : Hid _ := IntsAt.keepB IM5.out b
  have IMs6 : Hid _ := IntsAt.keepB IMs5.out b
  have B6 : Hid (Below w.heap.size w w6) := B5.out.trans (b.mono B5.out.size)
  clear b B5 IA5 IC5 IU5 IUs5 IM5 IMs5
  obtain ⟨_, aN, cN, rfl, iN⟩ := ints_of_own ox
  have IN6 : Hid _ := iN
  clear iN ox
  go_wp2_with fail
  refine (Calls.mono (HSPn.out _ _ _ IA6.out) ?_)
  rintro e w7 ⟨v, rfl, ox, b⟩
  have IA7 : Hid _ := IntsAt.keepB IA6.out b
  have IC7 : Hid _ := IntsAt.keepB IC6.out b
  have IU7 : Hid _ := IntsAt.keepB IU6.out b
  have IUs7 : Hid _ := IntsAt.keepB IUs6.out b
  have IM7 : Hid _ := IntsAt.keepB IM6.out b
  have IMs7 : Hid _ := IntsAt.keepB IMs6.out b
  have IN7 : Hid _ := IntsAt.keepB IN6.out b
  have B7 : Hid (Below w.heap.size w w7) := B6.out.trans (b.mono B6.out.size)
  clear b B6 IA6 IC6 IU6 IUs6 IM6 IMs6 IN6
  obtain ⟨_, aNs, cNs, rfl, iNs⟩ := ints_of_own ox
  have INs7 : Hid _ := iNs
  clear iNs ox
  go_wp2_with fail
  refine (Calls.mono (same_any Gu _ _ _ _ _ hu IU7.out IUs7.out) ?_)
  rintro e w8 ⟨rfl, b⟩
  have IA8 : Hid _ := IntsAt.keepB IA7.out b
  have IC8 : Hid _ := IntsAt.keepB IC7.out b
  have IU8 : Hid _ := IntsAt.keepB IU7.out b
  have IUs8 : Hid _ := IntsAt.keepB IUs7.out b
  have IM8 : Hid _ := IntsAt.keepB IM7.out b
  have IMs8 : Hid _ := IntsAt.keepB IMs7.out b
  have IN8 : Hid _ := IntsAt.keepB IN7.out b
  have INs8 : Hid _ := IntsAt.keepB INs7.out b
  have B8 : Hid (Below w.heap.size w w8) := B7.out.trans (b.mono B7.out.size)
  clear b B7 IA7 IC7 IU7 IUs7 IM7 IMs7 IN7 INs7
  clear IUs8
  go_wp2_with fail
  refine (Calls.mono (same_any Gm _ _ _ _ _ hm IM8.out IMs8.out) ?_)
  rintro e w9 ⟨rfl, b⟩
  have IA9 : Hid _ := IntsAt.keepB IA8.out b
  have IC9 : Hid _ := IntsAt.keepB IC8.out b
  have IU9 : Hid _ := IntsAt.keepB IU8.out b
  have IM9 : Hid _ := IntsAt.keepB IM8.out b
  have IMs9 : Hid _ := IntsAt.keepB IMs8.out b
  have IN9 : Hid _ := IntsAt.keepB IN8.out b
  have INs9 : Hid _ := IntsAt.keepB INs8.out b
  have B9 : Hid (Below w.heap.size w w9) := B8.out.trans (b.mono B8.out.size)
  clear b B8 IA8 IC8 IU8 IM8 IMs8 IN8 INs8
  clear IMs9
  go_wp2_with fail
  refine (Calls.mono (same_any Gn _ _ _ _ _ hn IN9.out INs9.out) ?_)
  rintro e w10 ⟨rfl, b⟩
  have IA10 : Hid _ := IntsAt.keepB IA9.out b
  have IC10 : Hid _ := IntsAt.keepB IC9.out b
  have IU10 : Hid _ := IntsAt.keepB IU9.out b
  have IM10 : Hid _ := IntsAt.keepB IM9.out b
  have IN10 : Hid _ := IntsAt.keepB IN9.out b
  have INs10 : Hid _ := IntsAt.keepB INs9.out b
  have B10 : Hid (Below w.heap.size w w10) := B9.out.trans (b.mono B9.out.size)
  clear b B9 IA9 IC9 IU9 IM9 IN9 INs9
  clear INs10
  go_wp2_with fail
  refine (Calls.mono (igood4_any L1 _ _ _ hl1 IA10.out) ?_)
  rintro e w11 ⟨rfl, b⟩
  have IA11 : Hid _ := IntsAt.keepB IA10.out b
  have IC11 : Hid _ := IntsAt.keepB IC10.out b
  have IU11 : Hid _ := IntsAt.keepB IU10.out b
  have IM11 : Hid _ := IntsAt.keepB IM10.out b
  have IN11 : Hid _ := IntsAt.keepB IN10.out b
  have B11 : Hid (Below w.heap.size w w11) := B10.out.trans (b.mono B10.out.size)
  clear b B10 IA10 IC10 IU10 IM10 IN10
  have bbg : (goodS L1 == goodS L1) = true := by simp
  go_wp2_with fail
  refine (Calls.mono (sgood4_any L1 _ _ _ hl1 IA11.out) ?_)
  rintro e w12 ⟨rfl, b⟩
  have IA12 : Hid _ := IntsAt.keepB IA11.out b
  have IC12 : Hid _ := IntsAt.keepB IC11.out b
  have IU12 : Hid _ := IntsAt.keepB IU11.out b
  have IM12 : Hid _ := IntsAt.keepB IM11.out b
  have IN12 : Hid _ := IntsAt.keepB IN11.out b
  have B12 : Hid (Below w.heap.size w w12) := B11.out.trans (b.mono B11.out.size)
  clear b B11 IA11 IC11 IU11 IM11 IN11
  clear HSPu HSPm HSPn
  go_wp2_with fail
  refine (Calls.mono (dinS_any a1 n1 c1 _ (ArgB.below HM.out B12.out)) ?_)
  rintro e w13 ⟨v3, L3, r, rfl, l3, hr, o3, b⟩
  have IA13 : Hid _ := IntsAt.keepB IA12.out b
  have IC13 : Hid _ := IntsAt.keepB IC12.out b
  have IU13 : Hid _ := IntsAt.keepB IU12.out b
  have IM13 : Hid _ := IntsAt.keepB IM12.out b
  have IN13 : Hid _ := IntsAt.keepB IN12.out b
  have B13 : Hid (Below w.heap.size w w13) := B12.out.trans (b.mono B12.out.size)
  clear b B12 IA12 IC12 IU12 IM12 IN12
  have HR : Hid _ := hr
  clear o3 hr
  obtain ⟨ga, hga⟩ : ∃ g, goodS L1 = g := ⟨_, rfl⟩
  obtain ⟨pa, hpa⟩ : ∃ p, memS L1 r = p := ⟨_, rfl⟩
  have Kga : Hid (∀ w ao cap, IntsAt w ao L1 → Calls Try.prog 25 #[.slice ao L1.length cap, .int .i64 r] w fun e w' => e = .returned (.tuple #[.bool (ga && pa), .bool ga]) ∧ Below w.heap.size w w') := fun w ao cap h => by rw [← hga, ← hpa]; exact iin_all L1 r ao cap w hl1 HR.out h
  have Hga : Hid (goodS L1 = ga) := hga
  have Hpa : Hid (memS L1 r = pa) := hpa
  clear hga hpa
  obtain ⟨gb, hgb⟩ : ∃ g, goodS L2 = g := ⟨_, rfl⟩
  obtain ⟨pb, hpb⟩ : ∃ p, memS L2 r = p := ⟨_, rfl⟩
  have Kgb : Hid (∀ w ao cap, IntsAt w ao L2 → Calls Try.prog 25 #[.slice ao L2.length cap, .int .i64 r] w fun e w' => e = .returned (.tuple #[.bool (gb && pb), .bool gb]) ∧ Below w.heap.size w w') := fun w ao cap h => by rw [← hgb, ← hpb]; exact iin_all L2 r ao cap w hl2 HR.out h
  have Hgb : Hid (goodS L2 = gb) := hgb
  have Hpb : Hid (memS L2 r = pb) := hpb
  clear hgb hpb
  go_wp2_with fail
  refine (Calls.mono (Kga.out _ _ _ IA13.out) ?_)
  rintro e w14 ⟨rfl, b⟩
  have IA14 : Hid _ := IntsAt.keepB IA13.out b
  have IC14 : Hid _ := IntsAt.keepB IC13.out b
  have IU14 : Hid _ := IntsAt.keepB IU13.out b
  have IM14 : Hid _ := IntsAt.keepB IM13.out b
  have IN14 : Hid _ := IntsAt.keepB IN13.out b
  have B14 : Hid (Below w.heap.size w w14) := B13.out.trans (b.mono B13.out.size)
  clear b B13 IA13 IC13 IU13 IM13 IN13
  go_wp2_with fail
  refine (Calls.mono (Kgb.out _ _ _ IC14.out) ?_)
  rintro e w15 ⟨rfl, b⟩
  have IA15 : Hid _ := IntsAt.keepB IA14.out b
  have IC15 : Hid _ := IntsAt.keepB IC14.out b
  have IU15 : Hid _ := IntsAt.keepB IU14.out b
  have IM15 : Hid _ := IntsAt.keepB IM14.out b
  have IN15 : Hid _ := IntsAt.keepB IN14.out b
  have B15 : Hid (Below w.heap.size w w15) := B14.out.trans (b.mono B14.out.size)
  clear b B14 IA14 IC14 IU14 IM14 IN14
  go_upto_region 15 with fail
  go_cut [146] (fun s wx => ∃ bq, s = .bool bq ∧ bq = (ga && gb) ∧ wx = w15)
  case first =>
    as_aux_lemma =>
      cases ga
      · go_wp2
        go_meet
        exact ⟨false, rfl, rfl, rfl⟩
      · cases gb
        · go_wp2
          go_meet
          exact ⟨false, rfl, rfl, rfl⟩
        · go_wp2
          go_meet
          exact ⟨true, rfl, rfl, rfl⟩
  case rest =>
    obtain ⟨bq, rfl, hbq, rfl⟩ := hcut
    have HBQ : Hid (bq = (ga && gb)) := hbq
    clear hbq
    go_upto_if 146 with fail
    go_cut [25] (fun _ wx => Below w.heap.size w wx ∧ IntsAt wx aA L1 ∧ IntsAt wx aN Gn)
    case first =>
      as_aux_lemma =>
        cases bq
        · go_wp2
          go_meet
          exact ⟨B15.out, IA15.out, IN15.out⟩
        · have hgg : ga = true ∧ gb = true := by
            have h : (ga && gb) = true := (HBQ.out).symm
            rw [Bool.and_eq_true] at h
            exact h
          obtain ⟨rfl, rfl⟩ := hgg
          clear HBQ
          cases oku <;> cases okm
          · skip
            go_wp2_with fail
            refine (Calls.mono (iin_all Gu r _ _ _ hu HR.out IU15.out) ?_)
            rintro e y1 ⟨rfl, b1⟩
            have Y1 : Hid (Below wc.heap.size wc y1) := b1
            have IMy : Hid _ := IntsAt.keepB IM15.out b1
            clear b1
            go_wp2_with fail
            refine (Calls.mono (iin_all Gm r _ _ _ hm HR.out IMy.out) ?_)
            rintro e y2 ⟨rfl, b2⟩
            have Y2 : Hid (Below wc.heap.size wc y2) := Y1.out.trans (b2.mono Y1.out.size)
            clear b2
            go_wp2
            go_meet
            exact ⟨B15.out.trans (Y2.out.mono B15.out.size), IntsAt.keepB IA15.out Y2.out, IntsAt.keepB IN15.out Y2.out⟩
          · skip
            obtain ⟨-, -, m3, m4⟩ := HFm.out rfl
            have m5 := m4 r
            rw [Hpa.out, Hpb.out] at m5
            clear m4
            cases pa <;> cases pb
            all_goals
              go_wp2_with fail
              refine (Calls.mono (iin_all Gu r _ _ _ hu HR.out IU15.out) ?_)
              rintro e y1 ⟨rfl, b1⟩
              have Y1 : Hid (Below wc.heap.size wc y1) := b1
              have IMy : Hid _ := IntsAt.keepB IM15.out b1
              clear b1
              go_wp2_with fail
              refine (Calls.mono (iin_all Gm r _ _ _ hm HR.out IMy.out) ?_)
              rintro e y2 ⟨rfl, b2⟩
              have Y2 : Hid (Below wc.heap.size wc y2) := Y1.out.trans (b2.mono Y1.out.size)
              clear b2
              go_wp2
              go_meet
              exact ⟨B15.out.trans (Y2.out.mono B15.out.size), IntsAt.keepB IA15.out Y2.out, IntsAt.keepB IN15.out Y2.out⟩
          · skip
            obtain ⟨-, -, u3, u4⟩ := HFu.out rfl
            have u5 := u4 r
            rw [Hpa.out, Hpb.out] at u5
            clear u4
            cases pa <;> cases pb
            all_goals
              go_wp2_with fail
              refine (Calls.mono (iin_all Gu r _ _ _ hu HR.out IU15.out) ?_)
              rintro e y1 ⟨rfl, b1⟩
              have Y1 : Hid (Below wc.heap.size wc y1) := b1
              have IMy : Hid _ := IntsAt.keepB IM15.out b1
              clear b1
              go_wp2_with fail
              refine (Calls.mono (iin_all Gm r _ _ _ hm HR.out IMy.out) ?_)
              rintro e y2 ⟨rfl, b2⟩
              have Y2 : Hid (Below wc.heap.size wc y2) := Y1.out.trans (b2.mono Y1.out.size)
              clear b2
              go_wp2
              go_meet
              exact ⟨B15.out.trans (Y2.out.mono B15.out.size), IntsAt.keepB IA15.out Y2.out, IntsAt.keepB IN15.out Y2.out⟩
          · skip
            obtain ⟨-, -, u3, u4⟩ := HFu.out rfl
            have u5 := u4 r
            rw [Hpa.out, Hpb.out] at u5
            clear u4
            obtain ⟨-, -, m3, m4⟩ := HFm.out rfl
            have m5 := m4 r
            rw [Hpa.out, Hpb.out] at m5
            clear m4
            cases pa <;> cases pb
            all_goals
              go_wp2_with fail
              refine (Calls.mono (iin_all Gu r _ _ _ hu HR.out IU15.out) ?_)
              rintro e y1 ⟨rfl, b1⟩
              have Y1 : Hid (Below wc.heap.size wc y1) := b1
              have IMy : Hid _ := IntsAt.keepB IM15.out b1
              clear b1
              go_wp2_with fail
              refine (Calls.mono (iin_all Gm r _ _ _ hm HR.out IMy.out) ?_)
              rintro e y2 ⟨rfl, b2⟩
              have Y2 : Hid (Below wc.heap.size wc y2) := Y1.out.trans (b2.mono Y1.out.size)
              clear b2
              go_wp2
              go_meet
              exact ⟨B15.out.trans (Y2.out.mono B15.out.size), IntsAt.keepB IA15.out Y2.out, IntsAt.keepB IN15.out Y2.out⟩
    case rest =>
      obtain ⟨cb, ca, cn⟩ := hcut
      have CB : Hid _ := cb
      have CA : Hid _ := ca
      have CN : Hid _ := cn
      clear cb ca cn B15 IA15 IC15 IU15 IM15 IN15
      go_upto_if 187 with fail
      go_cut [29] (fun _ wx => Below w.heap.size w wx)
      case first =>
        as_aux_lemma =>
          cases okn
          · go_wp2
            go_meet
            exact CB.out
          · obtain ⟨g1, g2, g3, g4⟩ := HFn.out rfl
            have G4 : Hid _ := g4
            clear g4
            go_wp2_with fail
            refine (Calls.mono (G4.out _ _ _ CN.out) ?_)
            rintro e y1 ⟨v6, rfl, ox, b⟩
            have Y1 : Hid _ := b
            have A1 : Hid _ := IntsAt.keepB CA.out b
            have N1 : Hid _ := IntsAt.keepB CN.out b
            obtain ⟨_, aR, cR, rfl, iR⟩ := ints_of_own ox
            have R1 : Hid _ := iR
            clear iR ox b
            go_wp2_with fail
            refine (Calls.mono (icount_yes L1 _ _ _ g1 A1.out) ?_)
            rintro e y2 ⟨rfl, b⟩
            have A2 : Hid _ := IntsAt.keepB A1.out b
            have N2 : Hid _ := IntsAt.keepB N1.out b
            have R2 : Hid _ := IntsAt.keepB R1.out b
            have Y2 : Hid _ := Y1.out.trans (b.mono Y1.out.size)
            clear b
            go_wp2_with fail
            refine (Calls.mono (icount_yes Gn _ _ _ g2 N2.out) ?_)
            rintro e y3 ⟨rfl, b⟩
            have A3 : Hid _ := IntsAt.keepB A2.out b
            have R3 : Hid _ := IntsAt.keepB R2.out b
            have Y3 : Hid _ := Y2.out.trans (b.mono Y2.out.size)
            clear b
            go_wp2_with fail
            refine (Calls.mono (same_any L1 _ _ _ _ _ hl1 R3.out A3.out) ?_)
            rintro e y4 ⟨rfl, b⟩
            have Y4 : Hid _ := Y3.out.trans (b.mono Y3.out.size)
            clear b
            go_wp2
            go_meet
            exact CB.out.trans (Y4.out.mono CB.out.size)
      case rest =>
        have DB : Hid _ := hcut
        clear hcut CB CA CN
        have B30 : Hid _ := DB.out
        clear DB
        go_wp2_with fail
        refine (Calls.mono (dinS_any a1 n1 c1 _ (ArgB.below HM.out B30.out)) ?_)
        rintro e w31 ⟨v4, L4, r4, rfl, l4, hr4, o4, b⟩
        have B31 : Hid (Below w.heap.size w w31) := B30.out.trans (b.mono B30.out.size)
        clear b B30 
        obtain ⟨_, aS, cS, rfl, iS⟩ := ints_of_own o4
        have IS31 : Hid _ := iS
        clear iS o4
        have HR4 : Hid _ := hr4
        clear hr4
        have hl4 : L4.length ≤ 1048576 := by omega
        obtain ⟨x4, g4, II4, IS4⟩ := in_both L4 r4 hl4 HR4.out
        have HII4 : Hid _ := II4
        have HIS4 : Hid _ := IS4
        clear II4 IS4
        go_wp2_with fail
        refine (Calls.mono (HII4.out _ _ _ IS31.out) ?_)
        rintro e w32 ⟨rfl, b⟩
        have IS32 : Hid _ := IntsAt.keepB IS31.out b
        have B32 : Hid (Below w.heap.size w w32) := B31.out.trans (b.mono B31.out.size)
        clear b B31 IS31
        go_wp2_with fail
        refine (Calls.mono (HIS4.out _ _ _ IS32.out) ?_)
        rintro e w33 ⟨rfl, b⟩
        have IS33 : Hid _ := IntsAt.keepB IS32.out b
        have B33 : Hid (Below w.heap.size w w33) := B32.out.trans (b.mono B32.out.size)
        clear b B32 IS32
        clear IS33
        go_wp2_with fail
        refine (Calls.mono (dcs_any a1 n1 c1 _ (ArgB.below HM.out B33.out)) ?_)
        rintro e w34 ⟨⟨v5, L5, rfl, l5, o5⟩, b⟩
        have B34 : Hid (Below w.heap.size w w34) := B33.out.trans (b.mono B33.out.size)
        clear b B33 
        obtain ⟨_, aK, cK, rfl, iK⟩ := ints_of_own o5
        have IK34 : Hid _ := iK
        clear iK o5
        have hl5 : L5.length ≤ 1048576 := by omega
        obtain ⟨k5, g5, CI5, CS5⟩ := count_both L5 hl5
        have HCI5 : Hid _ := CI5
        have HCS5 : Hid _ := CS5
        clear CI5 CS5
        go_wp2_with fail
        refine (Calls.mono (HCI5.out _ _ _ IK34.out) ?_)
        rintro e w35 ⟨rfl, b⟩
        have IK35 : Hid _ := IntsAt.keepB IK34.out b
        have B35 : Hid (Below w.heap.size w w35) := B34.out.trans (b.mono B34.out.size)
        clear b B34 IK34
        go_wp2_with fail
        refine (Calls.mono (HCS5.out _ _ _ IK35.out) ?_)
        rintro e w36 ⟨rfl, b⟩
        have IK36 : Hid _ := IntsAt.keepB IK35.out b
        have B36 : Hid (Below w.heap.size w w36) := B35.out.trans (b.mono B35.out.size)
        clear b B35 IK35
        have b41 : (g4 == g4) = true := by simp
        have b42 : (x4 == x4) = true := by simp
        have b51 : (g5 == g5) = true := by simp
        go_wp2
        go_ret
        exact ⟨rfl, B36.out⟩
set_option maxRecDepth 100000 in
set_option maxHeartbeats 1000000 in
theorem walk_big (a0 : Option Addr) (n0 c0 : Nat) (a1 : Option Addr) (n1 c1 : Nat) (w : World) (h : (1048576 : Int) < n0 ∨ ((n0 : Int) ≤ 1048576 ∧ (1048576 : Int) - n0 < n1)) :
    Calls Try.prog 4 #[.slice a0 n0 c0, .slice a1 n1 c1] w fun e w' => e = .returned (.bool true) ∧ Below w.heap.size w w' := by
  rcases h with h | ⟨h1, h2⟩
  · go_enter Try.func4, Try.ntmps4
    go_wp2_with (first | (go_at_call 5; go_in) | fail)
    go_ret
    exact ⟨rfl, Below.refl _ _⟩
  · have h1' : ¬ (1048576 : Int) < (n0 : Int) := by omega
    go_enter Try.func4, Try.ntmps4
    go_wp2_with (first | (go_at_call 5; go_in) | fail)
    go_ret
    exact ⟨rfl, Below.refl _ _⟩
theorem walk (a0 : Option Addr) (n0 c0 : Nat) (a1 : Option Addr) (n1 c1 : Nat) (w : World) (hA : ArgB w a0 n0) (hM : ArgB w a1 n1) :
    Calls Try.prog 4 #[.slice a0 n0 c0, .slice a1 n1 c1] w fun e w' => e = .returned (.bool true) ∧ Below w.heap.size w w' := by
  by_cases h : (1048576 : Int) < n0 ∨ ((n0 : Int) ≤ 1048576 ∧ (1048576 : Int) - n0 < n1)
  · exact walk_big a0 n0 c0 a1 n1 c1 w h
  · exact walk_in a0 n0 c0 a1 n1 c1 w hA hM (by omega) (by omega)
set_option maxRecDepth 100000 in
theorem lifted (os : Os) (started : os.Started) (H : Type) (enc : TypeId × Value → H) :
    ReturnsInHanded {} Try.checked os 4 .any (Rows.fnSetsSpec.pre6 enc Try.prog Try.f4 Rows.fnSetsRow.domain false) (Rows.fnSetsSpec.post enc Try.prog Try.f4 false true false false) := by
  refine returnsInHanded_of_change (C := Try.checked) own started (by kernel_rfl) Try.func4
    (ChangeSpec.witness6 (enc := enc) (C := Try.checked) false ⟨#[], #[.slice none 0 0, .slice none 0 0], []⟩ 8 (by kernel_rfl) (by kernel_rfl) (by kernel_rfl) (by kernel_rfl)) ?_
  intro W base args ds gs before hval0 hW hcnd _
  have hval : ∀ (j : Nat) t v, Try.f4.params[j]? = some t → args[j]? = some v → Value.okWide Try.prog W .any base t v := hval0
  have hW' := hW
  obtain ⟨p, q, hA0, hV, rfl, hfz, hnd⟩ := hW
  have hA : DataW.TrodAll enc Try.prog W 0 (fun _ => true) true Try.f4.params.toList args.toList ds p := hA0
  rw [Try.params4] at hA hval
  obtain ⟨v0, vs0, d0, ds0, p0, q0, hargs, rfl, rfl, h0, r0⟩ := trodAll_cons hA
  obtain ⟨v1, vs1, d1, ds1, p1, q1, hargs1, rfl, rfl, h1, r1⟩ := trodAll_cons r0
  obtain ⟨rfl, rfl, rfl⟩ := trodAll_nil r1
  obtain rfl : args = #[v0, v1] := by cases args; simp_all
  obtain ⟨rfl, rfl⟩ := trodVars_none hV
  obtain ⟨a0, len0, cap0, rfl⟩ := okWide_slice Try.underlying22 (hval 0 22 v0 rfl rfl)
  obtain ⟨a1, len1, cap1, rfl⟩ := okWide_slice Try.underlying22 (hval 1 22 v1 rfl rfl)
  have k0 := h0
  have k1 := h1
  have lt0 : ∀ x ∈ p0, x.block < W.heap.size := by obtain ⟨m, hm⟩ := k0; exact DataW.trod_lt m _ _ _ hm
  have lt1 : ∀ x ∈ p1, x.block < W.heap.size := by obtain ⟨m, hm⟩ := k1; exact DataW.trod_lt m _ _ _ hm
  have i0 : ArgB W a0 len0 := by obtain ⟨fuel, hf⟩ := h0; exact argB_of hf
  have i1 : ArgB W a1 len1 := by obtain ⟨fuel, hf⟩ := h1; exact argB_of hf
  clear hA0 hval0
  refine (walk a0 len0 cap0 a1 len1 cap1 W i0 i1).mono fun e W' ⟨he, bel⟩ => ?_
  subst he
  exact ⟨_, rfl, _, _, _, [], _, [], hW', trodAll_mk1 (shut_bool Try.underlying4 _), trodAll_cons_mk (Below.trod laidOut (by kernel_rfl) (of_decide_eq_true (by kernel_rfl)) k0 bel lt0) (trodAll_cons_mk (Below.trod laidOut (by kernel_rfl) (of_decide_eq_true (by kernel_rfl)) k1 bel lt1) trodAll_mk0), rfl, bel.frame _, fun h => by cases h⟩
theorem row : Rows.FnSetsSaid :=
  OpenClaim.holds_of_wide 4 Try.f4 rfl rfl rfl rfl rfl rfl rfl ⟨rfl, rfl, rfl, rfl, rfl⟩ rfl rfl rfl rfl rfl (by kernel_rfl) Try.func4 (by kernel_rfl)
    (of_decide_eq_true (by kernel_rfl)) (by unfold Func.isWrapper; first | (rw [if_pos (by decide +kernel)]; kernel_rfl) | (rw [if_neg (by decide +kernel)]; exact ⟨rfl, rfl⟩))
    (fun os started H enc _ => lifted os started H enc)
end LawSets
theorem sets_holds : Rows.FnSetsSaid := LawSets.row
#print axioms sets_holds
end Go.Proofs.Ytpkhmihkchiheaa
