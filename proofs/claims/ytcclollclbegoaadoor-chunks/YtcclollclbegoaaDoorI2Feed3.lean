/-
  impl.FeedDecoder with code 3.
-/
import Derived.Test.YtcclollclbegoaaDoorI2Feed0
import Derived.Deep.RegionWith
namespace Go.Proofs.YtcclollclbegoaaDoor
open Go.ChangeShapes Go.WideShapes Go.ChangeAt Go.RowKit
set_option maxRecDepth 100000 in
set_option maxHeartbeats 4000000 in
theorem ifeed_3 (held s : ByteArray) (w : World) (hT : Tabs w) (hg : goodD 3 0 0 held = true) (hs : s.size ≤ 1000) (G : List Int × List Int × ByteArray) (hG : feedU 3 (held ++ s).size (held ++ s) = G) :
    Calls Tryd.prog 9 #[decV 3 0 0 held, .string s] w fun e w' => ∃ v1 v2, e = .returned (.tuple #[decV 3 0 0 G.2.2, v1, v2, .bool true]) ∧ Two w.heap.size w' v1 G.1 v2 G.2.1 ∧ Below w.heap.size w w' := by
  obtain ⟨i0, hi, hz0, hz1, hz2⟩ := info_parts Tryd.info3
  have hh := (goodD_facts hg).2.2.2.2.1
  have hsz : (held ++ s).size ≤ 1003 := by rw [ByteArray.size_append]; omega
  have HN : Hid (_ ∧ _) := feedU_len 3 (held ++ s).size (held ++ s)
  have HZ : Hid _ := hsz
  have hcat : ¬ 9223372036854775807 < held.size + s.size := by omega
  have hsI : ¬ (1000 : Int) < s.size := by omega
  have HG : Hid _ := hg
  have HT : Hid _ := hT
  have HF0 : Hid (G = feedW [] [] (feedU 3 (held ++ s).size (held ++ s))) := hG.symm
  rw [hG] at HN
  clear hg hT hs hG hsz
  obtain ⟨hd, hr, hb⟩ := laid_two w 3 0 0 held 25 25
  go_enter Tryd.func9, Tryd.ntmps9
  go_wp2_with fail
  refine (igd_any _ _ _ _ _ (HT.out.below hb)).mono ?_
  rintro e w1 ⟨rfl, b1⟩
  rw [HG.out]
  have hb1 := hb.trans (b1.mono hb.size)
  have hd1 := hd.below b1
  have hr1 := hr.below b1
  obtain ⟨d0, d1, d2, d3, -, -⟩ := hd.below b1
  clear hd hr hb b1
  go_wp2_with fail
  refine (codeOf_3 0 _).mono ?_
  rintro e w2 ⟨rfl, rfl⟩
  go_wp2
  go_quiet (fail)
  go_wp2
  clear d0 d1 d2 d3
  go_loopw [10, 11, 12, 13] (fun v1 v2 sv lv wr => ∃ (x : ByteArray) (f : Nat) (L1 L2 : List Int), sv = .string x ∧ lv = .int .i64 0 ∧ x.size ≤ f ∧ x.size ≤ 1003 ∧ G = feedW L1 L2 (feedU 3 f x) ∧ Fed w.heap.size wr 3 0 0 held v1 L1 v2 L2 ∧ Below w.heap.size w wr) (fun _ _ sv _ _ => strSize sv)
  case atStart =>
    refine ⟨held ++ s, _, [], [], rfl, rfl, Nat.le_refl _, HZ.out, HF0.out, ?_, ?_⟩
    · exact ⟨hd1.below (below_drewN (Below.refl _ _) _), hr1.below (below_drewN (Below.refl _ _) _), Two.nil _ _⟩
    · exact below_drewN hb1 _
  case round =>
    clear hd1 hr1 hb1
    obtain ⟨x, f, L1, L2, rfl, rfl, hxf, hx2, hF, fed, hbw⟩ := hrel
    have HF : Hid _ := hF
    clear hF
    have HX : Hid _ := hx2
    have HXF : Hid _ := hxf
    have hlen : L1.length ≤ 2000 ∧ L2.length ≤ 2000 := by
      have h1 := congrArg (fun G => G.1.length) HF.out
      have h2 := congrArg (fun G => G.2.1.length) HF.out
      have h3 := HN.out
      have h4 := HZ.out
      simp only [feedW, List.length_append] at h1 h2
      omega
    obtain ⟨n1, n2⟩ := hlen
    by_cases hx0 : x.size = 0
    · have hem := isEmpty_yes hx0
      have HE : Hid _ := feedW_none L1 L2 3 f x hx0
      have c0 := fed.d.c0
      have fdr := fed.below ((Below.refl wr.heap.size wr).drew)
      have FDR : Hid _ := fdr
      have HBR : Hid _ := hbw.drew
      have HLR : Hid _ := fed.t.lies
      have hxl : x.size ≤ 100000 := by omega
      have cdr := fdr.d.c0
      have hlt := fed.d.lt
      have HRL : Hid _ := fed.r.lt
      have hne : ¬ w.heap.size = wr.heap.size := by omega
      have cdb := (fed.alloc (.cells #[.int .i64 0, .int .i64 0, .int .i64 0, .string ⟨#[]⟩] 25)).d.c0
      have cda := (fdr.alloc (.cells #[.int .i64 0, .int .i64 0, .int .i64 0, .string ⟨#[]⟩] 25)).d.c0
      clear fed hbw fdr
      go_wp2
      go_region_with (go_at_call 37; refine (clone_any x _ hxl).mono ?_; rintro e w5 ⟨rfl, b5⟩; first | (have f5 := (Fed.alloc FDR.out _).below b5; have z5 := (DecAt.new wr.drew 0 0 0 ⟨#[]⟩ 25 wr.heap.size rfl).below b5; have hb5 := (Below.alloc HBR.out (Below.size HBR.out) _).trans (b5.mono (by have := Below.size HBR.out; simp at this ⊢; omega)); obtain ⟨z0, z1, z2, z3, zf, -⟩ := id z5; have zf0 := zf 0; have zf1 := zf 1; have zf2 := zf 2; have zf3 := zf 3; have cd5 := f5.d.c0; have F5 : Hid _ := f5; have Z5 : Hid _ := z5; have HB5 : Hid _ := hb5; clear zf f5 z5 hb5 b5) | (have f5 := Fed.below FDR.out b5; have hb5 := Below.trans HBR.out (b5.mono (Below.size HBR.out)); have cd5 := f5.d.c0; have cd6 := (f5.alloc (.cells #[.int .i64 0, .int .i64 0, .int .i64 0, .string ⟨#[]⟩] 25)).d.c0; have F5 : Hid _ := f5; have HB5 : Hid _ := hb5; clear f5 hb5 b5))
      all_goals
        clear cda cdb cdr hne hlt
        first
        | (have n6 : DecAt ((((w5.setCell ⟨wr.heap.size, 0, none⟩ (.int .i64 3)).setCell ⟨wr.heap.size, 1, none⟩ (.int .i64 0)).setCell ⟨wr.heap.size, 2, none⟩ (.int .i64 0)).setCell ⟨wr.heap.size, 3, none⟩ (.string x)) wr.heap.size 3 0 0 x := DecAt.putAll Z5.out 3 0 0 x
           have f6 : Fed w.heap.size ((((w5.setCell ⟨wr.heap.size, 0, none⟩ (.int .i64 3)).setCell ⟨wr.heap.size, 1, none⟩ (.int .i64 0)).setCell ⟨wr.heap.size, 2, none⟩ (.int .i64 0)).setCell ⟨wr.heap.size, 3, none⟩ (.string x)) 3 0 0 held u10 L1 u11 L2 := Fed.putHigh F5.out HLR.out (Nat.le_refl _) HRL.out _ _ _ _
           have hb6 : Below w.heap.size w ((((w5.setCell ⟨wr.heap.size, 0, none⟩ (.int .i64 3)).setCell ⟨wr.heap.size, 1, none⟩ (.int .i64 0)).setCell ⟨wr.heap.size, 2, none⟩ (.int .i64 0)).setCell ⟨wr.heap.size, 3, none⟩ (.string x)) := below_put HB5.out (by have := HRL.out; omega) (Below.size HB5.out) _ _ _ _
           clear z0 z1 z2 z3 zf0 zf1 zf2 zf3
           revert n6 f6 hb6
           generalize ((((w5.setCell ⟨wr.heap.size, 0, none⟩ (.int .i64 3)).setCell ⟨wr.heap.size, 1, none⟩ (.int .i64 0)).setCell ⟨wr.heap.size, 2, none⟩ (.int .i64 0)).setCell ⟨wr.heap.size, 3, none⟩ (.string x)) = w6)
        | (have n6 : DecAt (w5.alloc (.cells #[.int .i64 3, .int .i64 0, .int .i64 0, .string x] 25)) w5.heap.size 3 0 0 x := DecAt.new w5 3 0 0 x 25 _ rfl
           have f6 : Fed w.heap.size (w5.alloc (.cells #[.int .i64 3, .int .i64 0, .int .i64 0, .string x] 25)) 3 0 0 held u10 L1 u11 L2 := Fed.alloc F5.out _
           have hb6 : Below w.heap.size w (w5.alloc (.cells #[.int .i64 3, .int .i64 0, .int .i64 0, .string x] 25)) := Below.alloc HB5.out (Below.size HB5.out) _
           clear cd6
           revert n6 f6 hb6
           generalize (w5.alloc (.cells #[.int .i64 3, .int .i64 0, .int .i64 0, .string x] 25)) = w6)
        intro n6 f6 hb6
        clear cd5 c0
        obtain ⟨m0, m1, m2, m3, -, -⟩ := n6
        have c0 := f6.d.c0
        have r0 := f6.r.c0
        have r1 := f6.r.c1
        have r2 := f6.r.c2
        have r3 := f6.r.c3
        have g0 := f6.r.fz 0
        have g1 := f6.r.fz 1
        have g2 := f6.r.fz 2
        have g3 := f6.r.fz 3
        have HO : Hid _ := f6.out hb6 (.int .i64 3) (.int .i64 0) (.int .i64 0) (.string x)
        clear f6 hb6
        have hend := HF.out.trans HE.out
        subst hend
        go_wp2
        exact bodyPost_ret (v := .tuple #[decV 3 0 0 x, u10, u11, .bool true]) (by simp [results, Tryd.results9, go_sem, r0, r1, r2, r3]) rfl ⟨_, _, rfl, HO.out.1, HO.out.2⟩
    · have hx0' : 0 < x.size := by omega
      have hem := isEmpty_no hx0'
      have HX0 : Hid _ := hx0'
      have HL : Hid _ := oneS_le 3 x hx0'
      have hnn := oneS_nn 3 x hx0'
      have hnr : ((oneS 3 x).1 != -1) = true := by rw [bne_iff_ne]; omega
      by_cases hz : (oneS 3 x).2 = 0
      · have HE : Hid _ := feedW_stop L1 L2 3 f x hz
        have hzI : (((oneS 3 x).2 : Int) == 0) = true := by rw [hz]; rfl
        clear hz
        go_wp2_with fail
        refine (iread_3 x _).mono ?_
        rintro e w1 ⟨rfl, b1⟩
        have fed1 := fed.below b1
        have hbw1 := hbw.trans (b1.mono hbw.size)
        clear fed hbw b1
        have c0 := fed1.d.c0
        have fdr := fed1.below ((Below.refl w1.heap.size w1).drew)
        have FDR : Hid _ := fdr
        have HBR : Hid _ := hbw1.drew
        have HLR : Hid _ := fed1.t.lies
        have hxl : x.size ≤ 100000 := by omega
        have cdr := fdr.d.c0
        have hlt := fed1.d.lt
        have HRL : Hid _ := fed1.r.lt
        have hne : ¬ w.heap.size = w1.heap.size := by omega
        have cdb := (fed1.alloc (.cells #[.int .i64 0, .int .i64 0, .int .i64 0, .string ⟨#[]⟩] 25)).d.c0
        have cda := (fdr.alloc (.cells #[.int .i64 0, .int .i64 0, .int .i64 0, .string ⟨#[]⟩] 25)).d.c0
        clear fed1 hbw1 fdr
        go_wp2
        go_region_with (go_at_call 37; refine (clone_any x _ hxl).mono ?_; rintro e w5 ⟨rfl, b5⟩; first | (have f5 := (Fed.alloc FDR.out _).below b5; have z5 := (DecAt.new w1.drew 0 0 0 ⟨#[]⟩ 25 w1.heap.size rfl).below b5; have hb5 := (Below.alloc HBR.out (Below.size HBR.out) _).trans (b5.mono (by have := Below.size HBR.out; simp at this ⊢; omega)); obtain ⟨z0, z1, z2, z3, zf, -⟩ := id z5; have zf0 := zf 0; have zf1 := zf 1; have zf2 := zf 2; have zf3 := zf 3; have cd5 := f5.d.c0; have F5 : Hid _ := f5; have Z5 : Hid _ := z5; have HB5 : Hid _ := hb5; clear zf f5 z5 hb5 b5) | (have f5 := Fed.below FDR.out b5; have hb5 := Below.trans HBR.out (b5.mono (Below.size HBR.out)); have cd5 := f5.d.c0; have cd6 := (f5.alloc (.cells #[.int .i64 0, .int .i64 0, .int .i64 0, .string ⟨#[]⟩] 25)).d.c0; have F5 : Hid _ := f5; have HB5 : Hid _ := hb5; clear f5 hb5 b5))
        all_goals
          clear cda cdb cdr hne hlt
          first
          | (have n6 : DecAt ((((w5.setCell ⟨w1.heap.size, 0, none⟩ (.int .i64 3)).setCell ⟨w1.heap.size, 1, none⟩ (.int .i64 0)).setCell ⟨w1.heap.size, 2, none⟩ (.int .i64 0)).setCell ⟨w1.heap.size, 3, none⟩ (.string x)) w1.heap.size 3 0 0 x := DecAt.putAll Z5.out 3 0 0 x
             have f6 : Fed w.heap.size ((((w5.setCell ⟨w1.heap.size, 0, none⟩ (.int .i64 3)).setCell ⟨w1.heap.size, 1, none⟩ (.int .i64 0)).setCell ⟨w1.heap.size, 2, none⟩ (.int .i64 0)).setCell ⟨w1.heap.size, 3, none⟩ (.string x)) 3 0 0 held u10 L1 u11 L2 := Fed.putHigh F5.out HLR.out (Nat.le_refl _) HRL.out _ _ _ _
             have hb6 : Below w.heap.size w ((((w5.setCell ⟨w1.heap.size, 0, none⟩ (.int .i64 3)).setCell ⟨w1.heap.size, 1, none⟩ (.int .i64 0)).setCell ⟨w1.heap.size, 2, none⟩ (.int .i64 0)).setCell ⟨w1.heap.size, 3, none⟩ (.string x)) := below_put HB5.out (by have := HRL.out; omega) (Below.size HB5.out) _ _ _ _
             clear z0 z1 z2 z3 zf0 zf1 zf2 zf3
             revert n6 f6 hb6
             generalize ((((w5.setCell ⟨w1.heap.size, 0, none⟩ (.int .i64 3)).setCell ⟨w1.heap.size, 1, none⟩ (.int .i64 0)).setCell ⟨w1.heap.size, 2, none⟩ (.int .i64 0)).setCell ⟨w1.heap.size, 3, none⟩ (.string x)) = w6)
          | (have n6 : DecAt (w5.alloc (.cells #[.int .i64 3, .int .i64 0, .int .i64 0, .string x] 25)) w5.heap.size 3 0 0 x := DecAt.new w5 3 0 0 x 25 _ rfl
             have f6 : Fed w.heap.size (w5.alloc (.cells #[.int .i64 3, .int .i64 0, .int .i64 0, .string x] 25)) 3 0 0 held u10 L1 u11 L2 := Fed.alloc F5.out _
             have hb6 : Below w.heap.size w (w5.alloc (.cells #[.int .i64 3, .int .i64 0, .int .i64 0, .string x] 25)) := Below.alloc HB5.out (Below.size HB5.out) _
             clear cd6
             revert n6 f6 hb6
             generalize (w5.alloc (.cells #[.int .i64 3, .int .i64 0, .int .i64 0, .string x] 25)) = w6)
          intro n6 f6 hb6
          clear cd5 c0
          obtain ⟨m0, m1, m2, m3, -, -⟩ := n6
          have c0 := f6.d.c0
          have r0 := f6.r.c0
          have r1 := f6.r.c1
          have r2 := f6.r.c2
          have r3 := f6.r.c3
          have g0 := f6.r.fz 0
          have g1 := f6.r.fz 1
          have g2 := f6.r.fz 2
          have g3 := f6.r.fz 3
          have HO : Hid _ := f6.out hb6 (.int .i64 3) (.int .i64 0) (.int .i64 0) (.string x)
          clear f6 hb6
          have hend := HF.out.trans HE.out
          subst hend
          go_wp2
          exact bodyPost_ret (v := .tuple #[decV 3 0 0 x, u10, u11, .bool true]) (by simp [results, Tryd.results9, go_sem, r0, r1, r2, r3]) rfl ⟨_, _, rfl, HO.out.1, HO.out.2⟩
      · obtain ⟨f, rfl⟩ : ∃ f', f = f' + 1 := ⟨f - 1, by omega⟩
        have HE : Hid _ := feedW_step L1 L2 3 f x hx0' (by omega)
        have hp : 0 < (oneS 3 x).2 := by omega
        have hzI : (((oneS 3 x).2 : Int) == 0) = false := by rw [beq_eq_false_iff_ne]; omega
        have sl := slice_tl x (oneS 3 x).2 HL.out
        clear hz
        go_wp2_with fail
        refine (iread_3 x _).mono ?_
        rintro e w1 ⟨rfl, b1⟩
        have fed1 := fed.below b1
        have hbw1 := hbw.trans (b1.mono hbw.size)
        clear fed hbw b1
        have HW : Hid _ := hp
        have hn3 : ((oneS 3 x).2 : Int) ≤ 1003 := by have := HL.out; omega
        go_wp2_with (at_builtin; refine wpList_append_own_at _ rfl _ _ 28 rfl (w.heap.size + 2) 3 i0 (.int .i64 0) 1 8 Tryd.underlying28 hi hz0 hz1 hz2 rfl (by decide) _ _ _ rfl (fed1.t.a.alloc _) ⟨_, 0, none⟩ 1 1 [.int .i64 ((oneS 3 x).1)] rfl rfl ?c1 ?c2 ?c3 ?c4 ?c5 ?_)
        case c1 => exact cell_one_new _ _ _
        case c2 => intro u hu; simp at hu; subst hu; rfl
        case c3 => unfold maxLen; omega
        case c4 => omega
        case c5 => have := fed1.r.lt; simp at this ⊢; omega
        intro v1' w2 hown hgrow _ hat
        have fed2 := (fed1.alloc _).push (M := [(oneS 3 x).1]) hown rfl hgrow (by simpa using hat)
        have hbw2 := Below.grown_row (hbw1.alloc hbw1.size _) (fed1.t.a.alloc _) hgrow (by have := hbw1.size; simp at this ⊢; omega) (by omega)
        clear hown hgrow hat fed1 hbw1
        go_wp2_with (at_builtin; refine wpList_append_own_at _ rfl _ _ 28 rfl (w.heap.size + 2) 3 i0 (.int .i64 0) 1 8 Tryd.underlying28 hi hz0 hz1 hz2 rfl (by decide) _ _ _ rfl (fed2.t.b.alloc _) ⟨_, 0, none⟩ 1 1 [.int .i64 (((oneS 3 x).2 : Int))] rfl rfl ?c1 ?c2 ?c3 ?c4 ?c5 ?_)
        case c1 => exact cell_one_new _ _ _
        case c2 => intro u hu; simp at hu; subst hu; rfl
        case c3 => unfold maxLen; omega
        case c4 => omega
        case c5 => have := fed2.r.lt; simp at this ⊢; omega
        intro v2' w3 hown hgrow _ hat
        have fed3 := (fed2.alloc _).push2 (M := [((oneS 3 x).2 : Int)]) hown rfl hgrow (by simpa using hat)
        have hbw3 := Below.grown_row (hbw2.alloc hbw2.size _) (fed2.t.b.alloc _) hgrow (by have := hbw2.size; simp at this ⊢; omega) (by omega)
        clear hown hgrow hat fed2 hbw2
        go_wp2
        have hz' : (x.extract (oneS 3 x).2 x.size).size = x.size - (oneS 3 x).2 := by rw [ByteArray.size_extract]; omega
        have q0 := HW.out
        go_roundw
        case rel => exact ⟨_, f, _, _, rfl, rfl, by omega, by omega, HF.out.trans HE.out, fed3, hbw3⟩
        case measure => simp only [strSize]; omega
end Go.Proofs.YtcclollclbegoaaDoor
