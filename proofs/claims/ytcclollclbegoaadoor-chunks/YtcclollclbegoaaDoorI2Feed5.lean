/-
  impl.FeedDecoder with the shifting code.
-/
import Derived.Test.YtcclollclbegoaaDoorI2Sh
import Derived.Test.YtcclollclbegoaaDoorD2Flush
import Derived.Deep.RegionWith
namespace Go.Proofs.YtcclollclbegoaaDoor
open Go.ChangeShapes Go.WideShapes Go.ChangeAt Go.RowKit
theorem shift_none (A B : List Int) (sh lo : Int) : feedT A B (feedB 5 (⟨#[]⟩ : ByteArray).data.toList sh lo) = (A, B, sh, lo) := by simp [feedT, feedB]
theorem shift_on (A B : List Int) (sh lo : Int) (x : ByteArray) (h : 0 < x.size) (h14 : (x[0].toNat : Int) = 14) : feedT A B (feedB 5 x.data.toList sh lo) = feedT A B (feedB 5 (x.extract 1 x.size).data.toList 1 (lo + 1)) := by
  rw [cons_at x h, feedT_skip _ _ _ _ _ _ (.inl h14), h14]; rfl
theorem shift_off (A B : List Int) (sh lo : Int) (x : ByteArray) (h : 0 < x.size) (h15 : (x[0].toNat : Int) = 15) : feedT A B (feedB 5 x.data.toList sh lo) = feedT A B (feedB 5 (x.extract 1 x.size).data.toList 0 (lo + 1)) := by
  rw [cons_at x h, feedT_skip _ _ _ _ _ _ (.inr h15), h15]; rfl
theorem shift_one (A B : List Int) (sh lo : Int) (x : ByteArray) (h : 0 < x.size) (hn : ¬ ((x[0].toNat : Int) = 14 ∨ (x[0].toNat : Int) = 15)) : feedT A B (feedB 5 x.data.toList sh lo) = feedT (A ++ [shiftedN sh x[0].toNat]) (B ++ [lo + 1]) (feedB 5 (x.extract 1 x.size).data.toList sh 0) := by
  rw [cons_at x h, feedT_shift _ _ _ _ _ _ hn]
theorem ap_5 (C : Nat) (w : World) : (Instr.typeAssert (shV C) 60 68 false).run Tryd.prog w = .ok (.pointer (some ⟨C, 0, none⟩)) w := by kernel_rfl
set_option maxRecDepth 100000 in
set_option maxHeartbeats 6000000 in
theorem ifeed_5 (sh lo : Int) (held s : ByteArray) (w : World) (hT : Tabs w) (hg : goodD 5 sh lo held = true) (hs : s.size ≤ 1000) (G : List Int × List Int × Int × Int) (hG : feedB 5 (held ++ s).data.toList sh lo = G) (hov : ¬ 1000 < G.2.2.2) :
    Calls Tryd.prog 9 #[decV 5 sh lo held, .string s] w fun e w' => ∃ v1 v2, e = .returned (.tuple #[decV 5 G.2.2.1 G.2.2.2 ⟨#[]⟩, v1, v2, .bool true]) ∧ Two w.heap.size w' v1 G.1 v2 G.2.1 ∧ Below w.heap.size w w' := by
  obtain ⟨i0, hi, hz0, hz1, hz2⟩ := info_parts Tryd.info3
  obtain ⟨-, ⟨sa, sb⟩, ⟨la, lb⟩, -, hh, -⟩ := goodD_facts hg
  have hsz : (held ++ s).size ≤ 1003 := by rw [ByteArray.size_append]; omega
  have HN : Hid (_ ∧ _) := feedB_len 5 (held ++ s).data.toList sh lo
  have HZ : Hid _ := hsz
  have HZ' : Hid ((held ++ s).data.toList.length ≤ 1003) := by show (held ++ s).data.toList.length ≤ 1003; simpa using hsz
  have hcat : ¬ 9223372036854775807 < held.size + s.size := by omega
  have hsI : ¬ (1000 : Int) < s.size := by omega
  have HG : Hid _ := hg
  have HT : Hid _ := hT
  have HF0 : Hid (G = feedT [] [] (feedB 5 (held ++ s).data.toList sh lo)) := hG.symm
  rw [hG] at HN
  have HOV : Hid _ := hov
  clear hg hT hs hG hsz hov
  obtain ⟨hd, hr, hb⟩ := laid_two w 5 sh lo held 25 25
  go_enter Tryd.func9, Tryd.ntmps9
  go_wp2_with fail
  refine (igd_any _ _ _ _ _ (HT.out.below hb)).mono ?_
  rintro e w1 ⟨rfl, b1⟩
  rw [HG.out]
  have hb1 := hb.trans (b1.mono hb.size)
  have hd1 := hd.below b1
  have hr1 := hr.below b1
  obtain ⟨d0, d1, d2, d3, -, -⟩ := hd.below b1
  clear hd hr hb b1
  go_wp2_with fail
  refine (codeOf_5 sh _).mono ?_
  rintro e w2 ⟨rfl, hw2⟩
  have fed0 : FedS w.heap.size w1.heap.size w2 5 sh lo held sh (.slice none 0 0) [] (.slice none 0 0) [] := by
    rw [hw2]
    refine ⟨hd1.alloc _, hr1.alloc _, Two.nil _ _, ?_, ?_, by simp, hr1.lt⟩
    · rw [cell_of_row _ _ _ _ _ _ (heap_alloc_new w1 _)]; rfl
    · unfold World.frozen?; simp only [heap_alloc_new w1 _]; simp
  have hb2 : Below w.heap.size w w2 := by rw [hw2]; exact hb1.alloc hb1.size _
  clear hw2 hd1 hr1 hb1 d0 d1 d2 d3
  generalize w1.heap.size = C at *
  obtain ⟨d0, d1, d2, d3, -, -⟩ := id fed0.d
  go_wp2
  go_quiet (fail)
  go_wp2
  clear d0 d1 d2 d3
  go_loopw [10, 11, 12, 13] (fun v1 v2 sv lv wr => ∃ (x : ByteArray) (L1 L2 : List Int) (sh1 lo1 : Int), sv = .string x ∧ lv = .int .i64 lo1 ∧ x.size ≤ 1003 ∧ 0 ≤ lo1 ∧ lo1 + x.size ≤ 2003 ∧ (sh1 = 0 ∨ sh1 = 1) ∧ G = feedT L1 L2 (feedB 5 x.data.toList sh1 lo1) ∧ FedS w.heap.size C wr 5 sh lo held sh1 v1 L1 v2 L2 ∧ Below w.heap.size w wr) (fun _ _ sv _ _ => strSize sv)
  case atStart =>
    refine ⟨held ++ s, [], [], sh, lo, rfl, rfl, HZ.out, la, by have := HZ.out; omega, by omega, HF0.out, ?_, ?_⟩
    · exact fed0.below (below_drewN (Below.refl _ _) _)
    · exact below_drewN hb2 _
  case round =>
    clear fed0 hb2
    obtain ⟨x, L1, L2, sh1, lo1, rfl, rfl, hx2, l0, l2, hsh, hF, fed, hbw⟩ := hrel
    have HF : Hid _ := hF
    clear hF
    have HX : Hid _ := hx2
    have hlen : L1.length ≤ 2000 ∧ L2.length ≤ 2000 := by
      have h1 := congrArg (fun G => G.1.length) HF.out
      have h2 := congrArg (fun G => G.2.1.length) HF.out
      have h3 := HN.out
      have h4 := HZ'.out
      simp only [feedT, List.length_append] at h1 h2
      omega
    obtain ⟨n1, n2⟩ := hlen
    by_cases hx0 : x.size = 0
    · obtain rfl := size_zero hx0
      have hem := isEmpty_yes hx0
      have HE : Hid _ := shift_none L1 L2 sh1 lo1
      have hend := HF.out.trans HE.out
      subst hend
      have lov : ¬ (1000 : Int) < lo1 := HOV.out
      have FDR : Hid _ := fed.below ((Below.refl wr.heap.size wr).drew)
      have HBR : Hid _ := hbw.drew
      have HLR : Hid _ := fed.t.lies
      have hxl : (⟨#[]⟩ : ByteArray).size ≤ 100000 := by omega
      have cdr := (FedS.d FDR.out).c0
      have hlt := fed.d.lt
      have HCL : Hid _ := fed.clt
      have HFAR : Hid _ := fed.far
      have hne : ¬ w.heap.size = wr.heap.size := by omega
      have cdb := (fed.alloc (.cells #[.int .i64 0, .int .i64 0, .int .i64 0, .string ⟨#[]⟩] 25)).d.c0
      have cda := (FedS.alloc FDR.out (.cells #[.int .i64 0, .int .i64 0, .int .i64 0, .string ⟨#[]⟩] 25)).d.c0
      have apn := ap_5 C
      clear fed hbw
      go_wp2
      go_region_with (go_at_call 37; refine (clone_any ⟨#[]⟩ _ hxl).mono ?_; rintro e w5 ⟨rfl, b5⟩; first | (have f5 := (FedS.alloc FDR.out _).below b5; have z5 := (DecAt.new wr.drew 0 0 0 ⟨#[]⟩ 25 wr.heap.size rfl).below b5; have hb5 := (Below.alloc HBR.out (Below.size HBR.out) _).trans (b5.mono (by have := Below.size HBR.out; simp at this ⊢; omega)); obtain ⟨z0, z1, z2, z3, zf, -⟩ := id z5; have zf0 := zf 0; have zf1 := zf 1; have zf2 := zf 2; have zf3 := zf 3; have cd5 := f5.d.c0; have F5 : Hid _ := f5; have Z5 : Hid _ := z5; have HB5 : Hid _ := hb5; clear zf f5 z5 hb5 b5) | (have f5 := FedS.below FDR.out b5; have hb5 := Below.trans HBR.out (b5.mono (Below.size HBR.out)); have cd5 := f5.d.c0; have cd6 := (f5.alloc (.cells #[.int .i64 0, .int .i64 0, .int .i64 0, .string ⟨#[]⟩] 25)).d.c0; have S5 : Hid (wr.heap.size ≤ w5.heap.size) := b5.size; have F5 : Hid _ := f5; have HB5 : Hid _ := hb5; clear f5 hb5 b5))
      all_goals
        clear cda cdb cdr hne hlt
        first
        | (have n6 : DecAt ((((w5.setCell ⟨wr.heap.size, 0, none⟩ (.int .i64 5)).setCell ⟨wr.heap.size, 1, none⟩ (.int .i64 0)).setCell ⟨wr.heap.size, 2, none⟩ (.int .i64 lo1)).setCell ⟨wr.heap.size, 3, none⟩ (.string ⟨#[]⟩)) wr.heap.size 5 0 lo1 ⟨#[]⟩ := DecAt.putAll Z5.out 5 0 lo1 ⟨#[]⟩
           have f6 : FedS w.heap.size C ((((w5.setCell ⟨wr.heap.size, 0, none⟩ (.int .i64 5)).setCell ⟨wr.heap.size, 1, none⟩ (.int .i64 0)).setCell ⟨wr.heap.size, 2, none⟩ (.int .i64 lo1)).setCell ⟨wr.heap.size, 3, none⟩ (.string ⟨#[]⟩)) 5 sh lo held sh1 u10 L1 u11 L2 := FedS.putHigh F5.out HLR.out (Nat.le_refl _) HCL.out _ _ _ _
           have hb6 : Below w.heap.size w ((((w5.setCell ⟨wr.heap.size, 0, none⟩ (.int .i64 5)).setCell ⟨wr.heap.size, 1, none⟩ (.int .i64 0)).setCell ⟨wr.heap.size, 2, none⟩ (.int .i64 lo1)).setCell ⟨wr.heap.size, 3, none⟩ (.string ⟨#[]⟩)) := below_put HB5.out (by have := HCL.out; have := HFAR.out; omega) (Below.size HB5.out) _ _ _ _
           have hPC : Hid (wr.heap.size ≤ wr.heap.size) := Nat.le_refl _
           clear z0 z1 z2 z3 zf0 zf1 zf2 zf3
           revert n6 f6 hb6 hPC
           generalize ((((w5.setCell ⟨wr.heap.size, 0, none⟩ (.int .i64 5)).setCell ⟨wr.heap.size, 1, none⟩ (.int .i64 0)).setCell ⟨wr.heap.size, 2, none⟩ (.int .i64 lo1)).setCell ⟨wr.heap.size, 3, none⟩ (.string ⟨#[]⟩)) = w6
           have HCL2 : Hid (C < wr.heap.size) := HCL.out
           generalize hPP : wr.heap.size = P at *)
        | (have n6 : DecAt (w5.alloc (.cells #[.int .i64 5, .int .i64 0, .int .i64 lo1, .string ⟨#[]⟩] 25)) w5.heap.size 5 0 lo1 ⟨#[]⟩ := DecAt.new w5 5 0 lo1 ⟨#[]⟩ 25 _ rfl
           have f6 : FedS w.heap.size C (w5.alloc (.cells #[.int .i64 5, .int .i64 0, .int .i64 lo1, .string ⟨#[]⟩] 25)) 5 sh lo held sh1 u10 L1 u11 L2 := FedS.alloc F5.out _
           have hb6 : Below w.heap.size w (w5.alloc (.cells #[.int .i64 5, .int .i64 0, .int .i64 lo1, .string ⟨#[]⟩] 25)) := Below.alloc HB5.out (Below.size HB5.out) _
           have hPC : Hid (wr.heap.size ≤ w5.heap.size) := S5.out
           clear cd6
           revert n6 f6 hb6 hPC
           generalize (w5.alloc (.cells #[.int .i64 5, .int .i64 0, .int .i64 lo1, .string ⟨#[]⟩] 25)) = w6
           have HCL2 : Hid (C < w5.heap.size) := Nat.lt_of_lt_of_le HCL.out S5.out
           generalize hPP : w5.heap.size = P at *)
        intro n6 f6 hb6 hPC
        clear cd5
        obtain ⟨m0, m1, m2, m3, mf, -⟩ := n6
        have mf1 := mf 1
        have c0 := f6.d.c0
        have cs := f6.c
        have r0 := f6.r.c0
        have r1 := f6.r.c1
        have r2 := f6.r.c2
        have r3 := f6.r.c3
        have g0 := f6.r.fz 0
        have g1 := f6.r.fz 1
        have g2 := f6.r.fz 2
        have g3 := f6.r.fz 3
        have p1 : ¬ P = w.heap.size + 1 := by have := HFAR.out; have := HCL2.out; omega
        have p2 : ¬ w.heap.size + 1 = P := by omega
        have p3 : ¬ P = w.heap.size := by have := HFAR.out; have := HCL2.out; omega
        have p4 : ¬ w.heap.size = P := by omega
        have HO : Hid _ := f6.out hb6 HLR.out hPC.out HCL2.out (.int .i64 sh1) (.int .i64 5) (.int .i64 sh1) (.int .i64 lo1) (.string ⟨#[]⟩)
        clear f6 hb6 mf
        go_wp2
        exact bodyPost_ret (v := .tuple #[decV 5 sh1 lo1 ⟨#[]⟩, u10, u11, .bool true]) (by simp [results, Tryd.results9, go_sem, r0, r1, r2, r3]) rfl ⟨_, _, rfl, HO.out.1, HO.out.2⟩
    · have hx0' : 0 < x.size := by omega
      have hem := isEmpty_no hx0'
      have HX0 : Hid _ := hx0'
      have cb := byte_le x 0 hx0'
      have sl := slice_one x (by omega)
      have cc := fed.c
      have cf := fed.cf
      have hz' : (x.extract 1 x.size).size = x.size - 1 := by rw [ByteArray.size_extract]; omega
      by_cases h14 : (x[0].toNat : Int) = 14
      · have HE : Hid _ := shift_on L1 L2 sh1 lo1 x hx0' h14
        go_wp2_with fail
        refine (iread_5on C sh1 x _ HX0.out cc cf h14).mono ?_
        rintro e w1 ⟨rfl, rfl⟩
        have fed1 := fed.shift 1
        have hbw1 := below_set hbw C 0 (.int .i64 1) (by have := fed.far; omega) hbw.size
        clear fed hbw cc cf h14 cb
        go_wp2
        go_roundw
        case rel => exact ⟨_, _, _, 1, lo1 + 1, rfl, rfl, by omega, by omega, by omega, .inr rfl, HF.out.trans HE.out, fed1, hbw1⟩
        case measure => simp only [strSize]; omega
      · by_cases h15 : (x[0].toNat : Int) = 15
        · have HE : Hid _ := shift_off L1 L2 sh1 lo1 x hx0' h15
          go_wp2_with fail
          refine (iread_5off C sh1 x _ HX0.out cc cf h15).mono ?_
          rintro e w1 ⟨rfl, rfl⟩
          have fed1 := fed.shift 0
          have hbw1 := below_set hbw C 0 (.int .i64 0) (by have := fed.far; omega) hbw.size
          clear fed hbw cc cf h14 h15 cb
          go_wp2
          go_roundw
          case rel => exact ⟨_, _, _, 0, lo1 + 1, rfl, rfl, by omega, by omega, by omega, .inl rfl, HF.out.trans HE.out, fed1, hbw1⟩
          case measure => simp only [strSize]; omega
        · have HE : Hid _ := shift_one L1 L2 sh1 lo1 x hx0' (by omega)
          have HR : Hid _ := iread_5 C sh1 x wr hx0' cc (by omega) hsh
          have hy : 0 ≤ shiftedN sh1 x[0].toNat ∧ shiftedN sh1 x[0].toNat ≤ 65533 := by unfold shiftedN; split <;> (try split) <;> omega
          clear cc cf h14 h15 cb
          generalize shiftedN sh1 x[0].toNat = y at *
          obtain ⟨y0, y1⟩ := hy
          have hnr : (y != -1) = true := by rw [bne_iff_ne]; omega
          go_wp2_with fail
          refine Calls.mono HR.out ?_
          rintro e w1 ⟨rfl, hw1⟩
          rw [hw1]
          clear hw1
          go_wp2_with (at_builtin; refine wpList_append_own_at _ rfl _ _ 28 rfl (C + 1) 3 i0 (.int .i64 0) 1 8 Tryd.underlying28 hi hz0 hz1 hz2 rfl (by decide) _ _ _ rfl (fed.t.a.alloc _) ⟨_, 0, none⟩ 1 1 [.int .i64 (y)] rfl rfl ?c1 ?c2 ?c3 ?c4 ?c5 ?_)
          case c1 => exact cell_one_new _ _ _
          case c2 => intro u hu; simp at hu; subst hu; rfl
          case c3 => unfold maxLen; omega
          case c4 => omega
          case c5 => have := fed.clt; simp at this ⊢; omega
          intro v1' w2 hown hgrow _ hat
          have fed2 := (fed.alloc _).push (M := [y]) hown rfl hgrow (by simpa using hat)
          have hbw2 := Below.grown_row (hbw.alloc hbw.size _) (fed.t.a.alloc _) hgrow (by have := hbw.size; simp at this ⊢; omega) (by have := fed.far; omega)
          clear hown hgrow hat fed hbw
          go_wp2_with (at_builtin; refine wpList_append_own_at _ rfl _ _ 28 rfl (C + 1) 3 i0 (.int .i64 0) 1 8 Tryd.underlying28 hi hz0 hz1 hz2 rfl (by decide) _ _ _ rfl (fed2.t.b.alloc _) ⟨_, 0, none⟩ 1 1 [.int .i64 (lo1 + 1)] rfl rfl ?c1 ?c2 ?c3 ?c4 ?c5 ?_)
          case c1 => exact cell_one_new _ _ _
          case c2 => intro u hu; simp at hu; subst hu; rfl
          case c3 => unfold maxLen; omega
          case c4 => omega
          case c5 => have := fed2.clt; simp at this ⊢; omega
          intro v2' w3 hown hgrow _ hat
          have fed3 := (fed2.alloc _).push2 (M := [lo1 + 1]) hown rfl hgrow (by simpa using hat)
          have hbw3 := Below.grown_row (hbw2.alloc hbw2.size _) (fed2.t.b.alloc _) hgrow (by have := hbw2.size; simp at this ⊢; omega) (by have := fed2.far; omega)
          clear hown hgrow hat fed2 hbw2
          go_wp2
          go_roundw
          case rel => exact ⟨_, _, _, sh1, 0, rfl, rfl, by omega, by omega, by omega, hsh, HF.out.trans HE.out, fed3, hbw3⟩
          case measure => simp only [strSize]; omega
set_option maxRecDepth 100000 in
set_option maxHeartbeats 6000000 in
theorem ifeed_5over (sh lo : Int) (held s : ByteArray) (w : World) (hT : Tabs w) (hg : goodD 5 sh lo held = true) (hs : s.size ≤ 1000) (G : List Int × List Int × Int × Int) (hG : feedB 5 (held ++ s).data.toList sh lo = G) (hov : 1000 < G.2.2.2) :
    Calls Tryd.prog 9 #[decV 5 sh lo held, .string s] w fun e w' => e = .returned (.tuple #[decV 0 0 0 ⟨#[]⟩, .slice none 0 0, .slice none 0 0, .bool false]) ∧ Below w.heap.size w w' := by
  obtain ⟨i0, hi, hz0, hz1, hz2⟩ := info_parts Tryd.info3
  obtain ⟨-, ⟨sa, sb⟩, ⟨la, lb⟩, -, hh, -⟩ := goodD_facts hg
  have hsz : (held ++ s).size ≤ 1003 := by rw [ByteArray.size_append]; omega
  have HN : Hid (_ ∧ _) := feedB_len 5 (held ++ s).data.toList sh lo
  have HZ : Hid _ := hsz
  have HZ' : Hid ((held ++ s).data.toList.length ≤ 1003) := by show (held ++ s).data.toList.length ≤ 1003; simpa using hsz
  have hcat : ¬ 9223372036854775807 < held.size + s.size := by omega
  have hsI : ¬ (1000 : Int) < s.size := by omega
  have HG : Hid _ := hg
  have HT : Hid _ := hT
  have HF0 : Hid (G = feedT [] [] (feedB 5 (held ++ s).data.toList sh lo)) := hG.symm
  rw [hG] at HN
  have HOV : Hid _ := hov
  clear hg hT hs hG hsz hov
  obtain ⟨hd, hr, hb⟩ := laid_two w 5 sh lo held 25 25
  go_enter Tryd.func9, Tryd.ntmps9
  go_wp2_with fail
  refine (igd_any _ _ _ _ _ (HT.out.below hb)).mono ?_
  rintro e w1 ⟨rfl, b1⟩
  rw [HG.out]
  have hb1 := hb.trans (b1.mono hb.size)
  have hd1 := hd.below b1
  have hr1 := hr.below b1
  obtain ⟨d0, d1, d2, d3, -, -⟩ := hd.below b1
  clear hd hr hb b1
  go_wp2_with fail
  refine (codeOf_5 sh _).mono ?_
  rintro e w2 ⟨rfl, hw2⟩
  have fed0 : FedS w.heap.size w1.heap.size w2 5 sh lo held sh (.slice none 0 0) [] (.slice none 0 0) [] := by
    rw [hw2]
    refine ⟨hd1.alloc _, hr1.alloc _, Two.nil _ _, ?_, ?_, by simp, hr1.lt⟩
    · rw [cell_of_row _ _ _ _ _ _ (heap_alloc_new w1 _)]; rfl
    · unfold World.frozen?; simp only [heap_alloc_new w1 _]; simp
  have hb2 : Below w.heap.size w w2 := by rw [hw2]; exact hb1.alloc hb1.size _
  clear hw2 hd1 hr1 hb1 d0 d1 d2 d3
  generalize w1.heap.size = C at *
  obtain ⟨d0, d1, d2, d3, -, -⟩ := id fed0.d
  go_wp2
  go_quiet (fail)
  go_wp2
  clear d0 d1 d2 d3
  go_loopw [10, 11, 12, 13] (fun v1 v2 sv lv wr => ∃ (x : ByteArray) (L1 L2 : List Int) (sh1 lo1 : Int), sv = .string x ∧ lv = .int .i64 lo1 ∧ x.size ≤ 1003 ∧ 0 ≤ lo1 ∧ lo1 + x.size ≤ 2003 ∧ (sh1 = 0 ∨ sh1 = 1) ∧ G = feedT L1 L2 (feedB 5 x.data.toList sh1 lo1) ∧ FedS w.heap.size C wr 5 sh lo held sh1 v1 L1 v2 L2 ∧ Below w.heap.size w wr) (fun _ _ sv _ _ => strSize sv)
  case atStart =>
    refine ⟨held ++ s, [], [], sh, lo, rfl, rfl, HZ.out, la, by have := HZ.out; omega, by omega, HF0.out, ?_, ?_⟩
    · exact fed0.below (below_drewN (Below.refl _ _) _)
    · exact below_drewN hb2 _
  case round =>
    clear fed0 hb2
    obtain ⟨x, L1, L2, sh1, lo1, rfl, rfl, hx2, l0, l2, hsh, hF, fed, hbw⟩ := hrel
    have HF : Hid _ := hF
    clear hF
    have HX : Hid _ := hx2
    have hlen : L1.length ≤ 2000 ∧ L2.length ≤ 2000 := by
      have h1 := congrArg (fun G => G.1.length) HF.out
      have h2 := congrArg (fun G => G.2.1.length) HF.out
      have h3 := HN.out
      have h4 := HZ'.out
      simp only [feedT, List.length_append] at h1 h2
      omega
    obtain ⟨n1, n2⟩ := hlen
    by_cases hx0 : x.size = 0
    · obtain rfl := size_zero hx0
      have hem := isEmpty_yes hx0
      have HE : Hid _ := shift_none L1 L2 sh1 lo1
      have hend := HF.out.trans HE.out
      subst hend
      have lov : (1000 : Int) < lo1 := HOV.out
      have r0 := fed.r.c0
      have r1 := fed.r.c1
      have r2 := fed.r.c2
      have r3 := fed.r.c3
      have g0 := fed.r.fz 0
      have g1 := fed.r.fz 1
      have g2 := fed.r.fz 2
      have g3 := fed.r.fz 3
      clear fed
      go_wp2
      exact bodyPost_ret (v := .tuple #[decV 0 0 0 ⟨#[]⟩, .slice none 0 0, .slice none 0 0, .bool false]) (by simp [results, Tryd.results9, go_sem, r0, r1, r2, r3]) rfl ⟨rfl, below_put hbw (by omega) hbw.size _ _ _ _⟩
    · have hx0' : 0 < x.size := by omega
      have hem := isEmpty_no hx0'
      have HX0 : Hid _ := hx0'
      have cb := byte_le x 0 hx0'
      have sl := slice_one x (by omega)
      have cc := fed.c
      have cf := fed.cf
      have hz' : (x.extract 1 x.size).size = x.size - 1 := by rw [ByteArray.size_extract]; omega
      by_cases h14 : (x[0].toNat : Int) = 14
      · have HE : Hid _ := shift_on L1 L2 sh1 lo1 x hx0' h14
        go_wp2_with fail
        refine (iread_5on C sh1 x _ HX0.out cc cf h14).mono ?_
        rintro e w1 ⟨rfl, rfl⟩
        have fed1 := fed.shift 1
        have hbw1 := below_set hbw C 0 (.int .i64 1) (by have := fed.far; omega) hbw.size
        clear fed hbw cc cf h14 cb
        go_wp2
        go_roundw
        case rel => exact ⟨_, _, _, 1, lo1 + 1, rfl, rfl, by omega, by omega, by omega, .inr rfl, HF.out.trans HE.out, fed1, hbw1⟩
        case measure => simp only [strSize]; omega
      · by_cases h15 : (x[0].toNat : Int) = 15
        · have HE : Hid _ := shift_off L1 L2 sh1 lo1 x hx0' h15
          go_wp2_with fail
          refine (iread_5off C sh1 x _ HX0.out cc cf h15).mono ?_
          rintro e w1 ⟨rfl, rfl⟩
          have fed1 := fed.shift 0
          have hbw1 := below_set hbw C 0 (.int .i64 0) (by have := fed.far; omega) hbw.size
          clear fed hbw cc cf h14 h15 cb
          go_wp2
          go_roundw
          case rel => exact ⟨_, _, _, 0, lo1 + 1, rfl, rfl, by omega, by omega, by omega, .inl rfl, HF.out.trans HE.out, fed1, hbw1⟩
          case measure => simp only [strSize]; omega
        · have HE : Hid _ := shift_one L1 L2 sh1 lo1 x hx0' (by omega)
          have HR : Hid _ := iread_5 C sh1 x wr hx0' cc (by omega) hsh
          have hy : 0 ≤ shiftedN sh1 x[0].toNat ∧ shiftedN sh1 x[0].toNat ≤ 65533 := by unfold shiftedN; split <;> (try split) <;> omega
          clear cc cf h14 h15 cb
          generalize shiftedN sh1 x[0].toNat = y at *
          obtain ⟨y0, y1⟩ := hy
          have hnr : (y != -1) = true := by rw [bne_iff_ne]; omega
          go_wp2_with fail
          refine Calls.mono HR.out ?_
          rintro e w1 ⟨rfl, hw1⟩
          rw [hw1]
          clear hw1
          go_wp2_with (at_builtin; refine wpList_append_own_at _ rfl _ _ 28 rfl (C + 1) 3 i0 (.int .i64 0) 1 8 Tryd.underlying28 hi hz0 hz1 hz2 rfl (by decide) _ _ _ rfl (fed.t.a.alloc _) ⟨_, 0, none⟩ 1 1 [.int .i64 (y)] rfl rfl ?c1 ?c2 ?c3 ?c4 ?c5 ?_)
          case c1 => exact cell_one_new _ _ _
          case c2 => intro u hu; simp at hu; subst hu; rfl
          case c3 => unfold maxLen; omega
          case c4 => omega
          case c5 => have := fed.clt; simp at this ⊢; omega
          intro v1' w2 hown hgrow _ hat
          have fed2 := (fed.alloc _).push (M := [y]) hown rfl hgrow (by simpa using hat)
          have hbw2 := Below.grown_row (hbw.alloc hbw.size _) (fed.t.a.alloc _) hgrow (by have := hbw.size; simp at this ⊢; omega) (by have := fed.far; omega)
          clear hown hgrow hat fed hbw
          go_wp2_with (at_builtin; refine wpList_append_own_at _ rfl _ _ 28 rfl (C + 1) 3 i0 (.int .i64 0) 1 8 Tryd.underlying28 hi hz0 hz1 hz2 rfl (by decide) _ _ _ rfl (fed2.t.b.alloc _) ⟨_, 0, none⟩ 1 1 [.int .i64 (lo1 + 1)] rfl rfl ?c1 ?c2 ?c3 ?c4 ?c5 ?_)
          case c1 => exact cell_one_new _ _ _
          case c2 => intro u hu; simp at hu; subst hu; rfl
          case c3 => unfold maxLen; omega
          case c4 => omega
          case c5 => have := fed2.clt; simp at this ⊢; omega
          intro v2' w3 hown hgrow _ hat
          have fed3 := (fed2.alloc _).push2 (M := [lo1 + 1]) hown rfl hgrow (by simpa using hat)
          have hbw3 := Below.grown_row (hbw2.alloc hbw2.size _) (fed2.t.b.alloc _) hgrow (by have := hbw2.size; simp at this ⊢; omega) (by have := fed2.far; omega)
          clear hown hgrow hat fed2 hbw2
          go_wp2
          go_roundw
          case rel => exact ⟨_, _, _, sh1, 0, rfl, rfl, by omega, by omega, by omega, hsh, HF.out.trans HE.out, fed3, hbw3⟩
          case measure => simp only [strSize]; omega
end Go.Proofs.YtcclollclbegoaaDoor
