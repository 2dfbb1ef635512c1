/-
  For every two lists of bytes, laws.FnFolded returns true: at a drawn set FoldSet answers as the specification's, has each letter just where the set has it or the one that counts as one with it, and is its own FoldSet; SetOf and FoldRune answer at drawn arguments as the specification's, and a set of runes has them all. No conditions.
-/
import Derived.Test.YtmmhgeaddldhlaaFoldB
import Derived.Test.YtmmhgeaddldhlaaArgB
import Derived.Test.YtmmhgeaddldhlaaC4Du
import Derived.Test.YtmmhgeaddldhlaaC4Dv
namespace Go.Proofs.Ytmmhgeaddldhlaa
open Go.ChangeShapes Go.WideShapes Go.ChangeAt Go.WideMaps Go.WideElems Go.RowKit
namespace LawFolded
theorem own : ownKnob Try.prog.godebug = none := by kernel_rfl
theorem laidOut : laidOutB Try.prog = true := by kernel_rfl
set_option maxRecDepth 100000 in
set_option maxHeartbeats 16000000 in
theorem walk_in (a0 : Option Addr) (n0 c0 : Nat) (a1 : Option Addr) (n1 c1 : Nat) (w : World) (hA : ArgB w a0 n0) (hM : ArgB w a1 n1) (hn0 : (n0 : Int) ≤ 1048576) (hn1 : (n1 : Int) ≤ 1048576 - n0) :
    Calls Try.prog 5 #[.slice a0 n0 c0, .slice a1 n1 c1] w fun e w' => e = .returned (.bool true) ∧ Below w.heap.size w w' := by
  have HA : Hid _ := hA
  have HM : Hid _ := hM
  have hn0' : ¬ (1048576 : Int) < (n0 : Int) := by omega
  have hn1' : ¬ (1048576 : Int) - n0 < (n1 : Int) := by omega
  have B0 : Hid (Below w.heap.size w w) := Below.refl _ _
  clear hA hM
  go_enter Try.func5, Try.ntmps5
  go_wp2_with (first | (go_at_call 6; go_in) | fail)
  refine (Calls.mono (dfs_any a0 n0 c0 _ HA.out) ?_)
  rintro e w1 ⟨⟨v1, L1, rfl, l1, o1⟩, b⟩
  have B1 : Hid (Below w.heap.size w w1) := B0.out.trans (b.mono B0.out.size)
  clear b B0 
  obtain ⟨_, aA, cA, rfl, iA⟩ := ints_of_own o1
  have IA1 : Hid _ := iA
  clear iA o1
  have hl1 : L1.length ≤ 1048576 := by omega
  obtain ⟨okf, Gf, hf, SPf, IMf, Ff⟩ := fold_both L1 hl1
  have HSPf : Hid _ := SPf
  have HIMf : Hid _ := IMf
  have HFf : Hid _ := Ff
  clear SPf IMf Ff
  have bbf : (okf == okf) = true := by simp
  go_wp2_with fail
  refine (Calls.mono (HIMf.out _ _ _ IA1.out) ?_)
  rintro e w2 ⟨v, rfl, ox, b⟩
  have IA2 : Hid _ := IntsAt.keepB IA1.out b
  have B2 : Hid (Below w.heap.size w w2) := B1.out.trans (b.mono B1.out.size)
  clear b B1 IA1
  obtain ⟨_, aF, cF, rfl, iF⟩ := ints_of_own ox
  have IF2 : Hid _ := iF
  clear iF ox
  go_wp2_with fail
  refine (Calls.mono (HSPf.out _ _ _ IA2.out) ?_)
  rintro e w3 ⟨v, rfl, ox, b⟩
  have IA3 : Hid _ := IntsAt.keepB IA2.out b
  have IF3 : Hid _ := IntsAt.keepB IF2.out b
  have B3 : Hid (Below w.heap.size w w3) := B2.out.trans (b.mono B2.out.size)
  clear b B2 IA2 IF2
  obtain ⟨_, aG, cG, rfl, iG⟩ := ints_of_own ox
  have IG3 : Hid _ := iG
  clear iG ox
  go_wp2_with fail
  refine (Calls.mono (same_any Gf _ _ _ _ _ hf IF3.out IG3.out) ?_)
  rintro e w4 ⟨rfl, b⟩
  have IA4 : Hid _ := IntsAt.keepB IA3.out b
  have IF4 : Hid _ := IntsAt.keepB IF3.out b
  have IG4 : Hid _ := IntsAt.keepB IG3.out b
  have B4 : Hid (Below w.heap.size w w4) := B3.out.trans (b.mono B3.out.size)
  clear b B3 IA3 IF3 IG3
  clear IG4
  cases okf
  · skip
    go_wp2_with fail
    refine (Calls.mono (dso_any a1 n1 c1 _ (ArgB.below HM.out B4.out)) ?_)
    rintro e w5 ⟨⟨v4, L4, rfl, l4, o4⟩, b⟩
    have B5 : Hid (Below w.heap.size w w5) := B4.out.trans (b.mono B4.out.size)
    clear b B4 
    obtain ⟨_, aS, cS, rfl, iS⟩ := ints_of_own o4
    have IS5 : Hid _ := iS
    clear iS o4
    have hl4 : L4.length ≤ 1048576 := by omega
    obtain ⟨oks, Gs, hs, SPs, IMs, Fs⟩ := setOf_both L4 hl4
    have HSPs : Hid _ := SPs
    have HIMs : Hid _ := IMs
    have HFs : Hid _ := Fs
    clear SPs IMs Fs
    have bbs : (oks == oks) = true := by simp
    go_wp2_with fail
    refine (Calls.mono (HIMs.out _ _ _ IS5.out) ?_)
    rintro e w6 ⟨v, rfl, ox, b⟩
    have IS6 : Hid _ := IntsAt.keepB IS5.out b
    have B6 : Hid (Below w.heap.size w w6) := B5.out.trans (b.mono B5.out.size)
    clear b B5 IS5
    obtain ⟨_, aX, cX, rfl, iX⟩ := ints_of_own ox
    have IX6 : Hid _ := iX
    clear iX ox
    go_wp2_with fail
    refine (Calls.mono (HSPs.out _ _ _ IS6.out) ?_)
    rintro e w7 ⟨v, rfl, ox, b⟩
    have IS7 : Hid _ := IntsAt.keepB IS6.out b
    have IX7 : Hid _ := IntsAt.keepB IX6.out b
    have B7 : Hid (Below w.heap.size w w7) := B6.out.trans (b.mono B6.out.size)
    clear b B6 IS6 IX6
    obtain ⟨_, aY, cY, rfl, iY⟩ := ints_of_own ox
    have IY7 : Hid _ := iY
    clear iY ox
    go_wp2_with fail
    refine (Calls.mono (dfr_any a1 n1 c1 _ (ArgB.below HM.out B7.out)) ?_)
    rintro e w8 ⟨r5, rfl, b⟩
    have IS8 : Hid _ := IntsAt.keepB IS7.out b
    have IX8 : Hid _ := IntsAt.keepB IX7.out b
    have IY8 : Hid _ := IntsAt.keepB IY7.out b
    have B8 : Hid (Below w.heap.size w w8) := B7.out.trans (b.mono B7.out.size)
    clear b B7 IS7 IX7 IY7
    obtain ⟨k5, g5, FI5, FS5⟩ := foldR_both r5
    have HFI5 : Hid _ := FI5
    have HFS5 : Hid _ := FS5
    clear FI5 FS5
    have b5 : (g5 == g5) = true := by simp
    go_wp2_with fail
    refine (Calls.mono (HFI5.out _) ?_)
    rintro e wq ⟨rfl, rfl⟩
    go_wp2_with fail
    refine (Calls.mono (HFS5.out _) ?_)
    rintro e wq ⟨rfl, rfl⟩
    go_wp2_with fail
    refine (Calls.mono (same_any Gs _ _ _ _ _ hs IX8.out IY8.out) ?_)
    rintro e w9 ⟨rfl, b⟩
    have IS9 : Hid _ := IntsAt.keepB IS8.out b
    have IX9 : Hid _ := IntsAt.keepB IX8.out b
    have IY9 : Hid _ := IntsAt.keepB IY8.out b
    have B9 : Hid (Below w.heap.size w w9) := B8.out.trans (b.mono B8.out.size)
    clear b B8 IS8 IX8 IY8
    clear IY9
    go_wp2
    go_loopw [175] (fun i wr => ∃ j : Nat, j ≤ L4.length ∧ i = .int .i64 j ∧ Below w9.heap.size w9 wr) (fun i _ => L4.length - (intOf i).toNat)
    case atStart => exact ⟨0, Nat.zero_le _, rfl, Below.refl _ _⟩
    case round =>
      obtain ⟨j, hj, rfl, hbz⟩ := hrel
      have BZ : Hid _ := hbz
      by_cases hlt : j < L4.length
      · have hltI : (j : Int) < (L4.length : Int) := by omega
        obtain ⟨b1, o1, rfl, l1, h1⟩ := IS9.out j hlt
        have g1 : wr.cell? ⟨b1, o1 + j, none⟩ = some (.int .i64 (L4.getD j 0)) := (hbz.cell (p := ⟨b1, o1 + j, none⟩) l1).trans h1
        obtain ⟨x, hx⟩ : ∃ x, L4.getD j 0 = x := ⟨_, rfl⟩
        rw [hx] at g1
        have HX : Hid (L4.getD j 0 = x) := hx
        clear h1 hbz hx
        go_wp2_with fail
        refine (iin_all2 Gs x _ _ _ hs (IntsAt.keepB IX9.out BZ.out)).mono ?_
        rintro e wy ⟨rfl, b⟩
        have BY : Hid (Below w9.heap.size w9 wy) := BZ.out.trans (b.mono BZ.out.size)
        clear b
        cases oks
        · go_wp2
          go_roundw
          case rel => exact ⟨j + 1, by omega, by go_num, BY.out⟩
          case measure => simp [intOf]; omega
        · obtain ⟨f1, f2⟩ := HFs.out rfl
          obtain ⟨f3, f4⟩ := f2 j hlt
          rw [HX.out] at f3 f4
          clear f2
          rw [f1, f3, f4]
          clear f1 f3 f4
          go_wp2
          go_roundw
          case rel => exact ⟨j + 1, by omega, by go_num, BY.out⟩
          case measure => simp [intOf]; omega
      · have hltI : ¬ (j : Int) < (L4.length : Int) := by omega
        go_wp2
        go_ret
        exact ⟨rfl, B9.out.trans (BZ.out.mono B9.out.size)⟩
  · obtain ⟨f1, f2, f3, f4⟩ := HFf.out rfl
    have F3 : Hid _ := f3
    have F4 : Hid _ := f4
    clear f3 f4
    go_wp2
    go_loopw [10] (fun i wr => ∃ r : Nat, 65 ≤ r ∧ r ≤ 91 ∧ i = .int .i64 r ∧ Below w4.heap.size w4 wr) (fun i _ => 91 - (intOf i).toNat)
    case atStart => exact ⟨65, by omega, by omega, rfl, Below.refl _ _⟩
    case round =>
      obtain ⟨r, h65, h91, rfl, hbr⟩ := hrel
      have BR : Hid (Below w4.heap.size w4 wr) := hbr
      clear hbr
      by_cases hlt : (r : Int) ≤ 90
      · obtain ⟨m1, m2⟩ := F3.out r (by omega) hlt
        have gr : goodB (r : Int) = true := by simp [goodB]; omega
        have gr2 : goodB ((r : Int) + 32) = true := by simp [goodB]; omega
        go_wp2_with fail
        refine (iin_all Gf (r : Int) _ _ _ hf gr (IntsAt.keepB IF4.out BR.out)).mono ?_
        rintro e y0 ⟨rfl, b⟩
        have Y0 : Hid (Below w4.heap.size w4 y0) := BR.out.trans (b.mono BR.out.size)
        clear b BR
        go_wp2_with fail
        refine (iin_all Gf ((r : Int) + 32) _ _ _ hf gr2 (IntsAt.keepB IF4.out Y0.out)).mono ?_
        rintro e y1 ⟨rfl, b⟩
        have Y1 : Hid (Below w4.heap.size w4 y1) := Y0.out.trans (b.mono Y0.out.size)
        clear b Y0
        go_wp2_with fail
        refine (iin_all L1 (r : Int) _ _ _ hl1 gr (IntsAt.keepB IA4.out Y1.out)).mono ?_
        rintro e y2 ⟨rfl, b⟩
        have Y2 : Hid (Below w4.heap.size w4 y2) := Y1.out.trans (b.mono Y1.out.size)
        clear b Y1
        go_wp2_with fail
        refine (iin_all L1 ((r : Int) + 32) _ _ _ hl1 gr2 (IntsAt.keepB IA4.out Y2.out)).mono ?_
        rintro e y3 ⟨rfl, b⟩
        have Y3 : Hid (Below w4.heap.size w4 y3) := Y2.out.trans (b.mono Y2.out.size)
        clear b Y2
        rw [f1]
        generalize memS L1 (r : Int) = p at *
        generalize memS L1 ((r : Int) + 32) = q at *
        cases p <;> cases q
        all_goals
          go_wp2
          go_roundw
          case rel => exact ⟨r + 1, by omega, by omega, by go_num, Y3.out⟩
          case measure => simp [intOf]; omega
      · have hlt2 : ¬ (r : Int) ≤ 90 := hlt
        go_wp2_with fail
        refine (F4.out _ _ _ (IntsAt.keepB IF4.out BR.out)).mono ?_
        rintro e z1 ⟨v, rfl, ox, b⟩
        have Z1 : Hid (Below w4.heap.size w4 z1) := BR.out.trans (b.mono BR.out.size)
        clear b
        obtain ⟨_, aR, cR, rfl, iR⟩ := ints_of_own ox
        have IR : Hid _ := iR
        clear iR ox
        go_wp2_with fail
        refine (same_any Gf _ _ _ _ _ hf IR.out (IntsAt.keepB IF4.out Z1.out)).mono ?_
        rintro e w5 ⟨rfl, b⟩
        have B5 : Hid (Below w.heap.size w w5) := B4.out.trans ((Z1.out.trans (b.mono Z1.out.size)).mono B4.out.size)
        clear b Z1 IR
        go_wp2_with fail
        refine (Calls.mono (dso_any a1 n1 c1 _ (ArgB.below HM.out B5.out)) ?_)
        rintro e w6 ⟨⟨v4, L4, rfl, l4, o4⟩, b⟩
        have B6 : Hid (Below w.heap.size w w6) := B5.out.trans (b.mono B5.out.size)
        clear b B5 
        obtain ⟨_, aS, cS, rfl, iS⟩ := ints_of_own o4
        have IS6 : Hid _ := iS
        clear iS o4
        have hl4 : L4.length ≤ 1048576 := by omega
        obtain ⟨oks, Gs, hs, SPs, IMs, Fs⟩ := setOf_both L4 hl4
        have HSPs : Hid _ := SPs
        have HIMs : Hid _ := IMs
        have HFs : Hid _ := Fs
        clear SPs IMs Fs
        have bbs : (oks == oks) = true := by simp
        go_wp2_with fail
        refine (Calls.mono (HIMs.out _ _ _ IS6.out) ?_)
        rintro e w7 ⟨v, rfl, ox, b⟩
        have IS7 : Hid _ := IntsAt.keepB IS6.out b
        have B7 : Hid (Below w.heap.size w w7) := B6.out.trans (b.mono B6.out.size)
        clear b B6 IS6
        obtain ⟨_, aX, cX, rfl, iX⟩ := ints_of_own ox
        have IX7 : Hid _ := iX
        clear iX ox
        go_wp2_with fail
        refine (Calls.mono (HSPs.out _ _ _ IS7.out) ?_)
        rintro e w8 ⟨v, rfl, ox, b⟩
        have IS8 : Hid _ := IntsAt.keepB IS7.out b
        have IX8 : Hid _ := IntsAt.keepB IX7.out b
        have B8 : Hid (Below w.heap.size w w8) := B7.out.trans (b.mono B7.out.size)
        clear b B7 IS7 IX7
        obtain ⟨_, aY, cY, rfl, iY⟩ := ints_of_own ox
        have IY8 : Hid _ := iY
        clear iY ox
        go_wp2_with fail
        refine (Calls.mono (dfr_any a1 n1 c1 _ (ArgB.below HM.out B8.out)) ?_)
        rintro e w9 ⟨r5, rfl, b⟩
        have IS9 : Hid _ := IntsAt.keepB IS8.out b
        have IX9 : Hid _ := IntsAt.keepB IX8.out b
        have IY9 : Hid _ := IntsAt.keepB IY8.out b
        have B9 : Hid (Below w.heap.size w w9) := B8.out.trans (b.mono B8.out.size)
        clear b B8 IS8 IX8 IY8
        obtain ⟨k5, g5, FI5, FS5⟩ := foldR_both r5
        have HFI5 : Hid _ := FI5
        have HFS5 : Hid _ := FS5
        clear FI5 FS5
        have b5 : (g5 == g5) = true := by simp
        go_wp2_with fail
        refine (Calls.mono (HFI5.out _) ?_)
        rintro e wq ⟨rfl, rfl⟩
        go_wp2_with fail
        refine (Calls.mono (HFS5.out _) ?_)
        rintro e wq ⟨rfl, rfl⟩
        go_wp2_with fail
        refine (Calls.mono (same_any Gs _ _ _ _ _ hs IX9.out IY9.out) ?_)
        rintro e w10 ⟨rfl, b⟩
        have IS10 : Hid _ := IntsAt.keepB IS9.out b
        have IX10 : Hid _ := IntsAt.keepB IX9.out b
        have IY10 : Hid _ := IntsAt.keepB IY9.out b
        have B10 : Hid (Below w.heap.size w w10) := B9.out.trans (b.mono B9.out.size)
        clear b B9 IS9 IX9 IY9
        clear IY10
        go_wp2
        go_loopw [175] (fun i wr => ∃ j : Nat, j ≤ L4.length ∧ i = .int .i64 j ∧ Below w10.heap.size w10 wr) (fun i _ => L4.length - (intOf i).toNat)
        case atStart => exact ⟨0, Nat.zero_le _, rfl, Below.refl _ _⟩
        case round =>
          obtain ⟨j, hj, rfl, hbz⟩ := hrel
          have BZ : Hid _ := hbz
          by_cases hlt : j < L4.length
          · have hltI : (j : Int) < (L4.length : Int) := by omega
            obtain ⟨b1, o1, rfl, l1, h1⟩ := IS10.out j hlt
            have g1 : wr.cell? ⟨b1, o1 + j, none⟩ = some (.int .i64 (L4.getD j 0)) := (hbz.cell (p := ⟨b1, o1 + j, none⟩) l1).trans h1
            obtain ⟨x, hx⟩ : ∃ x, L4.getD j 0 = x := ⟨_, rfl⟩
            rw [hx] at g1
            have HX : Hid (L4.getD j 0 = x) := hx
            clear h1 hbz hx
            go_wp2_with fail
            refine (iin_all2 Gs x _ _ _ hs (IntsAt.keepB IX10.out BZ.out)).mono ?_
            rintro e wy ⟨rfl, b⟩
            have BY : Hid (Below w10.heap.size w10 wy) := BZ.out.trans (b.mono BZ.out.size)
            clear b
            cases oks
            · go_wp2
              go_roundw
              case rel => exact ⟨j + 1, by omega, by go_num, BY.out⟩
              case measure => simp [intOf]; omega
            · obtain ⟨f1, f2⟩ := HFs.out rfl
              obtain ⟨f3, f4⟩ := f2 j hlt
              rw [HX.out] at f3 f4
              clear f2
              rw [f1, f3, f4]
              clear f1 f3 f4
              go_wp2
              go_roundw
              case rel => exact ⟨j + 1, by omega, by go_num, BY.out⟩
              case measure => simp [intOf]; omega
          · have hltI : ¬ (j : Int) < (L4.length : Int) := by omega
            go_wp2
            go_ret
            exact ⟨rfl, B10.out.trans (BZ.out.mono B10.out.size)⟩
set_option maxRecDepth 100000 in
set_option maxHeartbeats 1000000 in
theorem walk_big (a0 : Option Addr) (n0 c0 : Nat) (a1 : Option Addr) (n1 c1 : Nat) (w : World) (h : (1048576 : Int) < n0 ∨ ((n0 : Int) ≤ 1048576 ∧ (1048576 : Int) - n0 < n1)) :
    Calls Try.prog 5 #[.slice a0 n0 c0, .slice a1 n1 c1] w fun e w' => e = .returned (.bool true) ∧ Below w.heap.size w w' := by
  rcases h with h | ⟨h1, h2⟩
  · go_enter Try.func5, Try.ntmps5
    go_wp2_with (first | (go_at_call 6; go_in) | fail)
    go_ret
    exact ⟨rfl, Below.refl _ _⟩
  · have h1' : ¬ (1048576 : Int) < (n0 : Int) := by omega
    go_enter Try.func5, Try.ntmps5
    go_wp2_with (first | (go_at_call 6; go_in) | fail)
    go_ret
    exact ⟨rfl, Below.refl _ _⟩
theorem walk (a0 : Option Addr) (n0 c0 : Nat) (a1 : Option Addr) (n1 c1 : Nat) (w : World) (hA : ArgB w a0 n0) (hM : ArgB w a1 n1) :
    Calls Try.prog 5 #[.slice a0 n0 c0, .slice a1 n1 c1] w fun e w' => e = .returned (.bool true) ∧ Below w.heap.size w w' := by
  by_cases h : (1048576 : Int) < n0 ∨ ((n0 : Int) ≤ 1048576 ∧ (1048576 : Int) - n0 < n1)
  · exact walk_big a0 n0 c0 a1 n1 c1 w h
  · exact walk_in a0 n0 c0 a1 n1 c1 w hA hM (by omega) (by omega)
set_option maxRecDepth 100000 in
theorem lifted (os : Os) (started : os.Started) (H : Type) (enc : TypeId × Value → H) :
    ReturnsInHanded {} Try.checked os 5 .any (Rows.fnFoldedSpec.pre6 enc Try.prog Try.f5 Rows.fnFoldedRow.domain false) (Rows.fnFoldedSpec.post enc Try.prog Try.f5 false true false false) := by
  refine returnsInHanded_of_change (C := Try.checked) own started (by kernel_rfl) Try.func5
    (ChangeSpec.witness6 (enc := enc) (C := Try.checked) false ⟨#[], #[.slice none 0 0, .slice none 0 0], []⟩ 8 (by kernel_rfl) (by kernel_rfl) (by kernel_rfl) (by kernel_rfl)) ?_
  intro W base args ds gs before hval0 hW hcnd _
  have hval : ∀ (j : Nat) t v, Try.f5.params[j]? = some t → args[j]? = some v → Value.okWide Try.prog W .any base t v := hval0
  have hW' := hW
  obtain ⟨p, q, hA0, hV, rfl, hfz, hnd⟩ := hW
  have hA : DataW.TrodAll enc Try.prog W 0 (fun _ => true) true Try.f5.params.toList args.toList ds p := hA0
  rw [Try.params5] at hA hval
  obtain ⟨v0, vs0, d0, ds0, p0, q0, hargs, rfl, rfl, h0, r0⟩ := trodAll_cons hA
  obtain ⟨v1, vs1, d1, ds1, p1, q1, hargs1, rfl, rfl, h1, r1⟩ := trodAll_cons r0
  obtain ⟨rfl, rfl, rfl⟩ := trodAll_nil r1
  obtain rfl : args = #[v0, v1] := by cases args; simp_all
  obtain ⟨rfl, rfl⟩ := trodVars_none hV
  obtain ⟨a0, len0, cap0, rfl⟩ := okWide_slice Try.underlying22 (hval 0 22 v0 rfl rfl)
  obtain ⟨a1, len1, cap1, rfl⟩ := okWide_slice Try.underlying22 (hval 1 22 v1 rfl rfl)
  have k0 := h0
  have k1 := h1
  have lt0 : ∀ x ∈ p0, x.block < W.heap.size := by obtain ⟨m, hm⟩ := k0; exact DataW.trod_lt m _ _ _ hm
  have lt1 : ∀ x ∈ p1, x.block < W.heap.size := by obtain ⟨m, hm⟩ := k1; exact DataW.trod_lt m _ _ _ hm
  have i0 : ArgB W a0 len0 := by obtain ⟨fuel, hf⟩ := h0; exact argB_of hf
  have i1 : ArgB W a1 len1 := by obtain ⟨fuel, hf⟩ := h1; exact argB_of hf
  clear hA0 hval0
  refine (walk a0 len0 cap0 a1 len1 cap1 W i0 i1).mono fun e W' ⟨he, bel⟩ => ?_
  subst he
  exact ⟨_, rfl, _, _, _, [], _, [], hW', trodAll_mk1 (shut_bool Try.underlying4 _), trodAll_cons_mk (Below.trod laidOut (by kernel_rfl) (of_decide_eq_true (by kernel_rfl)) k0 bel lt0) (trodAll_cons_mk (Below.trod laidOut (by kernel_rfl) (of_decide_eq_true (by kernel_rfl)) k1 bel lt1) trodAll_mk0), rfl, bel.frame _, fun h => by cases h⟩
theorem row : Rows.FnFoldedSaid :=
  OpenClaim.holds_of_wide 5 Try.f5 rfl rfl rfl rfl rfl rfl rfl ⟨rfl, rfl, rfl, rfl, rfl⟩ rfl rfl rfl rfl rfl (by kernel_rfl) Try.func5 (by kernel_rfl)
    (of_decide_eq_true (by kernel_rfl)) (by unfold Func.isWrapper; first | (rw [if_pos (by decide +kernel)]; kernel_rfl) | (rw [if_neg (by decide +kernel)]; exact ⟨rfl, rfl⟩))
    (fun os started H enc _ => lifted os started H enc)
end LawFolded
theorem folded_holds : Rows.FnFoldedSaid := LawFolded.row
#print axioms folded_holds
end Go.Proofs.Ytmmhgeaddldhlaa
