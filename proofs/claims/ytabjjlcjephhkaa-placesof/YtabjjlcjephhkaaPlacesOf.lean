/-
  For every two lists of ints, laws.FnExactPlacesOf returns true: impl.PlacesOf answers as the specification's PlacesOf, list and flag, in memory of its own that a second call leaves alone and that is no part of the lists, which stay as they were. No conditions.
-/
import Derived.Test.YtabjjlcjephhkaaW8O
import Derived.Test.YtabjjlcjephhkaaMarkC
namespace Go.Proofs.Ytabjjlcjephhkaa
open Go.ChangeShapes Go.WideShapes Go.ChangeAt Go.WideMaps Go.WideElems Go.RowKit
namespace LawPlacesOf
theorem own : ownKnob Try.prog.godebug = none := by kernel_rfl
theorem laidOut : laidOutB Try.prog = true := by kernel_rfl
set_option maxRecDepth 100000 in
set_option maxHeartbeats 8000000 in
theorem core (L M : List Int) (ao bo : Option Addr) (ca cb : Nat) (w : World) (hA : IntsAt w ao L) (hB : IntsAt w bo M) (hl : ¬ (1048576 : Int) < L.length) (hm : ¬ (1048576 : Int) < M.length) (ok : Bool) (G : List Int) (hn : G.length ≤ 1048576)
    (SP : ∀ w ao ca bo cb, L.length ≤ ca → IntsAt w ao L → IntsAt w bo M → Calls Try.prog 21 #[.slice ao L.length ca, .slice bo M.length cb] w fun e w' => ∃ v, e = .returned (.tuple #[v, .bool ok]) ∧ w'.ownsRow w.heap.size 3 1 v G.length (ints G) ∧ Below w.heap.size w w')
    (IM : ∀ w ao ca bo cb, L.length ≤ ca → IntsAt w ao L → IntsAt w bo M → Calls Try.prog 20 #[.slice ao L.length ca, .slice bo M.length cb] w fun e w' => ∃ v, e = .returned (.tuple #[v, .bool ok]) ∧ w'.ownsRow w.heap.size 3 1 v G.length (ints G) ∧ Below w.heap.size w w') :
    Calls Try.prog 6 #[.slice ao L.length ca, .slice bo M.length cb] w fun e w' => e = .returned (.bool true) ∧ Below w.heap.size w w' := by
  have HSP : Hid _ := SP
  have HIM : Hid _ := IM
  have HN : Hid _ := hn
  have HL : Hid (L.length ≤ 1048576) := by show L.length ≤ 1048576; omega
  have HM : Hid (M.length ≤ 1048576) := by show M.length ≤ 1048576; omega
  have HA : Hid (IntsAt w ao L) := hA
  have HB : Hid (IntsAt w bo M) := hB
  have hq : ¬ (1 + (G.length : Int)) < 0 := by omega
  have hq2 : ¬ (1 + (L.length : Int) + (M.length : Int)) < 0 := by omega
  have hq3 : (0 : Int) ≤ 1 + (L.length : Int) := by omega
  have HQ4 : Hid (1 + (L.length : Int) ≤ 10000000) := by show 1 + (L.length : Int) ≤ 10000000; omega
  have B0 : Hid (Below w.heap.size w w) := Below.refl _ _
  clear SP IM hn hA hB
  cases ok
  all_goals
    go_enter Try.func6, Try.ntmps6
    go_wp2_with fail
    refine (toI_any L _ _ _ HL.out (IntsAt.keepB HA.out B0.out)).mono ?_
    rintro e w1 ⟨vP, rfl, ox, b⟩
    have SZ0 : Hid (w.heap.size ≤ w1.heap.size) := b.size
    have B1 : Hid (Below w.heap.size w w1) := B0.out.trans (b.mono B0.out.size)
    have P1 : Hid (w1.ownsRow w.heap.size 3 1 vP L.length (ints L)) := ox
    have P0 : Hid (w1.ownsRow w.heap.size 3 1 vP L.length (ints L)) := ox
    obtain ⟨_, aP, cP, rfl, _⟩ := ints_of_own ox
    clear ox b
    go_wp2_with fail
    refine (toI_any M _ _ _ HM.out (IntsAt.keepB HB.out B1.out)).mono ?_
    rintro e w2 ⟨vQ, rfl, ox, b⟩
    have P2 : Hid _ := World.ownsRow.keepB P1.out b
    have SZ1 : Hid (w1.heap.size ≤ w2.heap.size) := b.size
    have B2 : Hid (Below w.heap.size w w2) := B1.out.trans (b.mono B1.out.size)
    have Q2 : Hid (w2.ownsRow w1.heap.size 3 1 vQ M.length (ints M)) := ox
    have Q0 : Hid (w2.ownsRow w1.heap.size 3 1 vQ M.length (ints M)) := ox
    obtain ⟨_, aQ, cQ, rfl, _⟩ := ints_of_own ox
    clear ox b
    go_wp2_with fail
    refine (HSP.out _ _ _ _ _ (own_cap8 P2.out) (own_ints P2.out) (own_ints Q2.out)).mono ?_
    rintro e w3 ⟨vW, rfl, ox, b⟩
    have P3 : Hid _ := World.ownsRow.keepB P2.out b
    have Q3 : Hid _ := World.ownsRow.keepB Q2.out b
    have SZ2 : Hid (w2.heap.size ≤ w3.heap.size) := b.size
    have B3 : Hid (Below w.heap.size w w3) := B2.out.trans (b.mono B2.out.size)
    have W3 : Hid (w3.ownsRow w2.heap.size 3 1 vW G.length (ints G)) := ox
    have W0 : Hid (w3.ownsRow w2.heap.size 3 1 vW G.length (ints G)) := ox
    obtain ⟨_, aW, cW, rfl, _⟩ := ints_of_own ox
    clear ox b
    go_wp2_with fail
    refine (toI_any L _ _ _ HL.out (IntsAt.keepB HA.out B3.out)).mono ?_
    rintro e w4 ⟨vX, rfl, ox, b⟩
    have W4 : Hid _ := World.ownsRow.keepB W3.out b
    have SZ3 : Hid (w3.heap.size ≤ w4.heap.size) := b.size
    have B4 : Hid (Below w.heap.size w w4) := B3.out.trans (b.mono B3.out.size)
    have X4 : Hid (w4.ownsRow w3.heap.size 3 1 vX L.length (ints L)) := ox
    have X0 : Hid (w4.ownsRow w3.heap.size 3 1 vX L.length (ints L)) := ox
    obtain ⟨_, aX, cX, rfl, _⟩ := ints_of_own ox
    clear ox b
    go_wp2_with fail
    refine (toI_any M _ _ _ HM.out (IntsAt.keepB HB.out B4.out)).mono ?_
    rintro e w5 ⟨vY, rfl, ox, b⟩
    have W5 : Hid _ := World.ownsRow.keepB W4.out b
    have X5 : Hid _ := World.ownsRow.keepB X4.out b
    have SZ4 : Hid (w4.heap.size ≤ w5.heap.size) := b.size
    have B5 : Hid (Below w.heap.size w w5) := B4.out.trans (b.mono B4.out.size)
    have Y5 : Hid (w5.ownsRow w4.heap.size 3 1 vY M.length (ints M)) := ox
    have Y0 : Hid (w5.ownsRow w4.heap.size 3 1 vY M.length (ints M)) := ox
    obtain ⟨_, aY, cY, rfl, _⟩ := ints_of_own ox
    clear ox b
    go_wp2_with fail
    refine (HIM.out _ _ _ _ _ (own_cap8 X5.out) (own_ints X5.out) (own_ints Y5.out)).mono ?_
    rintro e w6 ⟨vG, rfl, ox, b⟩
    have W6 : Hid _ := World.ownsRow.keepB W5.out b
    have X6 : Hid _ := World.ownsRow.keepB X5.out b
    have Y6 : Hid _ := World.ownsRow.keepB Y5.out b
    have SZ5 : Hid (w5.heap.size ≤ w6.heap.size) := b.size
    have B6 : Hid (Below w.heap.size w w6) := B5.out.trans (b.mono B5.out.size)
    have G6 : Hid (w6.ownsRow w5.heap.size 3 1 vG G.length (ints G)) := ox
    have G0 : Hid (w6.ownsRow w5.heap.size 3 1 vG G.length (ints G)) := ox
    obtain ⟨_, aG, cG, rfl, _⟩ := ints_of_own ox
    clear ox b
    go_wp2_with fail
    refine (eq_any G _ _ _ _ _ HN.out (own_ints G6.out) (own_ints W6.out)).mono ?_
    rintro e w7 ⟨rfl, b⟩
    have W7 : Hid _ := World.ownsRow.keepB W6.out b
    have X7 : Hid _ := World.ownsRow.keepB X6.out b
    have Y7 : Hid _ := World.ownsRow.keepB Y6.out b
    have G7 : Hid _ := World.ownsRow.keepB G6.out b
    have SZ6 : Hid (w6.heap.size ≤ w7.heap.size) := b.size
    have B7 : Hid (Below w.heap.size w w7) := B6.out.trans (b.mono B6.out.size)
    clear b
    go_wp2_with fail
    refine (toI_any L _ _ _ HL.out (IntsAt.keepB HA.out B7.out)).mono ?_
    rintro e w8 ⟨vZ, rfl, ox, b⟩
    have W8 : Hid _ := World.ownsRow.keepB W7.out b
    have X8 : Hid _ := World.ownsRow.keepB X7.out b
    have Y8 : Hid _ := World.ownsRow.keepB Y7.out b
    have G8 : Hid _ := World.ownsRow.keepB G7.out b
    have SZ7 : Hid (w7.heap.size ≤ w8.heap.size) := b.size
    have B8 : Hid (Below w.heap.size w w8) := B7.out.trans (b.mono B7.out.size)
    have Z8 : Hid (w8.ownsRow w7.heap.size 3 1 vZ L.length (ints L)) := ox
    have Z0 : Hid (w8.ownsRow w7.heap.size 3 1 vZ L.length (ints L)) := ox
    obtain ⟨_, aZ, cZ, rfl, _⟩ := ints_of_own ox
    clear ox b
    go_wp2_with fail
    refine (eq_any L _ _ _ _ _ HL.out (own_ints X8.out) (own_ints Z8.out)).mono ?_
    rintro e w9 ⟨rfl, b⟩
    have W9 : Hid _ := World.ownsRow.keepB W8.out b
    have X9 : Hid _ := World.ownsRow.keepB X8.out b
    have Y9 : Hid _ := World.ownsRow.keepB Y8.out b
    have G9 : Hid _ := World.ownsRow.keepB G8.out b
    have Z9 : Hid _ := World.ownsRow.keepB Z8.out b
    have SZ8 : Hid (w8.heap.size ≤ w9.heap.size) := b.size
    have B9 : Hid (Below w.heap.size w w9) := B8.out.trans (b.mono B8.out.size)
    clear b
    go_wp2_with fail
    refine (toI_any M _ _ _ HM.out (IntsAt.keepB HB.out B9.out)).mono ?_
    rintro e w10 ⟨vV, rfl, ox, b⟩
    have W10 : Hid _ := World.ownsRow.keepB W9.out b
    have X10 : Hid _ := World.ownsRow.keepB X9.out b
    have Y10 : Hid _ := World.ownsRow.keepB Y9.out b
    have G10 : Hid _ := World.ownsRow.keepB G9.out b
    have SZ9 : Hid (w9.heap.size ≤ w10.heap.size) := b.size
    have B10 : Hid (Below w.heap.size w w10) := B9.out.trans (b.mono B9.out.size)
    have V10 : Hid (w10.ownsRow w9.heap.size 3 1 vV M.length (ints M)) := ox
    have V0 : Hid (w10.ownsRow w9.heap.size 3 1 vV M.length (ints M)) := ox
    obtain ⟨_, aV, cV, rfl, _⟩ := ints_of_own ox
    clear ox b
    go_wp2_with fail
    refine (eq_any M _ _ _ _ _ HM.out (own_ints Y10.out) (own_ints V10.out)).mono ?_
    rintro e w11 ⟨rfl, b⟩
    have W11 : Hid _ := World.ownsRow.keepB W10.out b
    have X11 : Hid _ := World.ownsRow.keepB X10.out b
    have Y11 : Hid _ := World.ownsRow.keepB Y10.out b
    have G11 : Hid _ := World.ownsRow.keepB G10.out b
    have V11 : Hid _ := World.ownsRow.keepB V10.out b
    have SZ10 : Hid (w10.heap.size ≤ w11.heap.size) := b.size
    have B11 : Hid (Below w.heap.size w w11) := B10.out.trans (b.mono B10.out.size)
    clear b
    go_wp2_with fail
    refine (mark_any L _ _ _ _ HL.out X11.out).mono ?_
    rintro e w12 ⟨rfl, og, gr⟩
    have W12 : Hid _ := World.ownsRow.kept W11.out gr (own_apart W0.out X11.out (by exact Nat.le_refl _))
    have Y12 : Hid _ := World.ownsRow.kept Y11.out gr (own_apart' X0.out Y11.out (by exact Nat.le_refl _))
    have G12 : Hid _ := World.ownsRow.kept G11.out gr (own_apart' X0.out G11.out (by exact SZ4.out))
    have X12 : Hid _ := og
    have B12 : Hid (Below w.heap.size w w12) := Below.grown B11.out gr B11.out.size (fun g hg => by have h1 := (World.ownsRow.lt X11.out g hg).1; have h2 := B3.out.size; omega)
    clear og gr
    go_wp2_with fail
    refine (mark_c _ hq3 HQ4.out M _ _ _ _ HM.out Y12.out).mono ?_
    rintro e w13 ⟨rfl, og, gr⟩
    have W13 : Hid _ := World.ownsRow.kept W12.out gr (own_apart W0.out Y12.out (by exact SZ3.out))
    have G13 : Hid _ := World.ownsRow.kept G12.out gr (own_apart' Y0.out G12.out (by exact Nat.le_refl _))
    have Y13 : Hid _ := og
    have B13 : Hid (Below w.heap.size w w13) := Below.grown B12.out gr B12.out.size (fun g hg => by have h1 := (World.ownsRow.lt Y12.out g hg).1; have h2 := B4.out.size; omega)
    clear og gr
    go_wp2_with fail
    refine (eq_any G _ _ _ _ _ HN.out (own_ints G13.out) (own_ints W13.out)).mono ?_
    rintro e w14 ⟨rfl, b⟩
    have W14 : Hid _ := World.ownsRow.keepB W13.out b
    have G14 : Hid _ := World.ownsRow.keepB G13.out b
    have SZ13 : Hid (w13.heap.size ≤ w14.heap.size) := b.size
    have B14 : Hid (Below w.heap.size w w14) := B13.out.trans (b.mono B13.out.size)
    clear b
    go_wp2_with fail
    refine (mark_any G _ _ _ _ HN.out G14.out).mono ?_
    rintro e w15 ⟨rfl, og, gr⟩
    have W15 : Hid _ := World.ownsRow.kept W14.out gr (own_apart W0.out G14.out (by exact Nat.le_trans SZ3.out SZ4.out))
    have G15 : Hid _ := og
    have B15 : Hid (Below w.heap.size w w15) := Below.grown B14.out gr B14.out.size (fun g hg => by have h1 := (World.ownsRow.lt G14.out g hg).1; have h2 := B5.out.size; omega)
    clear og gr
    go_wp2_with fail
    refine (held_any G _ _ _ HN.out (own_ints2 G15.out)).mono ?_
    rintro e w16 ⟨rfl, b⟩
    have W16 : Hid _ := World.ownsRow.keepB W15.out b
    have G16 : Hid _ := World.ownsRow.keepB G15.out b
    have SZ15 : Hid (w15.heap.size ≤ w16.heap.size) := b.size
    have B16 : Hid (Below w.heap.size w w16) := B15.out.trans (b.mono B15.out.size)
    clear b
    go_wp2_with fail
    refine (toI_any L _ _ _ HL.out (IntsAt.keepB HA.out B16.out)).mono ?_
    rintro e w17 ⟨vZ, rfl, ox, b⟩
    have W17 : Hid _ := World.ownsRow.keepB W16.out b
    have G17 : Hid _ := World.ownsRow.keepB G16.out b
    have SZ16 : Hid (w16.heap.size ≤ w17.heap.size) := b.size
    have B17 : Hid (Below w.heap.size w w17) := B16.out.trans (b.mono B16.out.size)
    have Z17 : Hid (w17.ownsRow w16.heap.size 3 1 vZ L.length (ints L)) := ox
    have Z0 : Hid (w17.ownsRow w16.heap.size 3 1 vZ L.length (ints L)) := ox
    obtain ⟨_, aZ, cZ, rfl, _⟩ := ints_of_own ox
    clear ox b
    go_wp2_with fail
    refine (toI_any M _ _ _ HM.out (IntsAt.keepB HB.out B17.out)).mono ?_
    rintro e w18 ⟨vV, rfl, ox, b⟩
    have W18 : Hid _ := World.ownsRow.keepB W17.out b
    have G18 : Hid _ := World.ownsRow.keepB G17.out b
    have Z18 : Hid _ := World.ownsRow.keepB Z17.out b
    have SZ17 : Hid (w17.heap.size ≤ w18.heap.size) := b.size
    have B18 : Hid (Below w.heap.size w w18) := B17.out.trans (b.mono B17.out.size)
    have V18 : Hid (w18.ownsRow w17.heap.size 3 1 vV M.length (ints M)) := ox
    have V0 : Hid (w18.ownsRow w17.heap.size 3 1 vV M.length (ints M)) := ox
    obtain ⟨_, aV, cV, rfl, _⟩ := ints_of_own ox
    clear ox b
    go_wp2_with fail
    refine (HIM.out _ _ _ _ _ (own_cap8 Z18.out) (own_ints Z18.out) (own_ints V18.out)).mono ?_
    rintro e w19 ⟨vK, rfl, ox, b⟩
    have W19 : Hid _ := World.ownsRow.keepB W18.out b
    have G19 : Hid _ := World.ownsRow.keepB G18.out b
    have Z19 : Hid _ := World.ownsRow.keepB Z18.out b
    have V19 : Hid _ := World.ownsRow.keepB V18.out b
    have SZ18 : Hid (w18.heap.size ≤ w19.heap.size) := b.size
    have B19 : Hid (Below w.heap.size w w19) := B18.out.trans (b.mono B18.out.size)
    have K19 : Hid (w19.ownsRow w18.heap.size 3 1 vK G.length (ints G)) := ox
    have K0 : Hid (w19.ownsRow w18.heap.size 3 1 vK G.length (ints G)) := ox
    obtain ⟨_, aK, cK, rfl, _⟩ := ints_of_own ox
    clear ox b
    go_wp2_with fail
    refine (eq_any G _ _ _ _ _ HN.out (own_ints K19.out) (own_ints W19.out)).mono ?_
    rintro e w20 ⟨rfl, b⟩
    have W20 : Hid _ := World.ownsRow.keepB W19.out b
    have G20 : Hid _ := World.ownsRow.keepB G19.out b
    have K20 : Hid _ := World.ownsRow.keepB K19.out b
    have SZ19 : Hid (w19.heap.size ≤ w20.heap.size) := b.size
    have B20 : Hid (Below w.heap.size w w20) := B19.out.trans (b.mono B19.out.size)
    clear b
    go_wp2_with fail
    refine (held_any G _ _ _ HN.out (own_ints2 G20.out)).mono ?_
    rintro e w21 ⟨rfl, b⟩
    have G21 : Hid _ := World.ownsRow.keepB G20.out b
    have SZ20 : Hid (w20.heap.size ≤ w21.heap.size) := b.size
    have B21 : Hid (Below w.heap.size w w21) := B20.out.trans (b.mono B20.out.size)
    clear b
    go_wp2
    go_ret
    exact ⟨rfl, B21.out⟩
set_option maxRecDepth 100000 in
set_option maxHeartbeats 1000000 in
theorem bigL (L M : List Int) (ao bo : Option Addr) (ca cb : Nat) (w : World) (hb : (1048576 : Int) < L.length) :
    Calls Try.prog 6 #[.slice ao L.length ca, .slice bo M.length cb] w fun e w' => e = .returned (.bool true) ∧ Below w.heap.size w w' := by
  go_enter Try.func6, Try.ntmps6
  go_wp2
  go_ret
  exact ⟨rfl, Below.refl _ _⟩
set_option maxRecDepth 100000 in
set_option maxHeartbeats 1000000 in
theorem bigM (L M : List Int) (ao bo : Option Addr) (ca cb : Nat) (w : World) (hl : ¬ (1048576 : Int) < L.length) (hb : (1048576 : Int) < M.length) :
    Calls Try.prog 6 #[.slice ao L.length ca, .slice bo M.length cb] w fun e w' => e = .returned (.bool true) ∧ Below w.heap.size w w' := by
  go_enter Try.func6, Try.ntmps6
  go_wp2
  go_ret
  exact ⟨rfl, Below.refl _ _⟩
theorem walk (L M : List Int) (ao bo : Option Addr) (ca cb : Nat) (w : World) (hA : IntsAt w ao L) (hB : IntsAt w bo M) :
    Calls Try.prog 6 #[.slice ao L.length ca, .slice bo M.length cb] w fun e w' => e = .returned (.bool true) ∧ Below w.heap.size w w' := by
  by_cases hS : (1048576 : Int) < L.length
  · exact bigL L M ao bo ca cb w hS
  by_cases hS2 : (1048576 : Int) < M.length
  · exact bigM L M ao bo ca cb w hS hS2
  have hl : L.length ≤ 1048576 := by omega
  have hm : M.length ≤ 1048576 := by omega
  exact core L M ao bo ca cb w hA hB hS hS2 (okP L M) (plA L M) (plA_len L M hl) (fun w ao ca bo cb hc iA iB => splacesOf_any L M ao bo ca cb w hl hm hc iA iB) (fun w ao ca bo cb hc iA iB => iplacesOf_any L M ao bo ca cb w hl hm iA iB)
set_option maxRecDepth 100000 in
theorem lifted (os : Os) (started : os.Started) (H : Type) (enc : TypeId × Value → H) :
    ReturnsInHanded {} Try.checked os 6 .any (Rows.fnExactPlacesOfSpec.pre6 enc Try.prog Try.f6 Rows.fnExactPlacesOfRow.domain false) (Rows.fnExactPlacesOfSpec.post enc Try.prog Try.f6 false true false false) := by
  refine returnsInHanded_of_change (C := Try.checked) own started (by kernel_rfl) Try.func6
    (ChangeSpec.witness6 (enc := enc) (C := Try.checked) false ⟨#[], #[.slice none 0 0, .slice none 0 0], []⟩ 8 (by kernel_rfl) (by kernel_rfl) (by kernel_rfl) (by kernel_rfl)) ?_
  intro W base args ds gs before hval0 hW hcnd _
  have hval : ∀ (j : Nat) t v, Try.f6.params[j]? = some t → args[j]? = some v → Value.okWide Try.prog W .any base t v := hval0
  have hW' := hW
  obtain ⟨p, q, hA0, hV, rfl, hfz, hnd⟩ := hW
  have hA : DataW.TrodAll enc Try.prog W 0 (fun _ => true) true Try.f6.params.toList args.toList ds p := hA0
  rw [Try.params6] at hA hval
  obtain ⟨v0, vs0, d0, ds0, p0, q0, hargs, rfl, rfl, h0, r0⟩ := trodAll_cons hA
  obtain ⟨v1, vs1, d1, ds1, p1, q1, hargs1, rfl, rfl, h1, r1⟩ := trodAll_cons r0
  obtain ⟨rfl, rfl, rfl⟩ := trodAll_nil r1
  obtain rfl : args = #[v0, v1] := by cases args; simp_all
  obtain ⟨rfl, rfl⟩ := trodVars_none hV
  obtain ⟨a0, len0, cap0, rfl⟩ := okWide_slice Try.underlying24 (hval 0 24 v0 rfl rfl)
  obtain ⟨a1, len1, cap1, rfl⟩ := okWide_slice Try.underlying24 (hval 1 24 v1 rfl rfl)
  have k0 := h0
  have k1 := h1
  have lt0 : ∀ x ∈ p0, x.block < W.heap.size := by obtain ⟨m, hm⟩ := k0; exact DataW.trod_lt m _ _ _ hm
  have lt1 : ∀ x ∈ p1, x.block < W.heap.size := by obtain ⟨m, hm⟩ := k1; exact DataW.trod_lt m _ _ _ hm
  obtain ⟨L, hL, i0⟩ : ∃ L : List Int, L.length = len0 ∧ IntsAt W a0 L := by obtain ⟨fuel, hf⟩ := h0; exact argI_of hf
  obtain ⟨M, hM, i1⟩ : ∃ L : List Int, L.length = len1 ∧ IntsAt W a1 L := by obtain ⟨fuel, hf⟩ := h1; exact argI_of hf
  clear hA0 hval0
  subst hL hM
  refine (walk L M a0 a1 cap0 cap1 W i0 i1).mono fun e W' ⟨he, bel⟩ => ?_
  subst he
  exact ⟨_, rfl, _, _, _, [], _, [], hW', trodAll_mk1 (shut_bool Try.underlying4 _), trodAll_cons_mk (Below.trod laidOut (by kernel_rfl) (of_decide_eq_true (by kernel_rfl)) k0 bel lt0) (trodAll_cons_mk (Below.trod laidOut (by kernel_rfl) (of_decide_eq_true (by kernel_rfl)) k1 bel lt1) trodAll_mk0), rfl, bel.frame _, fun h => by cases h⟩
theorem row : Rows.FnExactPlacesOfSaid :=
  OpenClaim.holds_of_wide 6 Try.f6 rfl rfl rfl rfl rfl rfl rfl ⟨rfl, rfl, rfl, rfl, rfl⟩ rfl rfl rfl rfl rfl (by kernel_rfl) Try.func6 (by kernel_rfl)
    (of_decide_eq_true (by kernel_rfl)) (by unfold Func.isWrapper; first | (rw [if_pos (by decide +kernel)]; kernel_rfl) | (rw [if_neg (by decide +kernel)]; exact ⟨rfl, rfl⟩))
    (fun os started H enc _ => lifted os started H enc)
end LawPlacesOf
theorem placesOf_holds : Rows.FnExactPlacesOfSaid := LawPlacesOf.row
#print axioms placesOf_holds
end Go.Proofs.Ytabjjlcjephhkaa
