/-
  For every list of ints, laws.FnExactBordersOf returns true: impl.BordersOf answers as the specification's BordersOf, list and flag, in memory of its own that a second call leaves alone and that is no part of the list, which stays as it was. No conditions.
-/
import Derived.Test.YtabjjlcjephhkaaW8L
namespace Go.Proofs.Ytabjjlcjephhkaa
open Go.ChangeShapes Go.WideShapes Go.ChangeAt Go.WideMaps Go.WideElems Go.RowKit
namespace LawBordersOf
theorem own : ownKnob Try.prog.godebug = none := by kernel_rfl
theorem laidOut : laidOutB Try.prog = true := by kernel_rfl
set_option maxRecDepth 100000 in
set_option maxHeartbeats 4000000 in
theorem core (L : List Int) (ao : Option Addr) (cap : Nat) (w : World) (hA : IntsAt w ao L) (hl : ¬ (1048576 : Int) < L.length) (ok : Bool) (G : List Int) (hn : G.length ≤ 1048576)
    (SP : ∀ w ao cap, L.length ≤ cap → IntsAt w ao L → Calls Try.prog 15 #[.slice ao L.length cap] w fun e w' => ∃ v, e = .returned (.tuple #[v, .bool ok]) ∧ w'.ownsRow w.heap.size 3 1 v G.length (ints G) ∧ Below w.heap.size w w')
    (IM : ∀ w ao cap, L.length ≤ cap → IntsAt w ao L → Calls Try.prog 14 #[.slice ao L.length cap] w fun e w' => ∃ v, e = .returned (.tuple #[v, .bool ok]) ∧ w'.ownsRow w.heap.size 3 1 v G.length (ints G) ∧ Below w.heap.size w w') :
    Calls Try.prog 5 #[.slice ao L.length cap] w fun e w' => e = .returned (.bool true) ∧ Below w.heap.size w w' := by
  have HSP : Hid _ := SP
  have HIM : Hid _ := IM
  have HN : Hid _ := hn
  have HL : Hid (L.length ≤ 1048576) := by show L.length ≤ 1048576; omega
  have HA : Hid (IntsAt w ao L) := hA
  have hq : ¬ (1 + (G.length : Int)) < 0 := by omega
  have hq2 : ¬ (1 + (L.length : Int)) < 0 := by omega
  have B0 : Hid (Below w.heap.size w w) := Below.refl _ _
  clear SP IM hn hA
  go_enter Try.func5, Try.ntmps5
  go_wp2_with fail
  refine (toI_any L _ _ _ HL.out (IntsAt.keepB HA.out B0.out)).mono ?_
  rintro e w1 ⟨vP, rfl, ox, b⟩
  have P1 : Hid (w1.ownsRow w.heap.size 3 1 vP L.length (ints L)) := ox
  have P0 : Hid (w1.ownsRow w.heap.size 3 1 vP L.length (ints L)) := ox
  have B1 : Hid (Below w.heap.size w w1) := B0.out.trans (b.mono B0.out.size)
  obtain ⟨_, aP, cP, rfl, _⟩ := ints_of_own ox
  clear ox b
  go_wp2_with fail
  refine (HSP.out _ _ _ (own_cap8 P1.out) (own_ints P1.out)).mono ?_
  rintro e w2 ⟨vW, rfl, ox, b⟩
  have P2 : Hid _ := World.ownsRow.keepB P1.out b
  have W2 : Hid (w2.ownsRow w1.heap.size 3 1 vW G.length (ints G)) := ox
  have W0 : Hid (w2.ownsRow w1.heap.size 3 1 vW G.length (ints G)) := ox
  have B2 : Hid (Below w.heap.size w w2) := B1.out.trans (b.mono B1.out.size)
  obtain ⟨_, aW, cW, rfl, _⟩ := ints_of_own ox
  clear ox b
  go_wp2_with fail
  refine (toI_any L _ _ _ HL.out (IntsAt.keepB HA.out B2.out)).mono ?_
  rintro e w3 ⟨vX, rfl, ox, b⟩
  have b23 : Hid (w2.heap.size ≤ w3.heap.size) := b.size
  have W3 : Hid _ := World.ownsRow.keepB W2.out b
  have X3 : Hid (w3.ownsRow w2.heap.size 3 1 vX L.length (ints L)) := ox
  have X0 : Hid (w3.ownsRow w2.heap.size 3 1 vX L.length (ints L)) := ox
  have B3 : Hid (Below w.heap.size w w3) := B2.out.trans (b.mono B2.out.size)
  obtain ⟨_, aX, cX, rfl, _⟩ := ints_of_own ox
  clear ox b
  go_wp2_with fail
  refine (HIM.out _ _ _ (own_cap8 X3.out) (own_ints X3.out)).mono ?_
  rintro e w4 ⟨vG, rfl, ox, b⟩
  have W4 : Hid _ := World.ownsRow.keepB W3.out b
  have X4 : Hid _ := World.ownsRow.keepB X3.out b
  have G4 : Hid (w4.ownsRow w3.heap.size 3 1 vG G.length (ints G)) := ox
  have SZ : Hid (w2.heap.size ≤ w3.heap.size) := b23.out
  have G0 : Hid (w4.ownsRow w3.heap.size 3 1 vG G.length (ints G)) := ox
  have B4 : Hid (Below w.heap.size w w4) := B3.out.trans (b.mono B3.out.size)
  obtain ⟨_, aG, cG, rfl, _⟩ := ints_of_own ox
  clear ox b
  go_wp2_with fail
  refine (eq_any G _ _ _ _ _ HN.out (own_ints G4.out) (own_ints W4.out)).mono ?_
  rintro e w5 ⟨rfl, b⟩
  have W5 : Hid _ := World.ownsRow.keepB W4.out b
  have X5 : Hid _ := World.ownsRow.keepB X4.out b
  have G5 : Hid _ := World.ownsRow.keepB G4.out b
  have B5 : Hid (Below w.heap.size w w5) := B4.out.trans (b.mono B4.out.size)
  clear b
  go_wp2_with fail
  refine (toI_any L _ _ _ HL.out (IntsAt.keepB HA.out B5.out)).mono ?_
  rintro e w6 ⟨vY, rfl, ox, b⟩
  have W6 : Hid _ := World.ownsRow.keepB W5.out b
  have X6 : Hid _ := World.ownsRow.keepB X5.out b
  have G6 : Hid _ := World.ownsRow.keepB G5.out b
  have Y6 : Hid (w6.ownsRow w5.heap.size 3 1 vY L.length (ints L)) := ox
  have Y0 : Hid (w6.ownsRow w5.heap.size 3 1 vY L.length (ints L)) := ox
  have B6 : Hid (Below w.heap.size w w6) := B5.out.trans (b.mono B5.out.size)
  obtain ⟨_, aY, cY, rfl, _⟩ := ints_of_own ox
  clear ox b
  go_wp2_with fail
  refine (eq_any L _ _ _ _ _ HL.out (own_ints X6.out) (own_ints Y6.out)).mono ?_
  rintro e w7 ⟨rfl, b⟩
  have W7 : Hid _ := World.ownsRow.keepB W6.out b
  have X7 : Hid _ := World.ownsRow.keepB X6.out b
  have G7 : Hid _ := World.ownsRow.keepB G6.out b
  have Y7 : Hid _ := World.ownsRow.keepB Y6.out b
  have B7 : Hid (Below w.heap.size w w7) := B6.out.trans (b.mono B6.out.size)
  clear b
  go_wp2_with fail
  refine (mark_any L _ _ _ _ HL.out X7.out).mono ?_
  rintro e w8 ⟨rfl, og, gr⟩
  have W8 : Hid _ := World.ownsRow.kept W7.out gr (own_apart W0.out X7.out (by exact Nat.le_refl _))
  have G8 : Hid _ := World.ownsRow.kept G7.out gr (own_apart' X0.out G7.out (by exact Nat.le_refl _))
  have X8 : Hid _ := og
  have B8 : Hid (Below w.heap.size w w8) := Below.grown B7.out gr B7.out.size (fun g hg => by have h1 := (World.ownsRow.lt X7.out g hg).1; have h2 := B2.out.size; omega)
  clear og gr
  go_wp2_with fail
  refine (eq_any G _ _ _ _ _ HN.out (own_ints G8.out) (own_ints W8.out)).mono ?_
  rintro e w9 ⟨rfl, b⟩
  have W9 : Hid _ := World.ownsRow.keepB W8.out b
  have G9 : Hid _ := World.ownsRow.keepB G8.out b
  have B9 : Hid (Below w.heap.size w w9) := B8.out.trans (b.mono B8.out.size)
  clear b
  go_wp2_with fail
  refine (mark_any G _ _ _ _ HN.out G9.out).mono ?_
  rintro e w10 ⟨rfl, og, gr⟩
  have W10 : Hid _ := World.ownsRow.kept W9.out gr (own_apart W0.out G9.out (by exact SZ.out))
  have G10 : Hid _ := og
  have B10 : Hid (Below w.heap.size w w10) := Below.grown B9.out gr B9.out.size (fun g hg => by have h1 := (World.ownsRow.lt G9.out g hg).1; have h2 := B3.out.size; omega)
  clear og gr
  go_wp2_with fail
  refine (held_any G _ _ _ HN.out (own_ints2 G10.out)).mono ?_
  rintro e w11 ⟨rfl, b⟩
  have W11 : Hid _ := World.ownsRow.keepB W10.out b
  have G11 : Hid _ := World.ownsRow.keepB G10.out b
  have B11 : Hid (Below w.heap.size w w11) := B10.out.trans (b.mono B10.out.size)
  clear b
  go_wp2_with fail
  refine (toI_any L _ _ _ HL.out (IntsAt.keepB HA.out B11.out)).mono ?_
  rintro e w12 ⟨vZ, rfl, ox, b⟩
  have W12 : Hid _ := World.ownsRow.keepB W11.out b
  have G12 : Hid _ := World.ownsRow.keepB G11.out b
  have Z12 : Hid (w12.ownsRow w11.heap.size 3 1 vZ L.length (ints L)) := ox
  have Z0 : Hid (w12.ownsRow w11.heap.size 3 1 vZ L.length (ints L)) := ox
  have B12 : Hid (Below w.heap.size w w12) := B11.out.trans (b.mono B11.out.size)
  obtain ⟨_, aZ, cZ, rfl, _⟩ := ints_of_own ox
  clear ox b
  go_wp2_with fail
  refine (HIM.out _ _ _ (own_cap8 Z12.out) (own_ints Z12.out)).mono ?_
  rintro e w13 ⟨vK, rfl, ox, b⟩
  have W13 : Hid _ := World.ownsRow.keepB W12.out b
  have G13 : Hid _ := World.ownsRow.keepB G12.out b
  have Z13 : Hid _ := World.ownsRow.keepB Z12.out b
  have K13 : Hid (w13.ownsRow w12.heap.size 3 1 vK G.length (ints G)) := ox
  have K0 : Hid (w13.ownsRow w12.heap.size 3 1 vK G.length (ints G)) := ox
  have B13 : Hid (Below w.heap.size w w13) := B12.out.trans (b.mono B12.out.size)
  obtain ⟨_, aK, cK, rfl, _⟩ := ints_of_own ox
  clear ox b
  go_wp2_with fail
  refine (eq_any G _ _ _ _ _ HN.out (own_ints K13.out) (own_ints W13.out)).mono ?_
  rintro e w14 ⟨rfl, b⟩
  have W14 : Hid _ := World.ownsRow.keepB W13.out b
  have G14 : Hid _ := World.ownsRow.keepB G13.out b
  have K14 : Hid _ := World.ownsRow.keepB K13.out b
  have B14 : Hid (Below w.heap.size w w14) := B13.out.trans (b.mono B13.out.size)
  clear b
  go_wp2_with fail
  refine (held_any G _ _ _ HN.out (own_ints2 G14.out)).mono ?_
  rintro e w15 ⟨rfl, b⟩
  have G15 : Hid _ := World.ownsRow.keepB G14.out b
  have B15 : Hid (Below w.heap.size w w15) := B14.out.trans (b.mono B14.out.size)
  clear b
  go_wp2
  go_ret
  exact ⟨rfl, B15.out⟩
set_option maxRecDepth 100000 in
set_option maxHeartbeats 1000000 in
theorem bigS (L : List Int) (ao : Option Addr) (cap : Nat) (w : World) (hb : (1048576 : Int) < L.length) :
    Calls Try.prog 5 #[.slice ao L.length cap] w fun e w' => e = .returned (.bool true) ∧ Below w.heap.size w w' := by
  go_enter Try.func5, Try.ntmps5
  go_wp2
  go_ret
  exact ⟨rfl, Below.refl _ _⟩
theorem walk (L : List Int) (ao : Option Addr) (cap : Nat) (w : World) (hA : IntsAt w ao L) :
    Calls Try.prog 5 #[.slice ao L.length cap] w fun e w' => e = .returned (.bool true) ∧ Below w.heap.size w w' := by
  by_cases hS : (1048576 : Int) < L.length
  · exact bigS L ao cap w hS
  · have hl : L.length ≤ 1048576 := by omega
    exact core L ao cap w hA hS (okL L) (bordA L) (bordA_len L hl) (fun w ao cap hc hA => sbordersOf_any L ao cap w hl hc hA) (fun w ao cap hc hA => ibordersOf_any L ao cap w hl hc hA)
set_option maxRecDepth 100000 in
theorem lifted (os : Os) (started : os.Started) (H : Type) (enc : TypeId × Value → H) :
    ReturnsInHanded {} Try.checked os 5 .any (Rows.fnExactBordersOfSpec.pre6 enc Try.prog Try.f5 Rows.fnExactBordersOfRow.domain false) (Rows.fnExactBordersOfSpec.post enc Try.prog Try.f5 false true false false) := by
  refine returnsInHanded_of_change (C := Try.checked) own started (by kernel_rfl) Try.func5
    (ChangeSpec.witness6 (enc := enc) (C := Try.checked) false ⟨#[], #[.slice none 0 0], []⟩ 8 (by kernel_rfl) (by kernel_rfl) (by kernel_rfl) (by kernel_rfl)) ?_
  intro W base args ds gs before hval0 hW hcnd _
  have hval : ∀ (j : Nat) t v, Try.f5.params[j]? = some t → args[j]? = some v → Value.okWide Try.prog W .any base t v := hval0
  have hW' := hW
  obtain ⟨p, q, hA0, hV, rfl, hfz, hnd⟩ := hW
  have hA : DataW.TrodAll enc Try.prog W 0 (fun _ => true) true Try.f5.params.toList args.toList ds p := hA0
  rw [Try.params5] at hA hval
  obtain ⟨v0, d0, rfl, rfl, h0⟩ := trodAll_one hA
  obtain ⟨rfl, rfl⟩ := trodVars_none hV
  obtain ⟨a0, len0, cap0, rfl⟩ := okWide_slice Try.underlying24 (hval 0 24 v0 rfl rfl)
  have k0 := h0
  have lt0 : ∀ x ∈ p, x.block < W.heap.size := by obtain ⟨m, hm⟩ := k0; exact DataW.trod_lt m _ _ _ hm
  obtain ⟨L, hL, i0⟩ : ∃ L : List Int, L.length = len0 ∧ IntsAt W a0 L := by obtain ⟨fuel, hf⟩ := h0; exact argI_of hf
  clear hA0 hval0
  subst hL
  refine (walk L a0 cap0 W i0).mono fun e W' ⟨he, bel⟩ => ?_
  subst he
  exact ⟨_, rfl, _, _, _, [], _, [], hW', trodAll_mk1 (shut_bool Try.underlying4 _), trodAll_mk1 (Below.trod laidOut (by kernel_rfl) (of_decide_eq_true (by kernel_rfl)) k0 bel lt0), rfl, bel.frame _, fun h => by cases h⟩
theorem row : Rows.FnExactBordersOfSaid :=
  OpenClaim.holds_of_wide 5 Try.f5 rfl rfl rfl rfl rfl rfl rfl ⟨rfl, rfl, rfl, rfl, rfl⟩ rfl rfl rfl rfl rfl (by kernel_rfl) Try.func5 (by kernel_rfl)
    (of_decide_eq_true (by kernel_rfl)) (by unfold Func.isWrapper; first | (rw [if_pos (by decide +kernel)]; kernel_rfl) | (rw [if_neg (by decide +kernel)]; exact ⟨rfl, rfl⟩))
    (fun os started H enc _ => lifted os started H enc)
end LawBordersOf
theorem bordersOf_holds : Rows.FnExactBordersOfSaid := LawBordersOf.row
#print axioms bordersOf_holds
end Go.Proofs.Ytabjjlcjephhkaa
