/-
  For every machine of places, laws.FnExactGoodNfa returns true: impl.GoodNfa answers as the specification's GoodNfa, and leaves the machine as it was. No conditions.
-/
import Derived.Test.YthhmijobfbjkiaaN6B
import Derived.Lib.SmallJoins
import Derived.Deep.RegionHeld
namespace Go.Proofs.Ythhmijobfbjkiaa
open Go.ChangeShapes Go.WideShapes Go.ChangeAt Go.WideMaps Go.WideElems Go.RowKit
namespace LawGoodNfa
theorem own : ownKnob Try.prog.godebug = none := by kernel_rfl
theorem laidOut : laidOutB Try.prog = true := by kernel_rfl
set_option maxRecDepth 100000 in
set_option maxHeartbeats 4000000 in
theorem walk (E : Bool) (S G : Rw) (F L : List Int) (s a b g : Option Addr) (cs ca cb cg : Nat) (w : World) (iS : RowsAt w s S) (iF : IntsAt w a F) (iL : IntsAt w b L) (iG : RowsAt w g G) (h1S : S.length ≤ maxLen) (hxS : ∀ y ∈ S, y.length ≤ maxLen) (hF : F.length ≤ maxLen) (hL : L.length ≤ maxLen) (h1G : G.length ≤ maxLen) (hxG : ∀ y ∈ G, y.length ≤ maxLen) :
    Calls Try.prog 4 #[nfaV E s a b g S.length F.length L.length G.length cs ca cb cg] w fun r w' => r = .returned (.bool true) ∧ Below w.heap.size w w' := by
  have HS : Hid _ := iS
  have HF : Hid _ := iF
  have HL : Hid _ := iL
  have HG : Hid _ := iG
  have A1 : ∀ o, Below w.heap.size w (w.alloc o) := fun o => (Below.refl _ _).alloc (Nat.le_refl _) o
  have HSZ : Hid _ := fun o => szNfa_any E S G F L s a b g cs ca cb cg (w.alloc o) h1S hxS hF hL h1G hxG (RowsAt.keepB iS (A1 o)) (RowsAt.keepB iG (A1 o))
  clear iS iF iL iG h1S hxS hF hL h1G hxG
  unfold nfaV
  go_enter Try.func4, Try.ntmps4
  go_wp2_with fail
  refine Calls.mono (HSZ.out _) ?_
  rintro r w1 ⟨hs, b1⟩
  have hbl1 : w1.heap[w.heap.size]? = some (.cells #[.bool E, .slice s S.length cs, .slice a F.length ca, .slice b L.length cb, .slice g G.length cg] 35) := (b1.block w.heap.size (by simp)).trans (heap_last2 _ _ _ rfl)
  have hs1 : w.heap.size < w1.heap.size := Nat.lt_of_lt_of_le (by simp) b1.size
  have B1 : Hid (Below w.heap.size w w1) := (A1 _).trans (b1.mono (by simp))
  clear b1
  rcases hs with ⟨hs, rfl⟩ | ⟨hs, rfl⟩
  · have HSz : Hid (szN S F L G ≤ 1048576) := hs
    have hz : ¬ (1048576 : Int) - (szN S F L G : Int) < 0 := by omega
    clear hs
    generalize szN S F L G = z at hz
    have g10 : w1.cell? ⟨w.heap.size, 0, none⟩ = some (.bool E) := cell_of hbl1 0
    have g11 : w1.cell? ⟨w.heap.size, 1, none⟩ = some (.slice s S.length cs) := cell_of hbl1 1
    have g12 : w1.cell? ⟨w.heap.size, 2, none⟩ = some (.slice a F.length ca) := cell_of hbl1 2
    have g13 : w1.cell? ⟨w.heap.size, 3, none⟩ = some (.slice b L.length cb) := cell_of hbl1 3
    have g14 : w1.cell? ⟨w.heap.size, 4, none⟩ = some (.slice g G.length cg) := cell_of hbl1 4
    go_wp2_with fail
    refine (toNfa_any E S G F L s a b g cs ca cb cg _ HSz.out (RowsAt.keepB HS.out B1.out) (IntsAt.keepB HF.out B1.out) (IntsAt.keepB HL.out B1.out) (RowsAt.keepB HG.out B1.out)).mono ?_
    rintro r w2 ⟨x02, x12, x22, x32, y02, y12, y22, y32, rfl, IS2, IF2, IL2, IG2, b2⟩
    have JS2 : Hid _ := IS2
    have JF2 : Hid _ := IF2
    have JL2 : Hid _ := IL2
    have JG2 : Hid _ := IG2
    have hbl2 := (b2.block w.heap.size hs1).trans hbl1
    have hs2 : w.heap.size < w2.heap.size := Nat.lt_of_lt_of_le hs1 b2.size
    have B2 : Hid (Below w.heap.size w w2) := B1.out.trans (b2.mono B1.out.size)
    clear b2 IS2 IF2 IL2 IG2 g10 g11 g12 g13 g14 hbl1 B1
    go_wp2_with fail
    refine (sgoodN_any E S G F L _ _ _ _ _ _ _ _ _ HSz.out JS2.out JF2.out JL2.out JG2.out).mono ?_
    rintro r w3 ⟨rfl, b3⟩
    have hbl3 := (b3.block w.heap.size hs2).trans hbl2
    have hs3 : w.heap.size < w3.heap.size := Nat.lt_of_lt_of_le hs2 b3.size
    have B3 : Hid (Below w.heap.size w w3) := B2.out.trans (b3.mono B2.out.size)
    have g30 : w3.cell? ⟨w.heap.size, 0, none⟩ = some (.bool E) := cell_of hbl3 0
    have g31 : w3.cell? ⟨w.heap.size, 1, none⟩ = some (.slice s S.length cs) := cell_of hbl3 1
    have g32 : w3.cell? ⟨w.heap.size, 2, none⟩ = some (.slice a F.length ca) := cell_of hbl3 2
    have g33 : w3.cell? ⟨w.heap.size, 3, none⟩ = some (.slice b L.length cb) := cell_of hbl3 3
    have g34 : w3.cell? ⟨w.heap.size, 4, none⟩ = some (.slice g G.length cg) := cell_of hbl3 4
    clear b3 hbl2 JS2 JF2 JL2 JG2 B2
    go_wp2_with fail
    refine (toNfa_any E S G F L s a b g cs ca cb cg _ HSz.out (RowsAt.keepB HS.out B3.out) (IntsAt.keepB HF.out B3.out) (IntsAt.keepB HL.out B3.out) (RowsAt.keepB HG.out B3.out)).mono ?_
    rintro r w4 ⟨x04, x14, x24, x34, y04, y14, y24, y34, rfl, IS4, IF4, IL4, IG4, b4⟩
    have hbl4 := (b4.block w.heap.size hs3).trans hbl3
    have hs4 : w.heap.size < w4.heap.size := Nat.lt_of_lt_of_le hs3 b4.size
    have B4 : Hid (Below w.heap.size w w4) := B3.out.trans (b4.mono B3.out.size)
    have A4 : ∀ o, Below w4.heap.size w4 (w4.alloc o) := fun o => (Below.refl _ _).alloc (Nat.le_refl _) o
    have JS4 : Hid (∀ o, RowsAt (w4.alloc o) x04 S) := fun o => RowsAt.keepB IS4 (A4 o)
    have JF4 : Hid (∀ o, IntsAt (w4.alloc o) x14 F) := fun o => IntsAt.keepB IF4 (A4 o)
    have JL4 : Hid (∀ o, IntsAt (w4.alloc o) x24 L) := fun o => IntsAt.keepB IL4 (A4 o)
    have JG4 : Hid (∀ o, RowsAt (w4.alloc o) x34 G) := fun o => RowsAt.keepB IG4 (A4 o)
    clear b4 IS4 IF4 IL4 IG4 g30 g31 g32 g33 g34 hbl3 B3
    go_wp2_with fail
    refine (igoodN_any E S G F L _ _ _ _ _ _ _ _ _ HSz.out (JS4.out _) (JF4.out _) (JL4.out _) (JG4.out _)).mono ?_
    rintro r w5 ⟨rfl, b5⟩
    have hbl5 := (b5.block w.heap.size (by simp; omega)).trans ((A4 _).block w.heap.size hs4 |>.trans hbl4)
    have hbx5 : w5.heap[w4.heap.size]? = some (.cells #[.bool E, .slice x04 S.length y04, .slice x14 F.length y14, .slice x24 L.length y24, .slice x34 G.length y34] 38) := (b5.block w4.heap.size (by simp)).trans (heap_last2 _ _ _ rfl)
    have hs5 : w4.heap.size < w5.heap.size := Nat.lt_of_lt_of_le (by simp) b5.size
    have JS5 : Hid _ := RowsAt.keepB (JS4.out _) b5
    have JF5 : Hid _ := IntsAt.keepB (JF4.out _) b5
    have JL5 : Hid _ := IntsAt.keepB (JL4.out _) b5
    have JG5 : Hid _ := RowsAt.keepB (JG4.out _) b5
    have B5 : Hid (Below w.heap.size w w5) := (B4.out.trans ((A4 _).mono B4.out.size)).trans (b5.mono (Nat.le_trans B4.out.size (by simp)))
    clear b5 JS4 JF4 JL4 JG4 A4 B4 hbl4
    have bb0 : (goodN S G F L == goodN S G F L) = true := by simp
    generalize goodN S G F L = f0 at *
    have sD : (w5.drew.cell? ⟨w.heap.size, 0, none⟩ = some (.bool E) ∧ w5.drew.cell? ⟨w.heap.size, 1, none⟩ = some (.slice s S.length cs) ∧ w5.drew.cell? ⟨w.heap.size, 2, none⟩ = some (.slice a F.length ca) ∧ w5.drew.cell? ⟨w.heap.size, 3, none⟩ = some (.slice b L.length cb) ∧ w5.drew.cell? ⟨w.heap.size, 4, none⟩ = some (.slice g G.length cg) ∧ w5.drew.cell? ⟨w4.heap.size, 0, none⟩ = some (.bool E) ∧ w5.drew.cell? ⟨w4.heap.size, 1, none⟩ = some (.slice x04 S.length y04) ∧ w5.drew.cell? ⟨w4.heap.size, 2, none⟩ = some (.slice x14 F.length y14) ∧ w5.drew.cell? ⟨w4.heap.size, 3, none⟩ = some (.slice x24 L.length y24) ∧ w5.drew.cell? ⟨w4.heap.size, 4, none⟩ = some (.slice x34 G.length y34)) := ⟨cell_of hbl5 0, cell_of hbl5 1, cell_of hbl5 2, cell_of hbl5 3, cell_of hbl5 4, cell_of hbx5 0, cell_of hbx5 1, cell_of hbx5 2, cell_of hbx5 3, cell_of hbx5 4⟩
    have DR5 : Hid (Below w5.heap.size w5 w5.drew) := (Below.refl _ _).drew
    have B5d : Hid (Below w.heap.size w w5.drew) := B5.out.drew
    have HBL5 : Hid _ := hbl5
    have HBX5 : Hid _ := hbx5
    clear hbl5 hbx5
    go_wp2
    go_region_held (fun w' => (w'.cell? ⟨w.heap.size, 0, none⟩ = some (.bool E) ∧ w'.cell? ⟨w.heap.size, 1, none⟩ = some (.slice s S.length cs) ∧ w'.cell? ⟨w.heap.size, 2, none⟩ = some (.slice a F.length ca) ∧ w'.cell? ⟨w.heap.size, 3, none⟩ = some (.slice b L.length cb) ∧ w'.cell? ⟨w.heap.size, 4, none⟩ = some (.slice g G.length cg) ∧ w'.cell? ⟨w4.heap.size, 0, none⟩ = some (.bool E) ∧ w'.cell? ⟨w4.heap.size, 1, none⟩ = some (.slice x04 S.length y04) ∧ w'.cell? ⟨w4.heap.size, 2, none⟩ = some (.slice x14 F.length y14) ∧ w'.cell? ⟨w4.heap.size, 3, none⟩ = some (.slice x24 L.length y24) ∧ w'.cell? ⟨w4.heap.size, 4, none⟩ = some (.slice x34 G.length y34))) (first | assumption) (first
      | (go_at_call 16; refine (toNfa_any E S G F L s a b g cs ca cb cg _ HSz.out (RowsAt.keepB HS.out B5d.out) (IntsAt.keepB HF.out B5d.out) (IntsAt.keepB HL.out B5d.out) (RowsAt.keepB HG.out B5d.out)).mono ?_
         rintro r w6 ⟨x06, x16, x26, x36, y06, y16, y26, y36, rfl, IS6, IF6, IL6, IG6, b6⟩
         have s6 : (w6.cell? ⟨w.heap.size, 0, none⟩ = some (.bool E) ∧ w6.cell? ⟨w.heap.size, 1, none⟩ = some (.slice s S.length cs) ∧ w6.cell? ⟨w.heap.size, 2, none⟩ = some (.slice a F.length ca) ∧ w6.cell? ⟨w.heap.size, 3, none⟩ = some (.slice b L.length cb) ∧ w6.cell? ⟨w.heap.size, 4, none⟩ = some (.slice g G.length cg) ∧ w6.cell? ⟨w4.heap.size, 0, none⟩ = some (.bool E) ∧ w6.cell? ⟨w4.heap.size, 1, none⟩ = some (.slice x04 S.length y04) ∧ w6.cell? ⟨w4.heap.size, 2, none⟩ = some (.slice x14 F.length y14) ∧ w6.cell? ⟨w4.heap.size, 3, none⟩ = some (.slice x24 L.length y24) ∧ w6.cell? ⟨w4.heap.size, 4, none⟩ = some (.slice x34 G.length y34)) := ⟨cell_of ((b6.block w.heap.size (by show w.heap.size < w5.heap.size; omega)).trans HBL5.out) 0, cell_of ((b6.block w.heap.size (by show w.heap.size < w5.heap.size; omega)).trans HBL5.out) 1, cell_of ((b6.block w.heap.size (by show w.heap.size < w5.heap.size; omega)).trans HBL5.out) 2, cell_of ((b6.block w.heap.size (by show w.heap.size < w5.heap.size; omega)).trans HBL5.out) 3, cell_of ((b6.block w.heap.size (by show w.heap.size < w5.heap.size; omega)).trans HBL5.out) 4, cell_of ((b6.block w4.heap.size hs5).trans HBX5.out) 0, cell_of ((b6.block w4.heap.size hs5).trans HBX5.out) 1, cell_of ((b6.block w4.heap.size hs5).trans HBX5.out) 2, cell_of ((b6.block w4.heap.size hs5).trans HBX5.out) 3, cell_of ((b6.block w4.heap.size hs5).trans HBX5.out) 4⟩
         have JS6 : Hid _ := IS6
         have JF6 : Hid _ := IF6
         have JL6 : Hid _ := IL6
         have JG6 : Hid _ := IG6
         have KS6 : Hid _ := RowsAt.keepB (RowsAt.keepB JS5.out DR5.out) b6
         have KF6 : Hid _ := IntsAt.keepB (IntsAt.keepB JF5.out DR5.out) b6
         have KL6 : Hid _ := IntsAt.keepB (IntsAt.keepB JL5.out DR5.out) b6
         have KG6 : Hid _ := RowsAt.keepB (RowsAt.keepB JG5.out DR5.out) b6
         have B6 : Hid (Below w.heap.size w w6) := B5d.out.trans (b6.mono B5d.out.size)
         clear b6 IS6 IF6 IL6 IG6)
      | (go_at_call 18; refine (eqNfa_any E S G F L _ _ _ _ _ _ _ _ _ _ _ _ _ _ _ _ _ HSz.out KS6.out KF6.out KL6.out KG6.out JS6.out JF6.out JL6.out JG6.out).mono ?_
         rintro r w7 ⟨rfl, b7⟩
         have s7 : (w7.cell? ⟨w.heap.size, 0, none⟩ = some (.bool E) ∧ w7.cell? ⟨w.heap.size, 1, none⟩ = some (.slice s S.length cs) ∧ w7.cell? ⟨w.heap.size, 2, none⟩ = some (.slice a F.length ca) ∧ w7.cell? ⟨w.heap.size, 3, none⟩ = some (.slice b L.length cb) ∧ w7.cell? ⟨w.heap.size, 4, none⟩ = some (.slice g G.length cg) ∧ w7.cell? ⟨w4.heap.size, 0, none⟩ = some (.bool E) ∧ w7.cell? ⟨w4.heap.size, 1, none⟩ = some (.slice x04 S.length y04) ∧ w7.cell? ⟨w4.heap.size, 2, none⟩ = some (.slice x14 F.length y14) ∧ w7.cell? ⟨w4.heap.size, 3, none⟩ = some (.slice x24 L.length y24) ∧ w7.cell? ⟨w4.heap.size, 4, none⟩ = some (.slice x34 G.length y34)) := ⟨(b7.cell (p := ⟨w.heap.size, 0, none⟩) (World.block_lt_of_cell? _ _ s6.1)).trans s6.1, (b7.cell (p := ⟨w.heap.size, 1, none⟩) (World.block_lt_of_cell? _ _ s6.2.1)).trans s6.2.1, (b7.cell (p := ⟨w.heap.size, 2, none⟩) (World.block_lt_of_cell? _ _ s6.2.2.1)).trans s6.2.2.1, (b7.cell (p := ⟨w.heap.size, 3, none⟩) (World.block_lt_of_cell? _ _ s6.2.2.2.1)).trans s6.2.2.2.1, (b7.cell (p := ⟨w.heap.size, 4, none⟩) (World.block_lt_of_cell? _ _ s6.2.2.2.2.1)).trans s6.2.2.2.2.1, (b7.cell (p := ⟨w4.heap.size, 0, none⟩) (World.block_lt_of_cell? _ _ s6.2.2.2.2.2.1)).trans s6.2.2.2.2.2.1, (b7.cell (p := ⟨w4.heap.size, 1, none⟩) (World.block_lt_of_cell? _ _ s6.2.2.2.2.2.2.1)).trans s6.2.2.2.2.2.2.1, (b7.cell (p := ⟨w4.heap.size, 2, none⟩) (World.block_lt_of_cell? _ _ s6.2.2.2.2.2.2.2.1)).trans s6.2.2.2.2.2.2.2.1, (b7.cell (p := ⟨w4.heap.size, 3, none⟩) (World.block_lt_of_cell? _ _ s6.2.2.2.2.2.2.2.2.1)).trans s6.2.2.2.2.2.2.2.2.1, (b7.cell (p := ⟨w4.heap.size, 4, none⟩) (World.block_lt_of_cell? _ _ s6.2.2.2.2.2.2.2.2.2)).trans s6.2.2.2.2.2.2.2.2.2⟩
         have B7 : Hid (Below w.heap.size w w7) := B6.out.trans (b7.mono B6.out.size)
         clear b7))
    all_goals
      go_wp2
      go_ret
      exact ⟨rfl, B7.out⟩
  · go_wp2
    go_ret
    exact ⟨rfl, B1.out⟩
set_option maxRecDepth 100000 in
theorem lifted (os : Os) (started : os.Started) (H : Type) (enc : TypeId × Value → H) :
    ReturnsInHanded {} Try.checked os 4 .any (Rows.fnExactGoodNfaSpec.pre6 enc Try.prog Try.f4 Rows.fnExactGoodNfaRow.domain false) (Rows.fnExactGoodNfaSpec.post enc Try.prog Try.f4 false true false false) := by
  refine returnsInHanded_of_change (C := Try.checked) own started (by kernel_rfl) Try.func4
    (ChangeSpec.witness6 (enc := enc) (C := Try.checked) false ⟨#[], #[.agg #[.bool false, .slice none 0 0, .slice none 0 0, .slice none 0 0, .slice none 0 0]], []⟩ 8 (by kernel_rfl) (by kernel_rfl) (by kernel_rfl) (by kernel_rfl)) ?_
  intro W base args ds gs before hval0 hW hcnd _
  have hval : ∀ (j : Nat) t v, Try.f4.params[j]? = some t → args[j]? = some v → Value.okWide Try.prog W .any base t v := hval0
  have hW' := hW
  obtain ⟨p, q, hA0, hV, rfl, hfz, hnd⟩ := hW
  have hA : DataW.TrodAll enc Try.prog W 0 (fun _ => true) true Try.f4.params.toList args.toList ds p := hA0
  rw [Try.params4] at hA hval
  obtain ⟨v0, d0, rfl, rfl, h0⟩ := trodAll_one hA
  obtain ⟨rfl, rfl⟩ := trodVars_none hV
  have k0 := h0
  have lt0 : ∀ x ∈ p, x.block < W.heap.size := by obtain ⟨m, hm⟩ := k0; exact DataW.trod_lt m _ _ _ hm
  obtain ⟨E, S, G, F, L, s, a, b, g, cs, ca, cb, cg, rfl, iS, iF, iL, iG, ⟨h1S, hxS⟩, hF, hL, h1G, hxG⟩ := open_nfa (hval 0 35 v0 rfl rfl) h0
  clear hA0 hval0
  refine (walk E S G F L s a b g cs ca cb cg W iS iF iL iG h1S hxS hF hL h1G hxG).mono fun e W' ⟨he, bel⟩ => ?_
  subst he
  exact ⟨_, rfl, _, _, _, [], _, [], hW', trodAll_mk1 (shut_bool Try.underlying4 _), trodAll_mk1 (Below.trod laidOut (by kernel_rfl) (of_decide_eq_true (by kernel_rfl)) k0 bel lt0), rfl, bel.frame _, fun h => by cases h⟩
theorem row : Rows.FnExactGoodNfaSaid :=
  OpenClaim.holds_of_wide 4 Try.f4 rfl rfl rfl rfl rfl rfl rfl ⟨rfl, rfl, rfl, rfl, rfl⟩ rfl rfl rfl rfl rfl (by kernel_rfl) Try.func4 (by kernel_rfl)
    (of_decide_eq_true (by kernel_rfl)) (by unfold Func.isWrapper; first | (rw [if_pos (by decide +kernel)]; kernel_rfl) | (rw [if_neg (by decide +kernel)]; exact ⟨rfl, rfl⟩))
    (fun os started H enc _ => lifted os started H enc)
end LawGoodNfa
theorem goodNfa_holds : Rows.FnExactGoodNfaSaid := LawGoodNfa.row
#print axioms goodNfa_holds
end Go.Proofs.Ythhmijobfbjkiaa
