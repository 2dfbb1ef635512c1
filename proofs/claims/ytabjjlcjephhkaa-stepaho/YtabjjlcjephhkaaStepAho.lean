/-
  For every machine of words, state and rune, laws.FnExactStepAho returns true: impl.StepAho answers as the specification's StepAho, at every state and rune, and leaves the machine as it was. No conditions.
-/
import Derived.Test.YtabjjlcjephhkaaW9B
import Derived.Lib.SmallJoins
import Derived.Deep.RegionHeld
namespace Go.Proofs.Ytabjjlcjephhkaa
open Go.ChangeShapes Go.WideShapes Go.ChangeAt Go.WideMaps Go.WideElems Go.RowKit
namespace LawStepAho
theorem own : ownKnob Try.prog.godebug = none := by kernel_rfl
theorem laidOut : laidOutB Try.prog = true := by kernel_rfl
set_option maxRecDepth 100000 in
set_option maxHeartbeats 4000000 in
theorem walk (P B F : List Int) (R : Rw) (st ru : Int) (a b c e : Option Addr) (ca cb cc ce : Nat) (w : World) (hA : IntsAt w a P) (hB : IntsAt w b B) (hC : IntsAt w c F) (hE : RowsAt w e R) (hP : P.length ≤ maxLen) (hBl : B.length ≤ maxLen) (hF : F.length ≤ maxLen) (hR : R.length ≤ maxLen) (hx : ∀ y ∈ R, y.length ≤ maxLen) :
    Calls Try.prog 9 #[ahoV a b c e P.length B.length F.length R.length ca cb cc ce, .int .i64 st, .int .i64 ru] w fun r w' => r = .returned (.bool true) ∧ Below w.heap.size w w' := by
  have HA : Hid _ := hA
  have HB : Hid _ := hB
  have HC : Hid _ := hC
  have HE : Hid _ := hE
  have A1 : ∀ o, Below w.heap.size w (w.alloc o) := fun o => (Below.refl _ _).alloc (Nat.le_refl _) o
  have HSZ : Hid _ := fun o => szAho_any P B F R a b c e ca cb cc ce (w.alloc o) hP hBl hF hR hx (RowsAt.keepB hE (A1 o))
  clear hA hB hC hE hP hBl hF hR hx
  unfold ahoV
  go_enter Try.func9, Try.ntmps9
  go_wp2_with fail
  refine Calls.mono (HSZ.out _) ?_
  rintro r w1 ⟨hs, b1⟩
  have hbl1 : w1.heap[w.heap.size]? = some (.cells #[.slice a P.length ca, .slice b B.length cb, .slice c F.length cc, .slice e R.length ce] 61) := (b1.block w.heap.size (by simp)).trans (heap_last2 _ _ _ rfl)
  have hs1 : w.heap.size < w1.heap.size := Nat.lt_of_lt_of_le (by simp) b1.size
  have B1 : Hid (Below w.heap.size w w1) := (A1 _).trans (b1.mono (by simp))
  clear b1
  rcases hs with ⟨hs, rfl⟩ | ⟨hs, rfl⟩
  · have HS : Hid (szA P B F R ≤ 1048576) := hs
    have hz : ¬ (1048576 : Int) - (szA P B F R : Int) < 0 := by omega
    clear hs
    generalize szA P B F R = z at hz
    have g10 : w1.cell? ⟨w.heap.size, 0, none⟩ = some (.slice a P.length ca) := cell_of hbl1 0
    have g11 : w1.cell? ⟨w.heap.size, 1, none⟩ = some (.slice b B.length cb) := cell_of hbl1 1
    have g12 : w1.cell? ⟨w.heap.size, 2, none⟩ = some (.slice c F.length cc) := cell_of hbl1 2
    have g13 : w1.cell? ⟨w.heap.size, 3, none⟩ = some (.slice e R.length ce) := cell_of hbl1 3
    go_wp2_with fail
    refine (toAho_any P B F R a b c e ca cb cc ce _ HS.out (IntsAt.keepB HA.out B1.out) (IntsAt.keepB HB.out B1.out) (IntsAt.keepB HC.out B1.out) (RowsAt.keepB HE.out B1.out)).mono ?_
    rintro r w2 ⟨v0, v1, v2, v3, rfl, D2, b2⟩
    obtain ⟨a2, p2, q2, e2, ca2, cp2, cq2, ce2, rfl, rfl, rfl, rfl, IA2, IB2, IC2, IE2⟩ := D2.form
    have JA2 : Hid _ := IA2
    have JB2 : Hid _ := IB2
    have JC2 : Hid _ := IC2
    have JE2 : Hid _ := IE2
    have hbl2 := (b2.block w.heap.size hs1).trans hbl1
    have hs2 : w.heap.size < w2.heap.size := Nat.lt_of_lt_of_le hs1 b2.size
    have B2 : Hid (Below w.heap.size w w2) := B1.out.trans (b2.mono B1.out.size)
    clear b2 D2 IA2 IB2 IC2 IE2 g10 g11 g12 g13 hbl1 B1
    go_wp2_with fail
    refine (sstepA_any P B F R st ru _ _ _ _ _ _ _ _ _ HS.out JA2.out JB2.out JC2.out JE2.out).mono ?_
    rintro r w3 ⟨rfl, b3⟩
    have hbl3 := (b3.block w.heap.size hs2).trans hbl2
    have hs3 : w.heap.size < w3.heap.size := Nat.lt_of_lt_of_le hs2 b3.size
    have B3 : Hid (Below w.heap.size w w3) := B2.out.trans (b3.mono B2.out.size)
    have g30 : w3.cell? ⟨w.heap.size, 0, none⟩ = some (.slice a P.length ca) := cell_of hbl3 0
    have g31 : w3.cell? ⟨w.heap.size, 1, none⟩ = some (.slice b B.length cb) := cell_of hbl3 1
    have g32 : w3.cell? ⟨w.heap.size, 2, none⟩ = some (.slice c F.length cc) := cell_of hbl3 2
    have g33 : w3.cell? ⟨w.heap.size, 3, none⟩ = some (.slice e R.length ce) := cell_of hbl3 3
    clear b3 hbl2 JA2 JB2 JC2 JE2 B2
    go_wp2_with fail
    refine (toAho_any P B F R a b c e ca cb cc ce _ HS.out (IntsAt.keepB HA.out B3.out) (IntsAt.keepB HB.out B3.out) (IntsAt.keepB HC.out B3.out) (RowsAt.keepB HE.out B3.out)).mono ?_
    rintro r w4 ⟨v0, v1, v2, v3, rfl, D4, b4⟩
    obtain ⟨a4, p4, q4, e4, ca4, cp4, cq4, ce4, rfl, rfl, rfl, rfl, IA4, IB4, IC4, IE4⟩ := D4.form
    have hbl4 := (b4.block w.heap.size hs3).trans hbl3
    have hs4 : w.heap.size < w4.heap.size := Nat.lt_of_lt_of_le hs3 b4.size
    have B4 : Hid (Below w.heap.size w w4) := B3.out.trans (b4.mono B3.out.size)
    have A4 : ∀ o, Below w4.heap.size w4 (w4.alloc o) := fun o => (Below.refl _ _).alloc (Nat.le_refl _) o
    have JA4 : Hid (∀ o, IntsAt (w4.alloc o) a4 P) := fun o => IntsAt.keepB IA4 (A4 o)
    have JB4 : Hid (∀ o, IntsAt (w4.alloc o) p4 B) := fun o => IntsAt.keepB IB4 (A4 o)
    have JC4 : Hid (∀ o, IntsAt (w4.alloc o) q4 F) := fun o => IntsAt.keepB IC4 (A4 o)
    have JE4 : Hid (∀ o, RowsAt (w4.alloc o) e4 R) := fun o => RowsAt.keepB IE4 (A4 o)
    clear b4 D4 IA4 IB4 IC4 IE4 g30 g31 g32 g33 hbl3 B3
    go_wp2_with fail
    refine (istepA_any P B F R st ru _ _ _ _ _ _ _ _ _ HS.out (JA4.out _) (JB4.out _) (JC4.out _) (JE4.out _)).mono ?_
    rintro r w5 ⟨rfl, b5⟩
    have hbl5 := (b5.block w.heap.size (by simp; omega)).trans ((A4 _).block w.heap.size hs4 |>.trans hbl4)
    have hbx5 : w5.heap[w4.heap.size]? = some (.cells #[.slice a4 P.length ca4, .slice p4 B.length cp4, .slice q4 F.length cq4, .slice e4 R.length ce4] 37) := (b5.block w4.heap.size (by simp)).trans (heap_last2 _ _ _ rfl)
    have hs5 : w4.heap.size < w5.heap.size := Nat.lt_of_lt_of_le (by simp) b5.size
    have JA5 : Hid _ := IntsAt.keepB (JA4.out _) b5
    have JB5 : Hid _ := IntsAt.keepB (JB4.out _) b5
    have JC5 : Hid _ := IntsAt.keepB (JC4.out _) b5
    have JE5 : Hid _ := RowsAt.keepB (JE4.out _) b5
    have B5 : Hid (Below w.heap.size w w5) := (B4.out.trans ((A4 _).mono B4.out.size)).trans (b5.mono (Nat.le_trans B4.out.size (by simp)))
    clear b5 JA4 JB4 JC4 JE4 A4 B4 hbl4
    have bb0 : (stK P B F R st ru == stK P B F R st ru) = true := by simp
    generalize stK P B F R st ru = f0 at *
    generalize stR P B F R st ru = f1 at *
    have sD : (w5.drew.cell? ⟨w.heap.size, 0, none⟩ = some (.slice a P.length ca) ∧ w5.drew.cell? ⟨w.heap.size, 1, none⟩ = some (.slice b B.length cb) ∧ w5.drew.cell? ⟨w.heap.size, 2, none⟩ = some (.slice c F.length cc) ∧ w5.drew.cell? ⟨w.heap.size, 3, none⟩ = some (.slice e R.length ce) ∧ w5.drew.cell? ⟨w4.heap.size, 0, none⟩ = some (.slice a4 P.length ca4) ∧ w5.drew.cell? ⟨w4.heap.size, 1, none⟩ = some (.slice p4 B.length cp4) ∧ w5.drew.cell? ⟨w4.heap.size, 2, none⟩ = some (.slice q4 F.length cq4) ∧ w5.drew.cell? ⟨w4.heap.size, 3, none⟩ = some (.slice e4 R.length ce4)) := ⟨cell_of hbl5 0, cell_of hbl5 1, cell_of hbl5 2, cell_of hbl5 3, cell_of hbx5 0, cell_of hbx5 1, cell_of hbx5 2, cell_of hbx5 3⟩
    have DR5 : Hid (Below w5.heap.size w5 w5.drew) := (Below.refl _ _).drew
    have B5d : Hid (Below w.heap.size w w5.drew) := B5.out.drew
    have HBL5 : Hid _ := hbl5
    have HBX5 : Hid _ := hbx5
    clear hbl5 hbx5
    go_wp2
    go_region_held (fun w' => (w'.cell? ⟨w.heap.size, 0, none⟩ = some (.slice a P.length ca) ∧ w'.cell? ⟨w.heap.size, 1, none⟩ = some (.slice b B.length cb) ∧ w'.cell? ⟨w.heap.size, 2, none⟩ = some (.slice c F.length cc) ∧ w'.cell? ⟨w.heap.size, 3, none⟩ = some (.slice e R.length ce) ∧ w'.cell? ⟨w4.heap.size, 0, none⟩ = some (.slice a4 P.length ca4) ∧ w'.cell? ⟨w4.heap.size, 1, none⟩ = some (.slice p4 B.length cp4) ∧ w'.cell? ⟨w4.heap.size, 2, none⟩ = some (.slice q4 F.length cq4) ∧ w'.cell? ⟨w4.heap.size, 3, none⟩ = some (.slice e4 R.length ce4))) (first | assumption) (first
      | (go_at_call 47; refine (toAho_any P B F R a b c e ca cb cc ce _ HS.out (IntsAt.keepB HA.out B5d.out) (IntsAt.keepB HB.out B5d.out) (IntsAt.keepB HC.out B5d.out) (RowsAt.keepB HE.out B5d.out)).mono ?_
         rintro r w6 ⟨v0, v1, v2, v3, rfl, D6, b6⟩
         have s6 : (w6.cell? ⟨w.heap.size, 0, none⟩ = some (.slice a P.length ca) ∧ w6.cell? ⟨w.heap.size, 1, none⟩ = some (.slice b B.length cb) ∧ w6.cell? ⟨w.heap.size, 2, none⟩ = some (.slice c F.length cc) ∧ w6.cell? ⟨w.heap.size, 3, none⟩ = some (.slice e R.length ce) ∧ w6.cell? ⟨w4.heap.size, 0, none⟩ = some (.slice a4 P.length ca4) ∧ w6.cell? ⟨w4.heap.size, 1, none⟩ = some (.slice p4 B.length cp4) ∧ w6.cell? ⟨w4.heap.size, 2, none⟩ = some (.slice q4 F.length cq4) ∧ w6.cell? ⟨w4.heap.size, 3, none⟩ = some (.slice e4 R.length ce4)) := ⟨cell_of ((b6.block w.heap.size (by show w.heap.size < w5.heap.size; omega)).trans HBL5.out) 0, cell_of ((b6.block w.heap.size (by show w.heap.size < w5.heap.size; omega)).trans HBL5.out) 1, cell_of ((b6.block w.heap.size (by show w.heap.size < w5.heap.size; omega)).trans HBL5.out) 2, cell_of ((b6.block w.heap.size (by show w.heap.size < w5.heap.size; omega)).trans HBL5.out) 3, cell_of ((b6.block w4.heap.size hs5).trans HBX5.out) 0, cell_of ((b6.block w4.heap.size hs5).trans HBX5.out) 1, cell_of ((b6.block w4.heap.size hs5).trans HBX5.out) 2, cell_of ((b6.block w4.heap.size hs5).trans HBX5.out) 3⟩
         obtain ⟨a6, p6, q6, e6, ca6, cp6, cq6, ce6, rfl, rfl, rfl, rfl, IA6, IB6, IC6, IE6⟩ := D6.form
         have JA6 : Hid _ := IA6
         have JB6 : Hid _ := IB6
         have JC6 : Hid _ := IC6
         have JE6 : Hid _ := IE6
         have KA6 : Hid _ := IntsAt.keepB (IntsAt.keepB JA5.out DR5.out) b6
         have KB6 : Hid _ := IntsAt.keepB (IntsAt.keepB JB5.out DR5.out) b6
         have KC6 : Hid _ := IntsAt.keepB (IntsAt.keepB JC5.out DR5.out) b6
         have KE6 : Hid _ := RowsAt.keepB (RowsAt.keepB JE5.out DR5.out) b6
         have B6 : Hid (Below w.heap.size w w6) := B5d.out.trans (b6.mono B5d.out.size)
         clear b6 D6 IA6 IB6 IC6 IE6)
      | (go_at_call 41; refine (eqAho_any P B F R _ _ _ _ _ _ _ _ _ _ _ _ _ _ _ _ _ HS.out KA6.out KB6.out KC6.out KE6.out JA6.out JB6.out JC6.out JE6.out).mono ?_
         rintro r w7 ⟨rfl, b7⟩
         have s7 : (w7.cell? ⟨w.heap.size, 0, none⟩ = some (.slice a P.length ca) ∧ w7.cell? ⟨w.heap.size, 1, none⟩ = some (.slice b B.length cb) ∧ w7.cell? ⟨w.heap.size, 2, none⟩ = some (.slice c F.length cc) ∧ w7.cell? ⟨w.heap.size, 3, none⟩ = some (.slice e R.length ce) ∧ w7.cell? ⟨w4.heap.size, 0, none⟩ = some (.slice a4 P.length ca4) ∧ w7.cell? ⟨w4.heap.size, 1, none⟩ = some (.slice p4 B.length cp4) ∧ w7.cell? ⟨w4.heap.size, 2, none⟩ = some (.slice q4 F.length cq4) ∧ w7.cell? ⟨w4.heap.size, 3, none⟩ = some (.slice e4 R.length ce4)) := ⟨(b7.cell (p := ⟨w.heap.size, 0, none⟩) (World.block_lt_of_cell? _ _ s6.1)).trans s6.1, (b7.cell (p := ⟨w.heap.size, 1, none⟩) (World.block_lt_of_cell? _ _ s6.2.1)).trans s6.2.1, (b7.cell (p := ⟨w.heap.size, 2, none⟩) (World.block_lt_of_cell? _ _ s6.2.2.1)).trans s6.2.2.1, (b7.cell (p := ⟨w.heap.size, 3, none⟩) (World.block_lt_of_cell? _ _ s6.2.2.2.1)).trans s6.2.2.2.1, (b7.cell (p := ⟨w4.heap.size, 0, none⟩) (World.block_lt_of_cell? _ _ s6.2.2.2.2.1)).trans s6.2.2.2.2.1, (b7.cell (p := ⟨w4.heap.size, 1, none⟩) (World.block_lt_of_cell? _ _ s6.2.2.2.2.2.1)).trans s6.2.2.2.2.2.1, (b7.cell (p := ⟨w4.heap.size, 2, none⟩) (World.block_lt_of_cell? _ _ s6.2.2.2.2.2.2.1)).trans s6.2.2.2.2.2.2.1, (b7.cell (p := ⟨w4.heap.size, 3, none⟩) (World.block_lt_of_cell? _ _ s6.2.2.2.2.2.2.2)).trans s6.2.2.2.2.2.2.2⟩
         have B7 : Hid (Below w.heap.size w w7) := B6.out.trans (b7.mono B6.out.size)
         clear b7))
    all_goals
      go_wp2
      go_ret
      exact ⟨rfl, B7.out⟩
  · go_wp2
    go_ret
    exact ⟨rfl, B1.out⟩
set_option maxRecDepth 100000 in
theorem lifted (os : Os) (started : os.Started) (H : Type) (enc : TypeId × Value → H) :
    ReturnsInHanded {} Try.checked os 9 .any (Rows.fnExactStepAhoSpec.pre6 enc Try.prog Try.f9 Rows.fnExactStepAhoRow.domain false) (Rows.fnExactStepAhoSpec.post enc Try.prog Try.f9 false true false false) := by
  refine returnsInHanded_of_change (C := Try.checked) own started (by kernel_rfl) Try.func9
    (ChangeSpec.witness6 (enc := enc) (C := Try.checked) false ⟨#[], #[.agg #[.slice none 0 0, .slice none 0 0, .slice none 0 0, .slice none 0 0], .int .i64 0, .int .i64 0], []⟩ 8 (by kernel_rfl) (by kernel_rfl) (by kernel_rfl) (by kernel_rfl)) ?_
  intro W base args ds gs before hval0 hW hcnd _
  have hval : ∀ (j : Nat) t v, Try.f9.params[j]? = some t → args[j]? = some v → Value.okWide Try.prog W .any base t v := hval0
  have hW' := hW
  obtain ⟨p, q, hA0, hV, rfl, hfz, hnd⟩ := hW
  have hA : DataW.TrodAll enc Try.prog W 0 (fun _ => true) true Try.f9.params.toList args.toList ds p := hA0
  rw [Try.params9] at hA hval
  obtain ⟨v0, vs0, d0, ds0, p0, q0, hargs, rfl, rfl, h0, r0⟩ := trodAll_cons hA
  obtain ⟨v1, vs1, d1, ds1, p1, q1, hargs1, rfl, rfl, h1, r1⟩ := trodAll_cons r0
  obtain ⟨v2, vs2, d2, ds2, p2, q2, hargs2, rfl, rfl, h2, r2⟩ := trodAll_cons r1
  obtain ⟨rfl, rfl, rfl⟩ := trodAll_nil r2
  obtain rfl : args = #[v0, v1, v2] := by cases args; simp_all
  obtain ⟨rfl, rfl⟩ := trodVars_none hV
  obtain ⟨a1, rfl, rfl, rfl, w1⟩ := open_int Try.underlying3 (hval 1 3 v1 rfl rfl) h1
  obtain ⟨a2, rfl, rfl, rfl, w2⟩ := open_int Try.underlying3 (hval 2 3 v2 rfl rfl) h2
  have k0 := h0
  have lt0 : ∀ x ∈ p0, x.block < W.heap.size := by obtain ⟨m, hm⟩ := k0; exact DataW.trod_lt m _ _ _ hm
  obtain ⟨P, B, F, R, a, b, c, e, ca, cb, cc, ce, rfl, iP, iB, iF, iR, hP, hB, hF, hR, hx⟩ := open_aho (hval 0 61 v0 rfl rfl) h0
  clear hA0 hval0
  refine (walk P B F R a1 a2 a b c e ca cb cc ce W iP iB iF iR hP hB hF hR hx).mono fun e W' ⟨he, bel⟩ => ?_
  subst he
  exact ⟨_, rfl, _, _, _, [], _, [], hW', trodAll_mk1 (shut_bool Try.underlying4 _), trodAll_cons_mk (Below.trod laidOut (by kernel_rfl) (of_decide_eq_true (by kernel_rfl)) k0 bel lt0) (trodAll_cons_mk (shut_int Try.underlying3 w1) (trodAll_cons_mk (shut_int Try.underlying3 w2) trodAll_mk0)), rfl, bel.frame _, fun h => by cases h⟩
theorem row : Rows.FnExactStepAhoSaid :=
  OpenClaim.holds_of_wide 9 Try.f9 rfl rfl rfl rfl rfl rfl rfl ⟨rfl, rfl, rfl, rfl, rfl⟩ rfl rfl rfl rfl rfl (by kernel_rfl) Try.func9 (by kernel_rfl)
    (of_decide_eq_true (by kernel_rfl)) (by unfold Func.isWrapper; first | (rw [if_pos (by decide +kernel)]; kernel_rfl) | (rw [if_neg (by decide +kernel)]; exact ⟨rfl, rfl⟩))
    (fun os started H enc _ => lifted os started H enc)
end LawStepAho
theorem stepAho_holds : Rows.FnExactStepAhoSaid := LawStepAho.row
#print axioms stepAho_holds
end Go.Proofs.Ytabjjlcjephhkaa
