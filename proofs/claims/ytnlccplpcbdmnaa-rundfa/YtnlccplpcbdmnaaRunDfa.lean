/-
  For every machine of states and every list, laws.FnExactRunDfa returns true: impl.RunDfa answers as the specification's RunDfa, and leaves the machine and the list as they were. No conditions.
-/
import Derived.Test.YtnlccplpcbdmnaaM6G
import Derived.Deep.RegionHeld
namespace Go.Proofs.Ytnlccplpcbdmnaa
open Go.ChangeShapes Go.WideShapes Go.ChangeAt Go.WideMaps Go.WideElems Go.RowKit
namespace LawRunDfa
theorem own : ownKnob Try.prog.godebug = none := by kernel_rfl
theorem laidOut : laidOutB Try.prog = true := by kernel_rfl
set_option maxRecDepth 100000 in
set_option maxHeartbeats 4000000 in
theorem walk (C : List Int) (R : Rw) (F : List Bool) (L : List Int) (a b e al : Option Addr) (ca cb ce cl : Nat) (w : World) (hA : IntsAt w a C) (hB : RowsAt w b R) (hE : FlagsAt w e F) (hL : IntsAt w al L) (hC : C.length ≤ maxLen) (hR : R.length ≤ maxLen) (hx : ∀ y ∈ R, y.length ≤ maxLen) (hF : F.length ≤ maxLen) :
    Calls Try.prog 4 #[dfaV a b e C.length R.length F.length ca cb ce, .slice al L.length cl] w fun r w' => r = .returned (.bool true) ∧ Below w.heap.size w w' := by
  have HA : Hid _ := hA
  have HB : Hid _ := hB
  have HE : Hid _ := hE
  have HL : Hid _ := hL
  have A1 : ∀ o, Below w.heap.size w (w.alloc o) := fun o => (Below.refl _ _).alloc (Nat.le_refl _) o
  have HSZ : Hid _ := fun o => szDfa_any C R F a b e ca cb ce (w.alloc o) hC hR hx hF (RowsAt.keepB hB (A1 o))
  clear hA hB hE hL hC hR hx hF
  unfold dfaV
  by_cases hl : L.length ≤ 1048576
  case neg =>
    have hl' : (1048576 : Int) < (L.length : Int) := by omega
    go_enter Try.func4, Try.ntmps4
    go_wp2
    go_ret
    exact ⟨rfl, A1 _⟩
  have hl' : ¬ (1048576 : Int) < (L.length : Int) := by omega
  go_enter Try.func4, Try.ntmps4
  go_wp2_with fail
  refine Calls.mono (HSZ.out _) ?_
  rintro r w1 ⟨hs, b1⟩
  have hbl1 : w1.heap[w.heap.size]? = some (.cells #[.slice a C.length ca, .slice b R.length cb, .slice e F.length ce] 26) := (b1.block w.heap.size (by simp)).trans (heap_last2 _ _ _ rfl)
  have hs1 : w.heap.size < w1.heap.size := Nat.lt_of_lt_of_le (by simp) b1.size
  have B1 : Hid (Below w.heap.size w w1) := (A1 _).trans (b1.mono (by simp))
  clear b1
  rcases hs with ⟨hs, rfl⟩ | ⟨hs, rfl⟩
  case inr =>
    go_wp2
    go_ret
    exact ⟨rfl, B1.out⟩
  have HS : Hid (szD C R F ≤ 1048576) := hs
  have hz : ¬ (1048576 : Int) - (szD C R F : Int) < 0 := by omega
  clear hs
  generalize szD C R F = z at hz
  have g10 : w1.cell? ⟨w.heap.size, 0, none⟩ = some (.slice a C.length ca) := cell_of hbl1 0
  have g11 : w1.cell? ⟨w.heap.size, 1, none⟩ = some (.slice b R.length cb) := cell_of hbl1 1
  have g12 : w1.cell? ⟨w.heap.size, 2, none⟩ = some (.slice e F.length ce) := cell_of hbl1 2
  go_wp2_with fail
  refine (toDfa_any C R F a b e ca cb ce _ HS.out (IntsAt.keepB HA.out B1.out) (RowsAt.keepB HB.out B1.out) (FlagsAt.keepB HE.out B1.out)).mono ?_
  rintro r w2 ⟨v0, v1, v2, rfl, D2, b2⟩
  obtain ⟨a2, p2, e2, ca2, cp2, ce2, rfl, rfl, rfl, IA2, IB2, IE2⟩ := D2.form
  have JA2 : Hid _ := IA2
  have JB2 : Hid _ := IB2
  have JE2 : Hid _ := IE2
  have hbl2 := (b2.block w.heap.size hs1).trans hbl1
  have hs2 : w.heap.size < w2.heap.size := Nat.lt_of_lt_of_le hs1 b2.size
  have B2 : Hid (Below w.heap.size w w2) := B1.out.trans (b2.mono B1.out.size)
  clear b2 D2 IA2 IB2 IE2 g10 g11 g12 hbl1 B1
  go_wp2_with fail
  refine (toI_any L al cl _ hl (IntsAt.keepB HL.out B2.out)).mono ?_
  rintro r w3 ⟨v3, rfl, o3, b3⟩
  obtain ⟨-, a3, c3, rfl, IL3⟩ := ints_of_own o3
  have JL3 : Hid _ := IL3
  have JA3 : Hid _ := IntsAt.keepB JA2.out b3
  have JB3 : Hid _ := RowsAt.keepB JB2.out b3
  have JE3 : Hid _ := FlagsAt.keepB JE2.out b3
  have hbl3 := (b3.block w.heap.size hs2).trans hbl2
  have hs3 : w.heap.size < w3.heap.size := Nat.lt_of_lt_of_le hs2 b3.size
  have B3 : Hid (Below w.heap.size w w3) := B2.out.trans (b3.mono B2.out.size)
  clear b3 o3 IL3 hbl2 JA2 JB2 JE2 B2
  go_wp2_with fail
  refine (sRun_any C R F L _ _ _ _ _ _ _ _ _ HS.out hl JA3.out JB3.out JE3.out JL3.out).mono ?_
  rintro r w4 ⟨rfl, b4⟩
  have hbl4 := (b4.block w.heap.size hs3).trans hbl3
  have hs4 : w.heap.size < w4.heap.size := Nat.lt_of_lt_of_le hs3 b4.size
  have B4 : Hid (Below w.heap.size w w4) := B3.out.trans (b4.mono B3.out.size)
  have g40 : w4.cell? ⟨w.heap.size, 0, none⟩ = some (.slice a C.length ca) := cell_of hbl4 0
  have g41 : w4.cell? ⟨w.heap.size, 1, none⟩ = some (.slice b R.length cb) := cell_of hbl4 1
  have g42 : w4.cell? ⟨w.heap.size, 2, none⟩ = some (.slice e F.length ce) := cell_of hbl4 2
  clear b4 hbl3 JA3 JB3 JE3 JL3 B3
  generalize hf0 : (okD C R F L && runB C R F L) = f0
  generalize hf1 : okD C R F L = f1
  have HF0 : Hid _ := hf0
  have HF1 : Hid _ := hf1
  clear hf0 hf1
  go_wp2_with fail
  refine (toDfa_any C R F a b e ca cb ce _ HS.out (IntsAt.keepB HA.out B4.out) (RowsAt.keepB HB.out B4.out) (FlagsAt.keepB HE.out B4.out)).mono ?_
  rintro r w5 ⟨v0, v1, v2, rfl, D5, b5⟩
  obtain ⟨a5, p5, e5, ca5, cp5, ce5, rfl, rfl, rfl, IA5, IB5, IE5⟩ := D5.form
  have hbl5 := (b5.block w.heap.size hs4).trans hbl4
  have hs5 : w.heap.size < w5.heap.size := Nat.lt_of_lt_of_le hs4 b5.size
  have B5 : Hid (Below w.heap.size w w5) := B4.out.trans (b5.mono B4.out.size)
  have A5 : ∀ o, Below w5.heap.size w5 (w5.alloc o) := fun o => (Below.refl _ _).alloc (Nat.le_refl _) o
  have JA5 : Hid (∀ o, IntsAt (w5.alloc o) a5 C) := fun o => IntsAt.keepB IA5 (A5 o)
  have JB5 : Hid (∀ o, RowsAt (w5.alloc o) p5 R) := fun o => RowsAt.keepB IB5 (A5 o)
  have JE5 : Hid (∀ o, FlagsAt (w5.alloc o) e5 F) := fun o => FlagsAt.keepB IE5 (A5 o)
  have B5a : Hid (∀ o, Below w.heap.size w (w5.alloc o)) := fun o => B5.out.trans ((A5 o).mono B5.out.size)
  clear b5 D5 IA5 IB5 IE5 g40 g41 g42 hbl4 B4
  go_wp2_with fail
  refine (toI_any L al cl _ hl (IntsAt.keepB HL.out (B5a.out _))).mono ?_
  rintro r w6 ⟨v6, rfl, o6, b6⟩
  obtain ⟨-, a6, c6, rfl, IL6⟩ := ints_of_own o6
  have JL6 : Hid _ := IL6
  have JA6 : Hid _ := IntsAt.keepB (JA5.out _) b6
  have JB6 : Hid _ := RowsAt.keepB (JB5.out _) b6
  have JE6 : Hid _ := FlagsAt.keepB (JE5.out _) b6
  have hbl6 := (b6.block w.heap.size (by simp; omega)).trans ((A5 _).block w.heap.size hs5 |>.trans hbl5)
  have hbx6 : w6.heap[w5.heap.size]? = some (.cells #[.slice a5 C.length ca5, .slice p5 R.length cp5, .slice e5 F.length ce5] 29) := (b6.block w5.heap.size (by simp)).trans (heap_last2 _ _ _ rfl)
  have hs6 : w5.heap.size < w6.heap.size := Nat.lt_of_lt_of_le (by simp) b6.size
  have B6 : Hid (Below w.heap.size w w6) := (B5a.out _).trans (b6.mono (B5a.out _).size)
  clear b6 o6 IL6 hbl5 JA5 JB5 JE5 B5 B5a A5
  have g60 : w6.cell? ⟨w5.heap.size, 0, none⟩ = some (.slice a5 C.length ca5) := cell_of hbx6 0
  have g61 : w6.cell? ⟨w5.heap.size, 1, none⟩ = some (.slice p5 R.length cp5) := cell_of hbx6 1
  have g62 : w6.cell? ⟨w5.heap.size, 2, none⟩ = some (.slice e5 F.length ce5) := cell_of hbx6 2
  go_wp2_with fail
  refine (iRun_any C R F L _ _ _ _ _ _ _ _ _ HS.out hl JA6.out JB6.out JE6.out JL6.out).mono ?_
  rintro r w7 ⟨rfl, b7⟩
  have JL7 : Hid _ := IntsAt.keepB JL6.out b7
  have JA7 : Hid _ := IntsAt.keepB JA6.out b7
  have JB7 : Hid _ := RowsAt.keepB JB6.out b7
  have JE7 : Hid _ := FlagsAt.keepB JE6.out b7
  have hbl7 := (b7.block w.heap.size (by omega)).trans hbl6
  have hbx7 := (b7.block w5.heap.size hs6).trans hbx6
  have hs7 : w5.heap.size < w7.heap.size := Nat.lt_of_lt_of_le hs6 b7.size
  have B7 : Hid (Below w.heap.size w w7) := B6.out.trans (b7.mono B6.out.size)
  clear b7 hbl6 hbx6 JL6 JA6 JB6 JE6 B6 g60 g61 g62
  rw [HF0.out, HF1.out]
  have bb0 : (f0 == f0) = true := by simp
  have bb1 : (f1 == f1) = true := by simp
  have sD : (w7.drew.cell? ⟨w.heap.size, 0, none⟩ = some (.slice a C.length ca) ∧ w7.drew.cell? ⟨w.heap.size, 1, none⟩ = some (.slice b R.length cb) ∧ w7.drew.cell? ⟨w.heap.size, 2, none⟩ = some (.slice e F.length ce) ∧ w7.drew.cell? ⟨w5.heap.size, 0, none⟩ = some (.slice a5 C.length ca5) ∧ w7.drew.cell? ⟨w5.heap.size, 1, none⟩ = some (.slice p5 R.length cp5) ∧ w7.drew.cell? ⟨w5.heap.size, 2, none⟩ = some (.slice e5 F.length ce5)) := ⟨cell_of hbl7 0, cell_of hbl7 1, cell_of hbl7 2, cell_of hbx7 0, cell_of hbx7 1, cell_of hbx7 2⟩
  have DR7 : Hid (Below w7.heap.size w7 w7.drew) := (Below.refl _ _).drew
  have B7d : Hid (Below w.heap.size w w7.drew) := B7.out.drew
  have HBL7 : Hid _ := hbl7
  have HBX7 : Hid _ := hbx7
  clear hbl7 hbx7
  go_wp2
  go_region_held (fun w' => (w'.cell? ⟨w.heap.size, 0, none⟩ = some (.slice a C.length ca) ∧ w'.cell? ⟨w.heap.size, 1, none⟩ = some (.slice b R.length cb) ∧ w'.cell? ⟨w.heap.size, 2, none⟩ = some (.slice e F.length ce) ∧ w'.cell? ⟨w5.heap.size, 0, none⟩ = some (.slice a5 C.length ca5) ∧ w'.cell? ⟨w5.heap.size, 1, none⟩ = some (.slice p5 R.length cp5) ∧ w'.cell? ⟨w5.heap.size, 2, none⟩ = some (.slice e5 F.length ce5))) (first | assumption) (first
      | (go_at_call 10; refine (toDfa_any C R F a b e ca cb ce _ HS.out (IntsAt.keepB HA.out B7d.out) (RowsAt.keepB HB.out B7d.out) (FlagsAt.keepB HE.out B7d.out)).mono ?_
         rintro r w8 ⟨v0, v1, v2, rfl, D8, b8⟩
         have s8 : (w8.cell? ⟨w.heap.size, 0, none⟩ = some (.slice a C.length ca) ∧ w8.cell? ⟨w.heap.size, 1, none⟩ = some (.slice b R.length cb) ∧ w8.cell? ⟨w.heap.size, 2, none⟩ = some (.slice e F.length ce) ∧ w8.cell? ⟨w5.heap.size, 0, none⟩ = some (.slice a5 C.length ca5) ∧ w8.cell? ⟨w5.heap.size, 1, none⟩ = some (.slice p5 R.length cp5) ∧ w8.cell? ⟨w5.heap.size, 2, none⟩ = some (.slice e5 F.length ce5)) := ⟨cell_of ((b8.block w.heap.size (by show w.heap.size < w7.heap.size; omega)).trans HBL7.out) 0, cell_of ((b8.block w.heap.size (by show w.heap.size < w7.heap.size; omega)).trans HBL7.out) 1, cell_of ((b8.block w.heap.size (by show w.heap.size < w7.heap.size; omega)).trans HBL7.out) 2, cell_of ((b8.block w5.heap.size hs7).trans HBX7.out) 0, cell_of ((b8.block w5.heap.size hs7).trans HBX7.out) 1, cell_of ((b8.block w5.heap.size hs7).trans HBX7.out) 2⟩
         obtain ⟨a8, p8, e8, ca8, cp8, ce8, rfl, rfl, rfl, IA8, IB8, IE8⟩ := D8.form
         have JA8 : Hid _ := IA8
         have JB8 : Hid _ := IB8
         have JE8 : Hid _ := IE8
         have KA8 : Hid _ := IntsAt.keepB (IntsAt.keepB JA7.out DR7.out) b8
         have KB8 : Hid _ := RowsAt.keepB (RowsAt.keepB JB7.out DR7.out) b8
         have KE8 : Hid _ := FlagsAt.keepB (FlagsAt.keepB JE7.out DR7.out) b8
         have KL8 : Hid _ := IntsAt.keepB (IntsAt.keepB JL7.out DR7.out) b8
         have B8 : Hid (Below w.heap.size w w8) := B7d.out.trans (b8.mono B7d.out.size)
         clear b8 D8 IA8 IB8 IE8)
      | (go_at_call 12; refine (eqDfa_any C R F _ _ _ _ _ _ _ _ _ _ _ _ _ HS.out KA8.out KB8.out KE8.out JA8.out JB8.out JE8.out).mono ?_
         rintro r w9 ⟨rfl, b9⟩
         have s9 : (w9.cell? ⟨w.heap.size, 0, none⟩ = some (.slice a C.length ca) ∧ w9.cell? ⟨w.heap.size, 1, none⟩ = some (.slice b R.length cb) ∧ w9.cell? ⟨w.heap.size, 2, none⟩ = some (.slice e F.length ce) ∧ w9.cell? ⟨w5.heap.size, 0, none⟩ = some (.slice a5 C.length ca5) ∧ w9.cell? ⟨w5.heap.size, 1, none⟩ = some (.slice p5 R.length cp5) ∧ w9.cell? ⟨w5.heap.size, 2, none⟩ = some (.slice e5 F.length ce5)) := ⟨(b9.cell (p := ⟨w.heap.size, 0, none⟩) (World.block_lt_of_cell? _ _ s8.1)).trans s8.1, (b9.cell (p := ⟨w.heap.size, 1, none⟩) (World.block_lt_of_cell? _ _ s8.2.1)).trans s8.2.1, (b9.cell (p := ⟨w.heap.size, 2, none⟩) (World.block_lt_of_cell? _ _ s8.2.2.1)).trans s8.2.2.1, (b9.cell (p := ⟨w5.heap.size, 0, none⟩) (World.block_lt_of_cell? _ _ s8.2.2.2.1)).trans s8.2.2.2.1, (b9.cell (p := ⟨w5.heap.size, 1, none⟩) (World.block_lt_of_cell? _ _ s8.2.2.2.2.1)).trans s8.2.2.2.2.1, (b9.cell (p := ⟨w5.heap.size, 2, none⟩) (World.block_lt_of_cell? _ _ s8.2.2.2.2.2)).trans s8.2.2.2.2.2⟩
         have KL9 : Hid _ := IntsAt.keepB KL8.out b9
         have B9 : Hid (Below w.heap.size w w9) := B8.out.trans (b9.mono B8.out.size)
         clear b9))
  all_goals
    go_wp2_with fail
    refine (toI_any L al cl _ hl (IntsAt.keepB HL.out B9.out)).mono ?_
    rintro r w10 ⟨v10, rfl, o10, b10⟩
    obtain ⟨-, a10, c10, rfl, IL10⟩ := ints_of_own o10
    have JL10 : Hid _ := IL10
    have KL10 : Hid _ := IntsAt.keepB KL9.out b10
    have B10 : Hid (Below w.heap.size w w10) := B9.out.trans (b10.mono B9.out.size)
    clear b10 o10 IL10
    go_wp2_with fail
    refine (eq_any L _ _ _ _ _ hl KL10.out JL10.out).mono ?_
    rintro r w11 ⟨rfl, b11⟩
    have B11 : Hid (Below w.heap.size w w11) := B10.out.trans (b11.mono B10.out.size)
    clear b11
    go_wp2
    go_ret
    exact ⟨rfl, B11.out⟩
set_option maxRecDepth 100000 in
theorem lifted (os : Os) (started : os.Started) (H : Type) (enc : TypeId × Value → H) :
    ReturnsInHanded {} Try.checked os 4 .any (Rows.fnExactRunDfaSpec.pre6 enc Try.prog Try.f4 Rows.fnExactRunDfaRow.domain false) (Rows.fnExactRunDfaSpec.post enc Try.prog Try.f4 false true false false) := by
  refine returnsInHanded_of_change (C := Try.checked) own started (by kernel_rfl) Try.func4
    (ChangeSpec.witness6 (enc := enc) (C := Try.checked) false ⟨#[], #[.agg #[.slice none 0 0, .slice none 0 0, .slice none 0 0], .slice none 0 0], []⟩ 8 (by kernel_rfl) (by kernel_rfl) (by kernel_rfl) (by kernel_rfl)) ?_
  intro W base args ds gs before hval0 hW hcnd _
  have hval : ∀ (j : Nat) t v, Try.f4.params[j]? = some t → args[j]? = some v → Value.okWide Try.prog W .any base t v := hval0
  have hW' := hW
  obtain ⟨p, q, hA0, hV, rfl, hfz, hnd⟩ := hW
  have hA : DataW.TrodAll enc Try.prog W 0 (fun _ => true) true Try.f4.params.toList args.toList ds p := hA0
  rw [Try.params4] at hA hval
  obtain ⟨v0, vs0, d0, ds0, p0, q0, hargs, rfl, rfl, h0, r0⟩ := trodAll_cons hA
  obtain ⟨v1, vs1, d1, ds1, p1, q1, hargs1, rfl, rfl, h1, r1⟩ := trodAll_cons r0
  obtain ⟨rfl, rfl, rfl⟩ := trodAll_nil r1
  obtain rfl : args = #[v0, v1] := by cases args; simp_all
  obtain ⟨rfl, rfl⟩ := trodVars_none hV
  obtain ⟨a1, len1, cap1, rfl⟩ := okWide_slice Try.underlying22 (hval 1 22 v1 rfl rfl)
  have k0 := h0
  have k1 := h1
  have lt0 : ∀ x ∈ p0, x.block < W.heap.size := by obtain ⟨m, hm⟩ := k0; exact DataW.trod_lt m _ _ _ hm
  have lt1 : ∀ x ∈ p1, x.block < W.heap.size := by obtain ⟨m, hm⟩ := k1; exact DataW.trod_lt m _ _ _ hm
  obtain ⟨C, R, F, a, b, e, ca, cb, ce, rfl, iC, iR, iF, hC, hR, hx, hF⟩ := open_dfa (hval 0 26 v0 rfl rfl) h0
  obtain ⟨L, hL, i1⟩ : ∃ L : List Int, L.length = len1 ∧ IntsAt W a1 L := by obtain ⟨fuel, hf⟩ := h1; exact argI_of hf
  clear hA0 hval0
  subst hL
  refine (walk C R F L a b e a1 ca cb ce cap1 W iC iR iF i1 hC hR hx hF).mono fun e W' ⟨he, bel⟩ => ?_
  subst he
  exact ⟨_, rfl, _, _, _, [], _, [], hW', trodAll_mk1 (shut_bool Try.underlying4 _), trodAll_cons_mk (Below.trod laidOut (by kernel_rfl) (of_decide_eq_true (by kernel_rfl)) k0 bel lt0) (trodAll_cons_mk (Below.trod laidOut (by kernel_rfl) (of_decide_eq_true (by kernel_rfl)) k1 bel lt1) trodAll_mk0), rfl, bel.frame _, fun h => by cases h⟩
theorem row : Rows.FnExactRunDfaSaid :=
  OpenClaim.holds_of_wide 4 Try.f4 rfl rfl rfl rfl rfl rfl rfl ⟨rfl, rfl, rfl, rfl, rfl⟩ rfl rfl rfl rfl rfl (by kernel_rfl) Try.func4 (by kernel_rfl)
    (of_decide_eq_true (by kernel_rfl)) (by unfold Func.isWrapper; first | (rw [if_pos (by decide +kernel)]; kernel_rfl) | (rw [if_neg (by decide +kernel)]; exact ⟨rfl, rfl⟩))
    (fun os started H enc _ => lifted os started H enc)
end LawRunDfa
theorem runDfa_holds : Rows.FnExactRunDfaSaid := LawRunDfa.row
#print axioms runDfa_holds
end Go.Proofs.Ytnlccplpcbdmnaa
