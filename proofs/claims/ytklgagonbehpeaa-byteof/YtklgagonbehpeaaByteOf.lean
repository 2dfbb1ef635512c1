/-
  For every buffer and number, laws.FnExactByteOf returns true: impl.ByteOf answers as the specification's ByteOf, and leaves the buffer as it was. No conditions.
-/
import Derived.Test.YtklgagonbehpeaaX1G
import Derived.Lib.SmallJoins
import Derived.Deep.RegionHeld
namespace Go.Proofs.Ytklgagonbehpeaa
open Go.ChangeShapes Go.WideShapes Go.ChangeAt Go.WideMaps Go.WideElems Go.RowKit
namespace LawByteOf
theorem own : ownKnob Try.prog.godebug = none := by kernel_rfl
theorem laidOut : laidOutB Try.prog = true := by kernel_rfl
set_option maxRecDepth 100000 in
set_option maxHeartbeats 4000000 in
theorem core (M G : Int) (R L : List Int) (V : Int) (f : Bool) (s a : Option Addr) (cs ca : Nat) (K : Int) (w : World) (iR : IntsAt w s R) (iL : IntsAt w a L) (hR : R.length ≤ maxLen) (hL : L.length ≤ maxLen)
    (SP : R.length + L.length ≤ 1048576 → ∀ (s a : Option Addr) (cs ca : Nat) (w : World), Sl w s cs R → Sl w a ca L → Calls Try.prog 23 #[.agg #[.int .i64 M, .slice s R.length cs, .slice a L.length ca, .int .i64 G], .int .i64 K] w fun r w' => r = .returned (.tuple #[.int .i64 V, .bool f]) ∧ Below w.heap.size w w')
    (IM : R.length + L.length ≤ 1048576 → ∀ (s a : Option Addr) (cs ca : Nat) (w : World), Sl w s cs R → Sl w a ca L → Calls Try.prog 22 #[.agg #[.int .i64 M, .slice s R.length cs, .slice a L.length ca, .int .i64 G], .int .i64 K] w fun r w' => r = .returned (.tuple #[.int .i64 V, .bool f]) ∧ Below w.heap.size w w') :
    Calls Try.prog 7 #[.agg #[.int .i64 M, .slice s R.length cs, .slice a L.length ca, .int .i64 G], .int .i64 K] w fun r w' => r = .returned (.bool true) ∧ Below w.heap.size w w' := by
  have HR : Hid _ := iR
  have HL : Hid _ := iL
  have HSP : Hid _ := SP
  have HIM : Hid _ := IM
  have A1 : ∀ o, Below w.heap.size w (w.alloc o) := fun o => (Below.refl _ _).alloc (Nat.le_refl _) o
  have HSZ : Hid _ := fun o => szBuf_any M G R L s a cs ca (w.alloc o) hR hL
  clear iR iL hR hL SP IM
  go_enter Try.func7, Try.ntmps7
  go_wp2_with fail
  refine Calls.mono (HSZ.out _) ?_
  rintro r w1 ⟨hs, b1⟩
  have hbl1 : w1.heap[w.heap.size]? = some (.cells #[.int .i64 M, .slice s R.length cs, .slice a L.length ca, .int .i64 G] 41) := (b1.block w.heap.size (by simp)).trans (heap_lastB _ _ _ rfl)
  have hs1 : w.heap.size < w1.heap.size := Nat.lt_of_lt_of_le (by simp) b1.size
  have B1 : Hid (Below w.heap.size w w1) := (A1 _).trans (b1.mono (by simp))
  clear b1 HSZ
  rcases hs with ⟨hs, rfl⟩ | ⟨hs, rfl⟩
  case inr =>
    go_wp2
    go_ret
    exact ⟨rfl, B1.out⟩
  have HSz : Hid (R.length + L.length ≤ 1048576) := hs
  have hlR : R.length ≤ 1048576 := by omega
  have hlL : L.length ≤ 1048576 := by omega
  have hz : ¬ (1048576 : Int) - (R.length : Int) - (L.length : Int) < 0 := by omega
  clear hs
  have q10 : w1.cell? ⟨w.heap.size, 0, none⟩ = some (.int .i64 M) ∧ w1.cell? ⟨w.heap.size, 1, none⟩ = some (.slice s R.length cs) ∧ w1.cell? ⟨w.heap.size, 2, none⟩ = some (.slice a L.length ca) ∧ w1.cell? ⟨w.heap.size, 3, none⟩ = some (.int .i64 G) := ⟨cell_ofB hbl1 0, cell_ofB hbl1 1, cell_ofB hbl1 2, cell_ofB hbl1 3⟩
  obtain ⟨g10, g11, g12, g13⟩ := q10
  go_wp2_with fail
  refine (toBuf_any M G R L s a cs ca _ hlR hlL (IntsAt.keepB HR.out B1.out) (IntsAt.keepB HL.out B1.out)).mono ?_
  rintro r w2 ⟨x2, y2, cx2, cy2, rfl, o2, b2⟩
  have JR2 : Hid _ := Sl.of_own o2.1.1
  have JL2 : Hid _ := Sl.of_own o2.1.2.1
  have hbl2 := (b2.block w.heap.size hs1).trans hbl1
  have hs2 : w.heap.size < w2.heap.size := Nat.lt_of_lt_of_le hs1 b2.size
  have B2 : Hid (Below w.heap.size w w2) := B1.out.trans (b2.mono B1.out.size)
  clear b2 o2 g10 g11 g12 g13 hbl1 B1
  go_wp2_with fail
  refine Calls.mono (HSP.out HSz.out _ _ _ _ _ JR2.out JL2.out) ?_
  rintro r w3 ⟨rfl, b3⟩
  have hbl3 := (b3.block w.heap.size hs2).trans hbl2
  have hs3 : w.heap.size < w3.heap.size := Nat.lt_of_lt_of_le hs2 b3.size
  have B3 : Hid (Below w.heap.size w w3) := B2.out.trans (b3.mono B2.out.size)
  have q30 : w3.cell? ⟨w.heap.size, 0, none⟩ = some (.int .i64 M) ∧ w3.cell? ⟨w.heap.size, 1, none⟩ = some (.slice s R.length cs) ∧ w3.cell? ⟨w.heap.size, 2, none⟩ = some (.slice a L.length ca) ∧ w3.cell? ⟨w.heap.size, 3, none⟩ = some (.int .i64 G) := ⟨cell_ofB hbl3 0, cell_ofB hbl3 1, cell_ofB hbl3 2, cell_ofB hbl3 3⟩
  obtain ⟨g30, g31, g32, g33⟩ := q30
  clear b3 hbl2 JR2 JL2 B2
  go_wp2_with fail
  refine (toBuf_any M G R L s a cs ca _ hlR hlL (IntsAt.keepB HR.out B3.out) (IntsAt.keepB HL.out B3.out)).mono ?_
  rintro r w4 ⟨x, y, cx, cy, rfl, o4, b4⟩
  have hbl4 := (b4.block w.heap.size hs3).trans hbl3
  have hs4 : w.heap.size < w4.heap.size := Nat.lt_of_lt_of_le hs3 b4.size
  have B4 : Hid (Below w.heap.size w w4) := B3.out.trans (b4.mono B3.out.size)
  have A4 : ∀ o, Below w4.heap.size w4 (w4.alloc o) := fun o => (Below.refl _ _).alloc (Nat.le_refl _) o
  have JR4 : Hid (∀ o, Sl (w4.alloc o) x cx R) := fun o => (Sl.of_own o4.1.1).keepB (A4 o)
  have JL4 : Hid (∀ o, Sl (w4.alloc o) y cy L) := fun o => (Sl.of_own o4.1.2.1).keepB (A4 o)
  clear b4 o4 g30 g31 g32 g33 hbl3 B3
  go_wp2_with fail
  refine Calls.mono (HIM.out HSz.out _ _ _ _ _ (JR4.out _) (JL4.out _)) ?_
  rintro r w5 ⟨rfl, b5⟩
  have hbl5 := (b5.block w.heap.size (by simp; omega)).trans ((A4 _).block w.heap.size hs4 |>.trans hbl4)
  have hbx5 : w5.heap[w4.heap.size]? = some (.cells #[.int .i64 M, .slice x R.length cx, .slice y L.length cy, .int .i64 G] 26) := (b5.block w4.heap.size (by simp)).trans (heap_lastB _ _ _ rfl)
  have hs5 : w4.heap.size < w5.heap.size := Nat.lt_of_lt_of_le (by simp) b5.size
  have JR5 : Hid (IntsAt w5 x R) := IntsAt.keepB (JR4.out _).2.2 b5
  have JL5 : Hid (IntsAt w5 y L) := IntsAt.keepB (JL4.out _).2.2 b5
  have B5 : Hid (Below w.heap.size w w5) := (B4.out.trans ((A4 _).mono B4.out.size)).trans (b5.mono (Nat.le_trans B4.out.size (by simp)))
  clear b5 JR4 JL4 A4 B4 hbl4
  have bb0 : (f == f) = true := by simp
  have sD : (w5.drew.cell? ⟨w.heap.size, 0, none⟩ = some (.int .i64 M) ∧ w5.drew.cell? ⟨w.heap.size, 1, none⟩ = some (.slice s R.length cs) ∧ w5.drew.cell? ⟨w.heap.size, 2, none⟩ = some (.slice a L.length ca) ∧ w5.drew.cell? ⟨w.heap.size, 3, none⟩ = some (.int .i64 G) ∧ w5.drew.cell? ⟨w4.heap.size, 0, none⟩ = some (.int .i64 M) ∧ w5.drew.cell? ⟨w4.heap.size, 1, none⟩ = some (.slice x R.length cx) ∧ w5.drew.cell? ⟨w4.heap.size, 2, none⟩ = some (.slice y L.length cy) ∧ w5.drew.cell? ⟨w4.heap.size, 3, none⟩ = some (.int .i64 G)) := ⟨cell_ofB hbl5 0, cell_ofB hbl5 1, cell_ofB hbl5 2, cell_ofB hbl5 3, cell_ofB hbx5 0, cell_ofB hbx5 1, cell_ofB hbx5 2, cell_ofB hbx5 3⟩
  have DR5 : Hid (Below w5.heap.size w5 w5.drew) := (Below.refl _ _).drew
  have B5d : Hid (Below w.heap.size w w5.drew) := B5.out.drew
  have HBL5 : Hid (w5.drew.heap[w.heap.size]? = some (.cells #[.int .i64 M, .slice s R.length cs, .slice a L.length ca, .int .i64 G] 41)) := hbl5
  have HBX5 : Hid (w5.drew.heap[w4.heap.size]? = some (.cells #[.int .i64 M, .slice x R.length cx, .slice y L.length cy, .int .i64 G] 26)) := hbx5
  clear hbl5 hbx5
  go_wp2
  go_region_held (fun w' => (w'.cell? ⟨w.heap.size, 0, none⟩ = some (.int .i64 M) ∧ w'.cell? ⟨w.heap.size, 1, none⟩ = some (.slice s R.length cs) ∧ w'.cell? ⟨w.heap.size, 2, none⟩ = some (.slice a L.length ca) ∧ w'.cell? ⟨w.heap.size, 3, none⟩ = some (.int .i64 G) ∧ w'.cell? ⟨w4.heap.size, 0, none⟩ = some (.int .i64 M) ∧ w'.cell? ⟨w4.heap.size, 1, none⟩ = some (.slice x R.length cx) ∧ w'.cell? ⟨w4.heap.size, 2, none⟩ = some (.slice y L.length cy) ∧ w'.cell? ⟨w4.heap.size, 3, none⟩ = some (.int .i64 G))) (first | assumption) (first
    | (go_at_call 25; refine (toBuf_any M G R L s a cs ca _ hlR hlL (IntsAt.keepB HR.out B5d.out) (IntsAt.keepB HL.out B5d.out)).mono ?_
       rintro r w6 ⟨x6, y6, cx6, cy6, rfl, o6, b6⟩
       have hb1 : w6.heap[w.heap.size]? = some (.cells #[.int .i64 M, .slice s R.length cs, .slice a L.length ca, .int .i64 G] 41) := (b6.block w.heap.size (by show w.heap.size < w5.heap.size; omega)).trans HBL5.out
       have hb2 : w6.heap[w4.heap.size]? = some (.cells #[.int .i64 M, .slice x R.length cx, .slice y L.length cy, .int .i64 G] 26) := (b6.block w4.heap.size hs5).trans HBX5.out
       have s6 : (w6.cell? ⟨w.heap.size, 0, none⟩ = some (.int .i64 M) ∧ w6.cell? ⟨w.heap.size, 1, none⟩ = some (.slice s R.length cs) ∧ w6.cell? ⟨w.heap.size, 2, none⟩ = some (.slice a L.length ca) ∧ w6.cell? ⟨w.heap.size, 3, none⟩ = some (.int .i64 G) ∧ w6.cell? ⟨w4.heap.size, 0, none⟩ = some (.int .i64 M) ∧ w6.cell? ⟨w4.heap.size, 1, none⟩ = some (.slice x R.length cx) ∧ w6.cell? ⟨w4.heap.size, 2, none⟩ = some (.slice y L.length cy) ∧ w6.cell? ⟨w4.heap.size, 3, none⟩ = some (.int .i64 G)) := ⟨cell_ofB hb1 0, cell_ofB hb1 1, cell_ofB hb1 2, cell_ofB hb1 3, cell_ofB hb2 0, cell_ofB hb2 1, cell_ofB hb2 2, cell_ofB hb2 3⟩
       have HB1 : Hid (w6.heap[w.heap.size]? = some (.cells #[.int .i64 M, .slice s R.length cs, .slice a L.length ca, .int .i64 G] 41)) := hb1
       have HB2 : Hid (w6.heap[w4.heap.size]? = some (.cells #[.int .i64 M, .slice x R.length cx, .slice y L.length cy, .int .i64 G] 26)) := hb2
       have JR6 : Hid (IntsAt w6 x6 R) := o6.at.1
       have JL6 : Hid (IntsAt w6 y6 L) := o6.at.2.1
       have KR6 : Hid (IntsAt w6 x R) := IntsAt.keepB (IntsAt.keepB JR5.out DR5.out) b6
       have KL6 : Hid (IntsAt w6 y L) := IntsAt.keepB (IntsAt.keepB JL5.out DR5.out) b6
       have B6 : Hid (Below w.heap.size w w6) := B5d.out.trans (b6.mono B5d.out.size)
       have hs6 : w4.heap.size < w6.heap.size := Nat.lt_of_lt_of_le hs5 b6.size
       clear b6 o6 hb1 hb2)
    | (go_at_call 26; refine (eqBuf_any M G R L _ _ _ _ _ _ _ _ _ hlR hlL KR6.out KL6.out JR6.out JL6.out).mono ?_
       rintro r w7 ⟨rfl, b7⟩
       have hb1 : w7.heap[w.heap.size]? = some (.cells #[.int .i64 M, .slice s R.length cs, .slice a L.length ca, .int .i64 G] 41) := (b7.block w.heap.size (by omega)).trans HB1.out
       have hb2 : w7.heap[w4.heap.size]? = some (.cells #[.int .i64 M, .slice x R.length cx, .slice y L.length cy, .int .i64 G] 26) := (b7.block w4.heap.size hs6).trans HB2.out
       have s7 : (w7.cell? ⟨w.heap.size, 0, none⟩ = some (.int .i64 M) ∧ w7.cell? ⟨w.heap.size, 1, none⟩ = some (.slice s R.length cs) ∧ w7.cell? ⟨w.heap.size, 2, none⟩ = some (.slice a L.length ca) ∧ w7.cell? ⟨w.heap.size, 3, none⟩ = some (.int .i64 G) ∧ w7.cell? ⟨w4.heap.size, 0, none⟩ = some (.int .i64 M) ∧ w7.cell? ⟨w4.heap.size, 1, none⟩ = some (.slice x R.length cx) ∧ w7.cell? ⟨w4.heap.size, 2, none⟩ = some (.slice y L.length cy) ∧ w7.cell? ⟨w4.heap.size, 3, none⟩ = some (.int .i64 G)) := ⟨cell_ofB hb1 0, cell_ofB hb1 1, cell_ofB hb1 2, cell_ofB hb1 3, cell_ofB hb2 0, cell_ofB hb2 1, cell_ofB hb2 2, cell_ofB hb2 3⟩
       have B7 : Hid (Below w.heap.size w w7) := B6.out.trans (b7.mono B6.out.size)
       clear b7 hb1 hb2))
  all_goals
    go_wp2
    go_ret
    exact ⟨rfl, B7.out⟩
set_option maxRecDepth 100000 in
set_option maxHeartbeats 1000000 in
theorem walk (M G : Int) (R L : List Int) (s a : Option Addr) (cs ca : Nat) (K : Int) (w : World) (iR : IntsAt w s R) (iL : IntsAt w a L) (hR : R.length ≤ maxLen) (hL : L.length ≤ maxLen) :
    Calls Try.prog 7 #[bufV M G s a R.length L.length cs ca, .int .i64 K] w fun r w' => r = .returned (.bool true) ∧ Below w.heap.size w w' := by
  by_cases hg : goodBf M G R L = true ∧ 0 ≤ K ∧ K ≤ R.length
  · obtain ⟨k, rfl⟩ : ∃ k : Nat, K = k := ⟨K.toNat, by omega⟩
    exact core M G R L _ true s a cs ca k w iR iL hR hL (fun h s a cs ca w h1 h2 => sByteOf_yes M G R L s a cs ca k w (by omega) (by omega) h1.2.2 h2 hg.1 (by omega)) (fun h s a cs ca w h1 h2 => iByteOf_yes M G R L s a cs ca k w (by omega) (by omega) h1.2.2 h2.2.2 hg.1 (by omega))
  · exact core M G R L 0 false s a cs ca K w iR iL hR hL (fun h s a cs ca w h1 h2 => sByteOf_no M G R L s a cs ca K w (by omega) (by omega) h1.2.2 h2.2.2 hg) (fun h s a cs ca w h1 h2 => iByteOf_no M G R L s a cs ca K w (by omega) (by omega) h1.2.2 h2.2.2 hg)
set_option maxRecDepth 100000 in
theorem lifted (os : Os) (started : os.Started) (H : Type) (enc : TypeId × Value → H) :
    ReturnsInHanded {} Try.checked os 7 .any (Rows.fnExactByteOfSpec.pre6 enc Try.prog Try.f7 Rows.fnExactByteOfRow.domain false) (Rows.fnExactByteOfSpec.post enc Try.prog Try.f7 false true false false) := by
  refine returnsInHanded_of_change (C := Try.checked) own started (by kernel_rfl) Try.func7
    (ChangeSpec.witness6 (enc := enc) (C := Try.checked) false ⟨#[], #[.agg #[.int .i64 0, .slice none 0 0, .slice none 0 0, .int .i64 0], .int .i64 0], []⟩ 8 (by kernel_rfl) (by kernel_rfl) (by kernel_rfl) (by kernel_rfl)) ?_
  intro W base args ds gs before hval0 hW hcnd _
  have hval : ∀ (j : Nat) t v, Try.f7.params[j]? = some t → args[j]? = some v → Value.okWide Try.prog W .any base t v := hval0
  have hW' := hW
  obtain ⟨p, q, hA0, hV, rfl, hfz, hnd⟩ := hW
  have hA : DataW.TrodAll enc Try.prog W 0 (fun _ => true) true Try.f7.params.toList args.toList ds p := hA0
  rw [Try.params7] at hA hval
  obtain ⟨v0, vs0, d0, ds0, p0, q0, hargs0, rfl, rfl, h0, r0⟩ := trodAll_cons hA
  obtain ⟨v1, vs1, d1, ds1, p1, q1, hargs1, rfl, rfl, h1, r1⟩ := trodAll_cons r0
  obtain ⟨rfl, rfl, rfl⟩ := trodAll_nil r1
  obtain rfl : args = #[v0, v1] := by cases args; simp_all
  obtain ⟨rfl, rfl⟩ := trodVars_none hV
  have k0 := h0
  have lt0 : ∀ x ∈ p0, x.block < W.heap.size := by obtain ⟨m, hm⟩ := k0; exact DataW.trod_lt m _ _ _ hm
  obtain ⟨M, G, R, L, s, a, cs, ca, rfl, iR, iL, hR, hL⟩ := open_buf (hval 0 41 v0 rfl rfl) h0
  obtain ⟨a1, rfl, rfl, rfl, w1⟩ := open_int Try.underlying3 (hval 1 3 v1 rfl rfl) h1
  clear hA0 hval0
  refine (walk M G R L s a cs ca a1 W iR iL hR hL ).mono fun e W' ⟨he, bel⟩ => ?_
  subst he
  exact ⟨_, rfl, _, _, _, [], _, [], hW', trodAll_mk1 (shut_bool Try.underlying4 _), trodAll_cons_mk (Below.trod laidOut (by kernel_rfl) (of_decide_eq_true (by kernel_rfl)) k0 bel lt0) (trodAll_cons_mk (shut_int Try.underlying3 w1) trodAll_mk0), rfl, bel.frame _, fun h => by cases h⟩
theorem row : Rows.FnExactByteOfSaid :=
  OpenClaim.holds_of_wide 7 Try.f7 rfl rfl rfl rfl rfl rfl rfl ⟨rfl, rfl, rfl, rfl, rfl⟩ rfl rfl rfl rfl rfl (by kernel_rfl) Try.func7 (by kernel_rfl)
    (of_decide_eq_true (by kernel_rfl)) (by unfold Func.isWrapper; first | (rw [if_pos (by decide +kernel)]; kernel_rfl) | (rw [if_neg (by decide +kernel)]; exact ⟨rfl, rfl⟩))
    (fun os started H enc _ => lifted os started H enc)
end LawByteOf
theorem byteOf_holds : Rows.FnExactByteOfSaid := LawByteOf.row
#print axioms byteOf_holds
end Go.Proofs.Ytklgagonbehpeaa
