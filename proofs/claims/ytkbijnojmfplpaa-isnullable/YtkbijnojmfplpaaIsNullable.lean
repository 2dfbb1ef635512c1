/-
  For every list of nodes, laws.FnExactIsNullable returns true: impl.IsNullable answers as the specification's IsNullable, and leaves the list as it was. No conditions.
-/
import Derived.Test.YtkbijnojmfplpaaT5O
namespace Go.Proofs.Ytkbijnojmfplpaa
open Go.ChangeShapes Go.WideShapes Go.ChangeAt Go.WideMaps Go.WideElems Go.RowKit
namespace LawIsNullable
theorem own : ownKnob Try.prog.godebug = none := by kernel_rfl
theorem laidOut : laidOutB Try.prog = true := by kernel_rfl
set_option maxRecDepth 100000 in
set_option maxHeartbeats 4000000 in
theorem walk (P : List Nd) (ao : Option Addr) (cap : Nat) (w : World) (hA : ResAt w ao P) (hl : P.length ≤ maxLen) (hx : ∀ y ∈ P, y.2.length ≤ maxLen) :
    Calls Try.prog 4 #[.slice ao P.length cap] w fun e w' => e = .returned (.bool true) ∧ Below w.heap.size w w' := by
  have HA : Hid _ := hA
  have HSZ : Hid _ := szReS_any P ao cap w hl hx hA
  clear hA hl hx
  go_enter Try.func4, Try.ntmps4
  go_wp2_with fail
  refine Calls.mono HSZ.out ?_
  rintro e w1 ⟨hs, b⟩
  have B1 : Hid (Below w.heap.size w w1) := b
  clear b
  rcases hs with ⟨hs, rfl⟩ | ⟨hs, rfl⟩
  · have HS : Hid (szP P ≤ 1048576) := hs
    have hpl : P.length ≤ 1048576 := by unfold szP at hs; omega
    have hz : ¬ (1048576 : Int) - (szP P : Int) < 0 := by omega
    clear hs
    generalize szP P = z at hz
    go_wp2_with fail
    refine (toReS_any P ao cap _ HS.out (ResAt.keepB HA.out B1.out)).mono ?_
    rintro e w2 ⟨ax, cx, rfl, X2, b⟩
    have B2 : Hid (Below w.heap.size w w2) := B1.out.trans (b.mono B1.out.size)
    have RX2 : Hid _ := X2
    clear b X2
    go_wp2_with fail
    refine (snullable_any P _ _ _ HS.out RX2.out).mono ?_
    rintro e w3 ⟨rfl, b⟩
    have B3 : Hid (Below w.heap.size w w3) := B2.out.trans (b.mono B2.out.size)
    clear b
    go_wp2_with fail
    refine (toReS_any P ao cap _ HS.out (ResAt.keepB HA.out B3.out)).mono ?_
    rintro e w4 ⟨ay, cy, rfl, X4, b⟩
    have B4 : Hid (Below w.heap.size w w4) := B3.out.trans (b.mono B3.out.size)
    have RX4 : Hid _ := X4
    clear b X4
    go_wp2_with fail
    refine (inullable_any P _ _ _ HS.out RX4.out).mono ?_
    rintro e w5 ⟨rfl, b⟩
    have B5 : Hid (Below w.heap.size w w5) := B4.out.trans (b.mono B4.out.size)
    have RX5 : Hid _ := ResAt.keepB RX4.out b
    clear b
    have bb0 : (nulP P == nulP P) = true := by simp
    generalize nulP P = f0 at *
    have bb1 : (goodP P == goodP P) = true := by simp
    generalize goodP P = f1 at *
    go_wp2_with fail
    refine (toReS_any P ao cap _ HS.out (ResAt.keepB HA.out B5.out)).mono ?_
    rintro e w6 ⟨az, cz, rfl, X6, b⟩
    have B6 : Hid (Below w.heap.size w w6) := B5.out.trans (b.mono B5.out.size)
    have RX6 : Hid _ := X6
    have RY6 : Hid _ := ResAt.keepB RX5.out b
    clear b X6
    go_wp2_with fail
    refine (eqReS_any P _ _ _ _ _ HS.out RY6.out RX6.out).mono ?_
    rintro e w7 ⟨rfl, b⟩
    have B7 : Hid (Below w.heap.size w w7) := B6.out.trans (b.mono B6.out.size)
    clear b
    go_wp2
    go_ret
    exact ⟨rfl, B7.out⟩
  · go_wp2
    go_ret
    exact ⟨rfl, B1.out⟩
set_option maxRecDepth 100000 in
theorem lifted (os : Os) (started : os.Started) (H : Type) (enc : TypeId × Value → H) :
    ReturnsInHanded {} Try.checked os 4 .any (Rows.fnExactIsNullableSpec.pre6 enc Try.prog Try.f4 Rows.fnExactIsNullableRow.domain false) (Rows.fnExactIsNullableSpec.post enc Try.prog Try.f4 false true false false) := by
  refine returnsInHanded_of_change (C := Try.checked) own started (by kernel_rfl) Try.func4
    (ChangeSpec.witness6 (enc := enc) (C := Try.checked) false ⟨#[], #[.slice none 0 0], []⟩ 8 (by kernel_rfl) (by kernel_rfl) (by kernel_rfl) (by kernel_rfl)) ?_
  intro W base args ds gs before hval0 hW hcnd _
  have hval : ∀ (j : Nat) t v, Try.f4.params[j]? = some t → args[j]? = some v → Value.okWide Try.prog W .any base t v := hval0
  have hW' := hW
  obtain ⟨p, q, hA0, hV, rfl, hfz, hnd⟩ := hW
  have hA : DataW.TrodAll enc Try.prog W 0 (fun _ => true) true Try.f4.params.toList args.toList ds p := hA0
  rw [Try.params4] at hA hval
  obtain ⟨v0, d0, rfl, rfl, h0⟩ := trodAll_one hA
  obtain ⟨rfl, rfl⟩ := trodVars_none hV
  obtain ⟨a0, len0, cap0, rfl⟩ := okWide_slice Try.underlying22 (hval 0 22 v0 rfl rfl)
  have k0 := h0
  have lt0 : ∀ x ∈ p, x.block < W.heap.size := by obtain ⟨m, hm⟩ := k0; exact DataW.trod_lt m _ _ _ hm
  obtain ⟨P, hP, i0, hm0, hx0⟩ : ∃ P : List Nd, P.length = len0 ∧ ResAt W a0 P ∧ len0 ≤ maxLen ∧ ∀ y ∈ P, y.2.length ≤ maxLen := by obtain ⟨fuel, hf⟩ := h0; exact argRe_of hf
  clear hA0 hval0
  subst hP
  refine (walk P a0 cap0 W i0 hm0 hx0).mono fun e W' ⟨he, bel⟩ => ?_
  subst he
  exact ⟨_, rfl, _, _, _, [], _, [], hW', trodAll_mk1 (shut_bool Try.underlying4 _), trodAll_mk1 (Below.trod laidOut (by kernel_rfl) (of_decide_eq_true (by kernel_rfl)) k0 bel lt0), rfl, bel.frame _, fun h => by cases h⟩
theorem row : Rows.FnExactIsNullableSaid :=
  OpenClaim.holds_of_wide 4 Try.f4 rfl rfl rfl rfl rfl rfl rfl ⟨rfl, rfl, rfl, rfl, rfl⟩ rfl rfl rfl rfl rfl (by kernel_rfl) Try.func4 (by kernel_rfl)
    (of_decide_eq_true (by kernel_rfl)) (by unfold Func.isWrapper; first | (rw [if_pos (by decide +kernel)]; kernel_rfl) | (rw [if_neg (by decide +kernel)]; exact ⟨rfl, rfl⟩))
    (fun os started H enc _ => lifted os started H enc)
end LawIsNullable
theorem isNullable_holds : Rows.FnExactIsNullableSaid := LawIsNullable.row
#print axioms isNullable_holds
end Go.Proofs.Ytkbijnojmfplpaa
