/-
  For every list of ints, laws.FnExactLeastPeriod returns true: impl.LeastPeriod answers as the specification's LeastPeriod, and the list stays as it was. No conditions.
-/
import Derived.Test.YtabjjlcjephhkaaW8M
namespace Go.Proofs.Ytabjjlcjephhkaa
open Go.ChangeShapes Go.WideShapes Go.ChangeAt Go.WideMaps Go.WideElems Go.RowKit
namespace LawLeastPeriod
theorem own : ownKnob Try.prog.godebug = none := by kernel_rfl
theorem laidOut : laidOutB Try.prog = true := by kernel_rfl
set_option maxRecDepth 100000 in
set_option maxHeartbeats 4000000 in
theorem core (L : List Int) (ao : Option Addr) (cap : Nat) (w : World) (hA : IntsAt w ao L) (hl : ¬ (1048576 : Int) < L.length) (c : Int) (ok : Bool)
    (SP : ∀ w ao cap, L.length ≤ cap → IntsAt w ao L → Calls Try.prog 17 #[.slice ao L.length cap] w fun e w' => e = .returned (.tuple #[.int .i64 c, .bool ok]) ∧ Below w.heap.size w w')
    (IM : ∀ w ao cap, L.length ≤ cap → IntsAt w ao L → Calls Try.prog 16 #[.slice ao L.length cap] w fun e w' => e = .returned (.tuple #[.int .i64 c, .bool ok]) ∧ Below w.heap.size w w') :
    Calls Try.prog 11 #[.slice ao L.length cap] w fun e w' => e = .returned (.bool true) ∧ Below w.heap.size w w' := by
  have HSP : Hid _ := SP
  have HIM : Hid _ := IM
  have HL : Hid (L.length ≤ 1048576) := by show L.length ≤ 1048576; omega
  have HA : Hid (IntsAt w ao L) := hA
  clear SP IM hA
  cases ok
  all_goals
    go_enter Try.func11, Try.ntmps11
    go_wp2_with fail
    refine (toI_any L _ _ _ HL.out HA.out).mono ?_
    rintro e w1 ⟨vP, rfl, oP, b1⟩
    have B1 : Hid (Below w.heap.size w w1) := b1
    have P1 : Hid (w1.ownsRow w.heap.size 3 1 vP L.length (ints L)) := oP
    obtain ⟨_, aP, cP, rfl, _⟩ := ints_of_own oP
    clear oP b1
    go_wp2_with fail
    refine (HSP.out _ _ _ (own_cap8 P1.out) (own_ints P1.out)).mono ?_
    rintro e w2 ⟨rfl, b2⟩
    have B2 : Hid (Below w.heap.size w w2) := B1.out.trans (b2.mono B1.out.size)
    clear b2
    go_wp2_with fail
    refine (toI_any L _ _ _ HL.out (IntsAt.keepB HA.out B2.out)).mono ?_
    rintro e w3 ⟨vX, rfl, oX, b3⟩
    have B3 : Hid (Below w.heap.size w w3) := B2.out.trans (b3.mono B2.out.size)
    have X3 : Hid (w3.ownsRow w2.heap.size 3 1 vX L.length (ints L)) := oX
    obtain ⟨_, aX, cX, rfl, _⟩ := ints_of_own oX
    clear oX b3
    go_wp2_with fail
    refine (HIM.out _ _ _ (own_cap8 X3.out) (own_ints X3.out)).mono ?_
    rintro e w4 ⟨rfl, b4⟩
    have B4 : Hid (Below w.heap.size w w4) := B3.out.trans (b4.mono B3.out.size)
    have X4 : Hid _ := World.ownsRow.keepB X3.out b4
    clear b4
    go_wp2_with fail
    refine (toI_any L _ _ _ HL.out (IntsAt.keepB HA.out B4.out)).mono ?_
    rintro e w5 ⟨vY, rfl, oY, b5⟩
    have B5 : Hid (Below w.heap.size w w5) := B4.out.trans (b5.mono B4.out.size)
    have X5 : Hid _ := World.ownsRow.keepB X4.out b5
    have Y5 : Hid (w5.ownsRow w4.heap.size 3 1 vY L.length (ints L)) := oY
    obtain ⟨_, aY, cY, rfl, _⟩ := ints_of_own oY
    clear oY b5
    go_wp2_with fail
    refine (eq_any L _ _ _ _ _ HL.out (own_ints X5.out) (own_ints Y5.out)).mono ?_
    rintro e w6 ⟨rfl, b6⟩
    have B6 : Hid (Below w.heap.size w w6) := B5.out.trans (b6.mono B5.out.size)
    clear b6
    go_wp2
    go_ret
    exact ⟨rfl, B6.out⟩
set_option maxRecDepth 100000 in
set_option maxHeartbeats 1000000 in
theorem bigS (L : List Int) (ao : Option Addr) (cap : Nat) (w : World) (hb : (1048576 : Int) < L.length) :
    Calls Try.prog 11 #[.slice ao L.length cap] w fun e w' => e = .returned (.bool true) ∧ Below w.heap.size w w' := by
  go_enter Try.func11, Try.ntmps11
  go_wp2
  go_ret
  exact ⟨rfl, Below.refl _ _⟩
theorem walk (L : List Int) (ao : Option Addr) (cap : Nat) (w : World) (hA : IntsAt w ao L) :
    Calls Try.prog 11 #[.slice ao L.length cap] w fun e w' => e = .returned (.bool true) ∧ Below w.heap.size w w' := by
  by_cases hS : (1048576 : Int) < L.length
  · exact bigS L ao cap w hS
  · have hl : L.length ≤ 1048576 := by omega
    exact core L ao cap w hA hS (perV L) (perB L) (fun w ao cap hc hA => sperOf_any L ao cap w hl hc hA) (fun w ao cap hc hA => iperOf_any L ao cap w hl hc hA)
set_option maxRecDepth 100000 in
theorem lifted (os : Os) (started : os.Started) (H : Type) (enc : TypeId × Value → H) :
    ReturnsInHanded {} Try.checked os 11 .any (Rows.fnExactLeastPeriodSpec.pre6 enc Try.prog Try.f11 Rows.fnExactLeastPeriodRow.domain false) (Rows.fnExactLeastPeriodSpec.post enc Try.prog Try.f11 false true false false) := by
  refine returnsInHanded_of_change (C := Try.checked) own started (by kernel_rfl) Try.func11
    (ChangeSpec.witness6 (enc := enc) (C := Try.checked) false ⟨#[], #[.slice none 0 0], []⟩ 8 (by kernel_rfl) (by kernel_rfl) (by kernel_rfl) (by kernel_rfl)) ?_
  intro W base args ds gs before hval0 hW hcnd _
  have hval : ∀ (j : Nat) t v, Try.f11.params[j]? = some t → args[j]? = some v → Value.okWide Try.prog W .any base t v := hval0
  have hW' := hW
  obtain ⟨p, q, hA0, hV, rfl, hfz, hnd⟩ := hW
  have hA : DataW.TrodAll enc Try.prog W 0 (fun _ => true) true Try.f11.params.toList args.toList ds p := hA0
  rw [Try.params11] at hA hval
  obtain ⟨v0, d0, rfl, rfl, h0⟩ := trodAll_one hA
  obtain ⟨rfl, rfl⟩ := trodVars_none hV
  obtain ⟨a0, len0, cap0, rfl⟩ := okWide_slice Try.underlying24 (hval 0 24 v0 rfl rfl)
  have k0 := h0
  have lt0 : ∀ x ∈ p, x.block < W.heap.size := by obtain ⟨m, hm⟩ := k0; exact DataW.trod_lt m _ _ _ hm
  obtain ⟨L, hL, i0⟩ : ∃ L : List Int, L.length = len0 ∧ IntsAt W a0 L := by obtain ⟨fuel, hf⟩ := h0; exact argI_of hf
  clear hA0 hval0
  subst hL
  refine (walk L a0 cap0 W i0).mono fun e W' ⟨he, bel⟩ => ?_
  subst he
  exact ⟨_, rfl, _, _, _, [], _, [], hW', trodAll_mk1 (shut_bool Try.underlying4 _), trodAll_mk1 (Below.trod laidOut (by kernel_rfl) (of_decide_eq_true (by kernel_rfl)) k0 bel lt0), rfl, bel.frame _, fun h => by cases h⟩
theorem row : Rows.FnExactLeastPeriodSaid :=
  OpenClaim.holds_of_wide 11 Try.f11 rfl rfl rfl rfl rfl rfl rfl ⟨rfl, rfl, rfl, rfl, rfl⟩ rfl rfl rfl rfl rfl (by kernel_rfl) Try.func11 (by kernel_rfl)
    (of_decide_eq_true (by kernel_rfl)) (by unfold Func.isWrapper; first | (rw [if_pos (by decide +kernel)]; kernel_rfl) | (rw [if_neg (by decide +kernel)]; exact ⟨rfl, rfl⟩))
    (fun os started H enc _ => lifted os started H enc)
end LawLeastPeriod
theorem leastPeriod_holds : Rows.FnExactLeastPeriodSaid := LawLeastPeriod.row
#print axioms leastPeriod_holds
end Go.Proofs.Ytabjjlcjephhkaa
