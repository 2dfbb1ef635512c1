/-
  For every list of ints, laws.FnExactTextOf returns true: impl.TextOf answers as the specification's TextOf, text and flag, and leaves its argument as it was. Condition: the two package-level tables of forms hold what the program's text lays in them (tied to the text by the given card).
-/
import Derived.Test.YtflgdfkcgkibgaaDoorFrame
import Derived.Test.YtflgdfkcgkibgaaDoorTof
import Derived.Test.YtflgdfkcgkibgaaDoorEq
import Derived.ChangeOld
namespace Go.Proofs.YtflgdfkcgkibgaaDoor
open Go.ChangeShapes Go.WideShapes Go.ChangeAt Go.WideMaps Go.WideElems Go.RowKit
/-- The first k numbers of L, then zeros, as many as L has. -/
def cp2 (L : List Int) (k : Nat) : List Int := (List.range L.length).map fun i => if i < k then L.getD i 0 else 0
theorem cp2_len (L : List Int) (k : Nat) : (cp2 L k).length = L.length := by simp [cp2]
theorem cp2_at (L : List Int) (k i : Nat) (h : i < L.length) : (cp2 L k)[i]? = some (if i < k then L.getD i 0 else 0) := by simp [cp2, h]
theorem cp2_all (L : List Int) : cp2 L L.length = L := by
  apply List.ext_getElem?
  intro i
  by_cases h : i < L.length
  · rw [cp2_at L _ i h, if_pos h]; simp [List.getD, h]
  · rw [List.getElem?_eq_none (by rw [cp2_len]; omega), List.getElem?_eq_none (by omega)]
theorem cp2_step (L : List Int) (k : Nat) (h : k < L.length) : (ints (cp2 L k)).set k (.int .i64 (L.getD k 0)) = ints (cp2 L (k + 1)) := by
  apply List.ext_getElem?
  intro i
  rw [List.getElem?_set]
  by_cases hi : i < L.length
  · simp only [ints, List.getElem?_map, cp2_at L _ i hi, List.length_map, cp2_len]
    by_cases e : k = i
    · subst e; simp [hi]
    · simp only [e, if_false, Option.map_some]
      by_cases h2 : i < k
      · rw [if_pos h2, if_pos (by omega)]
      · rw [if_neg h2, if_neg (by omega)]
  · have n1 : (ints (cp2 L k))[i]? = none := List.getElem?_eq_none (by simp [ints, cp2_len]; omega)
    have n2 : (ints (cp2 L (k + 1)))[i]? = none := List.getElem?_eq_none (by simp [ints, cp2_len]; omega)
    rw [n1, n2, if_neg (by omega)]
theorem cp2_made (L : List Int) : (madeCells #[Value.int .i64 0] L.length).toList = ints (cp2 L 0) := by
  rw [toList_madeCells_one]
  apply List.ext_getElem?
  intro i
  by_cases h : i < L.length
  · simp [ints, cp2_at L 0 i h, h]
  · rw [List.getElem?_eq_none (by simp; omega), List.getElem?_eq_none (by simp [ints, cp2_len]; omega)]
set_option maxRecDepth 100000 in
set_option maxHeartbeats 1000000 in
theorem copy_any (L : List Int) (ao : Option Addr) (cap : Nat) (w : World) (hl : L.length ≤ 1048576) (hA : IntsAt w ao L) :
    Calls Tryd.prog 30 #[.slice ao L.length cap] w fun e w' => ∃ v, e = .returned v ∧ w'.ownsRow w.heap.size 3 1 v L.length (ints L) ∧ Below w.heap.size w w' := by
  obtain ⟨i0, hi, hz0, hz1, hz2⟩ := info_parts Tryd.info3
  have HA : Hid _ := hA
  clear hA
  go_enter Tryd.func30, Tryd.ntmps30
  go_wp2_with (at_make; refine wpList_make_full _ rfl _ _ 32 rfl w.heap.size 3 i0 (.int .i64 0) 1 Tryd.underlying32 hi hz0 hz1 _ _ _ _ L.length rfl rfl rfl rfl (by rw [hz2]; omega) (by unfold maxLen; omega) (Nat.le_refl _) ?_)
  intro w1 hown1 hg1
  have hb1 : Below w.heap.size w w1 := Below.grown (Below.refl _ _) hg1 (Nat.le_refl _) (fun k hk => by cases hk)
  clear hg1
  rw [cp2_made L] at hown1
  go_wp2
  go_loopw [4] (fun i wr => ∃ k : Nat, k ≤ L.length ∧ i = .int .i64 k ∧ wr.ownsRow w.heap.size 3 1 (.slice (some ⟨w.heap.size, 0, none⟩) L.length L.length) L.length (ints (cp2 L k)) ∧ Below w.heap.size w wr) (fun i _ => L.length - (intOf i).toNat)
  case atStart => exact ⟨0, Nat.zero_le _, rfl, hown1, hb1⟩
  case round =>
    clear hown1 hb1
    obtain ⟨k, hk, rfl, hown, hbw⟩ := hrel
    by_cases hlt : k < L.length
    · have hltI : (k : Int) < (L.length : Int) := by omega
      obtain ⟨b1, o1, rfl, l1, h1⟩ := HA.out k hlt
      have g1 : wr.cell? ⟨b1, o1 + k, none⟩ = some (.int .i64 (L.getD k 0)) := (hbw.cell (p := ⟨b1, o1 + k, none⟩) l1).trans h1
      have hfz := hown.frozenAt k
      have hcell := hown.cellAt k (by omega)
      have hget : (ints (cp2 L k))[k]? = some (.int .i64 0) := by simp [ints, cp2_at L k k hlt]
      rw [hget] at hcell
      have hst := hown.stored k (.int .i64 (L.getD k 0))
      rw [cp2_step L k hlt] at hst
      have HST : Hid _ := hst.1
      have HB : Hid (Below w.heap.size w (wr.setCell ⟨w.heap.size, k, none⟩ (.int .i64 (L.getD k 0)))) := hbw.setCell (Nat.le_refl _) _
      clear hst hown hget h1 hbw
      generalize L.getD k 0 = x at *
      go_wp2
      go_roundw
      case rel => exact ⟨k + 1, by omega, by go_num, HST.out, HB.out⟩
      case measure => simp [intOf]; omega
    · obtain rfl : k = L.length := by omega
      rw [cp2_all] at hown
      go_wp2
      go_ret
      exact ⟨_, rfl, hown, hbw⟩
namespace LawTextOf
set_option maxRecDepth 100000 in
set_option maxHeartbeats 2000000 in
theorem walk (L : List Int) (ao : Option Addr) (cap : Nat) (w : World) (hA : IntsAt w ao L) (hT : Tabs w) :
    Calls Tryd.prog 6 #[.slice ao L.length cap] w fun e w' => e = .returned (.bool true) ∧ Below w.heap.size w w' := by
  by_cases hbig : (1048576 : Int) < L.length
  · clear hT hA
    go_enter Tryd.func6, Tryd.ntmps6
    go_wp2
    go_ret
    exact ⟨rfl, Below.refl _ _⟩
  · have HT : Hid _ := hT
    have HA : Hid _ := hA
    have HL : Hid (L.length ≤ 1048576) := by show L.length ≤ 1048576; omega
    have IT : Hid (∀ ao' cap' w', IntsAt w' ao' L → Tabs w' → Calls Tryd.prog 23 #[.slice ao' L.length cap'] w' fun e w'' => e = .returned (.tuple #[.string (tS L), .bool (tB L)]) ∧ Below w'.heap.size w' w'') := fun ao' cap' w' h1 h2 => by
      by_cases h : L.length ≤ 1000
      · exact itext_any L ao' cap' w' h h1 h2
      · exact itext_big L ao' cap' w' (by omega)
    clear hT hA
    go_enter Tryd.func6, Tryd.ntmps6
    go_wp2_with fail
    refine (copy_any L _ _ _ HL.out HA.out).mono ?_
    rintro e w1 ⟨v1, rfl, o1, b1⟩
    have B1 : Hid _ := b1
    obtain ⟨_, a1, c1, rfl, i1⟩ := ints_of_own o1
    have I1 : Hid _ := i1
    clear o1 b1 i1
    go_wp2_with fail
    refine (stext_any L _ _ _ HL.out I1.out).mono ?_
    rintro e w2 ⟨rfl, b2⟩
    have B2 : Hid (Below w.heap.size w w2) := Below.trans B1.out (b2.mono (Below.size B1.out))
    clear b2 I1
    go_wp2_with fail
    refine (copy_any L _ _ _ HL.out (IntsAt.below HA.out B2.out)).mono ?_
    rintro e w3 ⟨v3, rfl, o3, b3⟩
    have B3 : Hid (Below w.heap.size w w3) := Below.trans B2.out (b3.mono (Below.size B2.out))
    obtain ⟨_, a3, c3, rfl, i3⟩ := ints_of_own o3
    have I3 : Hid _ := i3
    clear o3 b3 i3
    go_wp2_with fail
    refine (IT.out _ _ _ I3.out (Tabs.below HT.out B3.out)).mono ?_
    rintro e w4 ⟨rfl, b4⟩
    have B4 : Hid (Below w.heap.size w w4) := Below.trans B3.out (b4.mono (Below.size B3.out))
    have I4 : Hid _ := IntsAt.below I3.out b4
    clear b4
    generalize tS L = ts at *
    generalize tB L = tb at *
    cases tb
    all_goals
      go_wp2_with fail
      refine (copy_any L _ _ _ HL.out (IntsAt.below HA.out B4.out)).mono ?_
      rintro e w5 ⟨v5, rfl, o5, b5⟩
      have B5 : Hid (Below w.heap.size w w5) := Below.trans B4.out (b5.mono (Below.size B4.out))
      have I4' : Hid _ := IntsAt.below I4.out b5
      obtain ⟨_, a5, c5, rfl, i5⟩ := ints_of_own o5
      have I5 : Hid _ := i5
      clear o5 b5 i5
      go_wp2_with fail
      refine (eq_any L _ _ _ _ _ HL.out I4'.out I5.out).mono ?_
      rintro e w6 ⟨rfl, b6⟩
      have B6 : Hid (Below w.heap.size w w6) := Below.trans B5.out (b6.mono (Below.size B5.out))
      clear b6
      go_wp2
      go_ret
      exact ⟨rfl, B6.out⟩
set_option maxRecDepth 100000 in
theorem lifted (os : Os) (started : os.Started) (H : Type) (enc : TypeId × Value → H) :
    ReturnsInHanded {} Tryd.checked os 6 .any (fun w args => (Rows.fnExactTextOfSpec.pre enc Tryd.prog Tryd.f6 [] false w args ∧ laidMetH Tryd.prog laid2 w) ∧ sizedMet enc Tryd.prog Tryd.f6 (OpenSpec.ofChange Rows.fnExactTextOfSpec) false w args)
      (Rows.fnExactTextOfSpec.post enc Tryd.prog Tryd.f6 false true false false) := by
  refine returnsInHanded_of_change_and (C := Tryd.checked) (X := fun w _ => laidMetH Tryd.prog laid2 w) (fun _ _ _ hh h => h.of_heap hh) own started (by kernel_rfl) Tryd.func6
    (ChangeSpec.witness_shaped (enc := enc) (C := Tryd.checked) (os := os) (X := fun w _ => laidMetH Tryd.prog laid2 w) false (World.doorLaid Tryd.prog 400 os) #[.slice none 0 0] 8 rfl (World.shaped_of_RefB (by kernel_rfl) (by kernel_rfl)) (by kernel_rfl) (by kernel_rfl) (by kernel_rfl) (door_met os _)) ?_
  intro W base args ds gs before hval0 hW _ _ hL _
  have hval : ∀ (j : Nat) t v, Tryd.f6.params[j]? = some t → args[j]? = some v → Value.okWide Tryd.prog W .any base t v := hval0
  have hW' := hW
  obtain ⟨p, q, hA0, hV0, rfl, hfz, hnd⟩ := hW
  have hA : DataW.TrodAll enc Tryd.prog W 0 (fun _ => true) true Tryd.f6.params.toList args.toList ds p := hA0
  have hV : DataW.TrodVars enc Tryd.prog W (fun _ => true) vars2 gs q := hV0
  rw [Tryd.params6] at hA hval
  obtain ⟨v0, vs0, d0, ds0, p0, q0, hargs, rfl, rfl, h0, r0⟩ := trodAll_cons hA
  obtain ⟨rfl, rfl, rfl⟩ := trodAll_nil r0
  obtain rfl : args = #[v0] := by cases args; simp_all
  obtain ⟨g, t, cs, fuel, d, q1, g', t', cs', fuel', d', q2, rfl, _⟩ := trodVars_two hV
  obtain ⟨a0, len0, cap0, rfl⟩ := okWide_slice Tryd.underlying32 (hval 0 32 v0 rfl rfl)
  have k0 := h0
  have lt0 : ∀ x ∈ p0, x.block < W.heap.size := by obtain ⟨m, hm⟩ := k0; exact DataW.trod_lt m _ _ _ hm
  obtain ⟨L, hlen, hI⟩ : ∃ L : List Int, len0 = L.length ∧ IntsAt W a0 L := by
    obtain ⟨fuel, hf⟩ := h0
    rcases open_ints Tryd.underlying32 Tryd.underlying3 (by kernel_rfl) hf with ⟨hcs, _⟩ | ⟨x, l, c, zs, hcs, _, hl, hm, hz, _, hcell, hwz⟩
    · simp [Value.cells] at hcs
      obtain ⟨rfl, rfl, rfl⟩ := hcs
      exact ⟨[], rfl, fun j hj => absurd hj (by simp)⟩
    · simp [Value.cells] at hcs
      obtain ⟨rfl, rfl, rfl⟩ := hcs
      have hz' : zs.length = cap0 := by simpa using hz
      refine ⟨zs.take len0, by rw [List.length_take]; omega, fun j hj => ?_⟩
      rw [List.length_take] at hj
      obtain ⟨b, off, rfl, hc⟩ := ints_at hcell (by omega)
      have hcj := hc j (by omega)
      refine ⟨b, off, rfl, World.block_lt_of_cell? W _ hcj, ?_⟩
      have e : (zs.take len0).getD j 0 = zs.getD j 0 := by simp [List.getD, show j < len0 by omega]
      rw [e]
      exact hcj
  subst hlen
  clear hA0 hval0
  refine (walk L a0 cap0 W hI (tabs_of_laid hL)).mono fun e W' ⟨he, bel⟩ => ?_
  subst he
  exact ⟨_, rfl, _, _, _, [], _, q, hW', trodAll_mk1 (shut_bool Tryd.underlying4 _), (trodAll_cons_mk (Below.trod laidOut (by kernel_rfl) (of_decide_eq_true (by kernel_rfl)) k0 bel lt0) trodAll_mk0), bel.trodVars laidOut (by kernel_rfl) hV, bel.frame _, fun h => by cases h⟩
theorem row : Rows.FnExactTextOfSaid :=
  OpenClaim.holds_of_wide 6 Tryd.f6 rfl rfl rfl rfl rfl rfl rfl ⟨rfl, rfl, rfl, rfl, rfl⟩ rfl rfl rfl rfl rfl (by kernel_rfl) Tryd.func6 (by kernel_rfl)
    (of_decide_eq_true (by kernel_rfl)) (by unfold Func.isWrapper; first | (rw [if_pos (by decide +kernel)]; kernel_rfl) | (rw [if_neg (by decide +kernel)]; exact ⟨rfl, rfl⟩))
    (fun os started H enc _ => lifted os started H enc)
end LawTextOf
theorem textOf_card : Rows.FnExactTextOfCardSaid :=
  Claim7.holds_tied_plain_at .later [] [.data, .data] true Rows.fnExactTextOfCard.stood.harness false
    LawTextOf.row (fun _ h => by cases h) (by kernel_rfl) (fun _ h => by cases h) fnExactTextOf_row_tie rfl ⟨rfl, rfl⟩ (by kernel_rfl) rfl
    (fun f fn hf hfn => by
      obtain rfl : f = 6 := Option.some.inj ((show Tryd.prog.funcNamed "loop.example/g00692/laws.FnExactTextOf" = some 6 by kernel_rfl).symm.trans hf) |>.symm
      obtain rfl : fn = Tryd.f6 := (Option.some.inj (Tryd.func6.symm.trans hfn)).symm
      exact ⟨by kernel_rfl, fun j t ht => by
        rw [Tryd.params6] at ht
        have hm : t ∈ [32] := by simpa using Array.mem_of_getElem? ht
        have hall : ([32].all fun u => !Tryd.prog.wantsStandIn u) = true := by kernel_rfl
        exact (show Tryd.prog.wantsStandIn t = false by simpa using List.all_eq_true.1 hall t hm)⟩)
    (by kernel_rfl)
#print axioms textOf_card
end Go.Proofs.YtflgdfkcgkibgaaDoor
