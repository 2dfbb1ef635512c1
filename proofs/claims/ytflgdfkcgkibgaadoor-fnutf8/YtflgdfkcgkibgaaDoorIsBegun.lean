/-
  For every text, laws.FnExactIsBegun returns true: impl.IsBegun answers as the specification's IsBegun. Condition: the two package-level tables of forms hold what the program's text lays in them (tied to the text by the given card).
-/
import Derived.Test.YtflgdfkcgkibgaaDoorFrame
import Derived.Test.YtflgdfkcgkibgaaDoorBeg2
import Derived.Test.YtflgdfkcgkibgaaDoorBegPure2
namespace Go.Proofs.YtflgdfkcgkibgaaDoor
open Go.ChangeShapes Go.WideShapes Go.ChangeAt Go.WideMaps Go.WideElems Go.RowKit
open Go.ChangeMaps (open_string shut_string)
namespace LawIsBegun
set_option maxRecDepth 100000 in
set_option maxHeartbeats 1000000 in
theorem sbeg_of (s : ByteArray) (B : Bool) (w : World) (h : ∀ w, Calls Tryd.prog 52 #[.string s] w fun e w' => e = .returned (.bool B) ∧ Below w.heap.size w w') :
    Calls Tryd.prog 29 #[.string s] w fun e w' => e = .returned (.bool B) ∧ Below w.heap.size w w' := by
  have H : Hid _ := h
  clear h
  go_enter Tryd.func29, Tryd.ntmps29
  go_wp2_with fail
  refine (H.out _).mono ?_
  rintro e w1 ⟨rfl, hb⟩
  go_wp2
  go_ret
  exact ⟨rfl, hb⟩
set_option maxRecDepth 100000 in
set_option maxHeartbeats 1000000 in
theorem ibeg_empty (s : ByteArray) (w : World) (h : s.toList.isEmpty = true) :
    Calls Tryd.prog 16 #[.string s] w fun e w' => e = .returned (.bool false) ∧ Below w.heap.size w w' := by
  go_enter Tryd.func16, Tryd.ntmps16
  go_wp2
  go_ret
  exact ⟨rfl, Below.refl _ _⟩
set_option maxRecDepth 100000 in
set_option maxHeartbeats 1000000 in
theorem ibeg_long (s : ByteArray) (w : World) (he : s.toList.isEmpty = false) (h0 : 0 < s.size) (f : Int) (hf : formB (s[0].toNat : Int) = f) (hl : f < (s.size : Int)) (hT : Tabs w) :
    Calls Tryd.prog 16 #[.string s] w fun e w' => e = .returned (.bool false) ∧ Below w.heap.size w w' := by
  have c0 := byte_le s 0 h0
  have HT : Hid _ := hT
  have HF : Hid _ := hf
  clear hT hf
  go_enter Tryd.func16, Tryd.ntmps16
  go_wp2_with (go_at_call 38; refine (formB_any _ _ (by omega) (by omega) HT.out).mono ?_; rintro e w' ⟨rfl, rfl⟩; rw [HF.out])
  go_ret
  exact ⟨rfl, Below.refl _ _⟩
set_option maxRecDepth 100000 in
set_option maxHeartbeats 1000000 in
theorem ibeg_in (s : ByteArray) (w : World) (he : s.toList.isEmpty = false) (h0 : 0 < s.size) (f : Int) (hf : formB (s[0].toNat : Int) = f) (hl : (s.size : Int) ≤ f) (hT : Tabs w) (R : Int)
    (hR : ∀ w, Tabs w → Calls Tryd.prog 39 #[.string s, .int .i64 f] w fun e w' => e = .returned (.int .i64 R) ∧ Below w.heap.size w w') :
    Calls Tryd.prog 16 #[.string s] w fun e w' => e = .returned (.bool (goodB R && prefB (encS R) s)) ∧ Below w.heap.size w w' := by
  have c0 := byte_le s 0 h0
  have HT : Hid _ := hT
  have HF : Hid _ := hf
  have HR : Hid _ := hR
  have hl' : ¬ f < (s.size : Int) := by omega
  clear hT hf hR
  cases hg : goodB R
  · rw [Bool.false_and]
    have HG : Hid _ := hg
    clear hg
    go_enter Tryd.func16, Tryd.ntmps16
    go_wp2_with fail
    refine (formB_any _ _ (by omega) (by omega) HT.out).mono ?_
    rintro e w' ⟨rfl, rfl⟩
    rw [HF.out]
    go_wp2_with fail
    refine (HR.out _ HT.out).mono ?_
    rintro e w1 ⟨rfl, hb1⟩
    go_wp2_with fail
    refine (iutf_no R _ HG.out).mono ?_
    rintro e w2 ⟨rfl, rfl⟩
    go_wp2
    go_ret
    exact ⟨rfl, hb1⟩
  · rw [Bool.true_and]
    have HG : Hid _ := hg
    clear hg
    go_enter Tryd.func16, Tryd.ntmps16
    go_wp2_with fail
    refine (formB_any _ _ (by omega) (by omega) HT.out).mono ?_
    rintro e w' ⟨rfl, rfl⟩
    rw [HF.out]
    go_wp2_with fail
    refine (HR.out _ HT.out).mono ?_
    rintro e w1 ⟨rfl, hb1⟩
    go_wp2_with fail
    refine (iutf_any R _ HG.out (HT.out.below hb1)).mono ?_
    rintro e w2 ⟨rfl, hb2⟩
    go_wp2_with fail
    refine (hasp_any _ _ _).mono ?_
    rintro e w3 ⟨rfl, rfl⟩
    go_wp2
    go_ret
    exact ⟨rfl, hb1.trans (hb2.mono hb1.size)⟩
theorem bool_of (p : Prop) : ∃ B : Bool, B = true ↔ p := by
  by_cases h : p
  · exact ⟨true, by simp [h]⟩
  · exact ⟨false, by simp [h]⟩
/-- Both answer the same. -/
theorem both (s : ByteArray) : ∃ B : Bool, (∀ w, Calls Tryd.prog 52 #[.string s] w fun e w' => e = .returned (.bool B) ∧ Below w.heap.size w w') ∧
    (∀ w, Tabs w → Calls Tryd.prog 16 #[.string s] w fun e w' => e = .returned (.bool B) ∧ Below w.heap.size w w') := by
  have out : ((s.size : Int) = 0 ∨ (3 : Int) < s.size ∨ ∃ h0 : 0 < s.size, ((s.size : Int) == 0) = false ∧ (s.size : Int) ≤ 3 ∧ longN (s[0].toNat : Int) ≤ (s.size : Int)) →
      ∀ w, Calls Tryd.prog 52 #[.string s] w fun e w' => e = .returned (.bool false) ∧ Below w.heap.size w w' := fun h w =>
    (begun_out s w h).mono fun e w' ⟨he, hw⟩ => ⟨he, by rw [hw]; exact Below.refl _ _⟩
  by_cases h0 : 0 < s.size
  · have hne : s.toList.isEmpty = false := by
      rw [Lib.toList_data]
      cases hd : s.data.toList with
      | nil =>
        have : s.data.toList.length = s.size := by simp
        rw [hd] at this
        simp at this
        omega
      | cons a l => rfl
    have c0 := byte_le s 0 h0
    have e0 := byt_eq h0
    have hz : ((s.size : Int) == 0) = false := by rw [beq_eq_false_iff_ne]; omega
    have lo : (s[0].toNat : Int) < 192 → ∃ B : Bool, (∀ w, Calls Tryd.prog 52 #[.string s] w fun e w' => e = .returned (.bool B) ∧ Below w.heap.size w w') ∧
        (∀ w, Tabs w → Calls Tryd.prog 16 #[.string s] w fun e w' => e = .returned (.bool B) ∧ Below w.heap.size w w') := fun hb => by
      have hl : longN (s[0].toNat : Int) ≤ 1 := by unfold longN; split <;> (try split) <;> omega
      refine ⟨false, out ?_, fun w hT => ibeg_long s w hne h0 0 (by unfold formB; rw [if_pos hb]) (by omega) hT⟩
      by_cases h3 : (3 : Int) < s.size
      · exact .inr (.inl h3)
      · exact .inr (.inr ⟨h0, hz, by omega, by omega⟩)
    have long : ∀ f : Int, formB (s[0].toNat : Int) = f → f < (s.size : Int) → (3 < (s.size : Int) ∨ longN (s[0].toNat : Int) ≤ (s.size : Int)) → ∃ B : Bool, (∀ w, Calls Tryd.prog 52 #[.string s] w fun e w' => e = .returned (.bool B) ∧ Below w.heap.size w w') ∧
        (∀ w, Tabs w → Calls Tryd.prog 16 #[.string s] w fun e w' => e = .returned (.bool B) ∧ Below w.heap.size w w') := fun f hf hl hh => by
      refine ⟨false, out ?_, fun w hT => ibeg_long s w hne h0 f hf hl hT⟩
      by_cases h3 : (3 : Int) < s.size
      · exact .inr (.inl h3)
      · exact .inr (.inr ⟨h0, hz, by omega, by omega⟩)
    have inn : ∀ (f m n : Nat) (L R : Int), s.size = m → formB (s[0].toNat : Int) = f → (m : Int) ≤ f → 1 ≤ m → m ≤ 3 → (n = 1 ∨ n = 2 ∨ n = 3) → longN (s[0].toNat : Int) = L → ((m + n : Nat) : Int) = L →
        ((L = 2 ∧ 192 ≤ byt s 0 ∧ byt s 0 < 224) ∨ (L = 3 ∧ 224 ≤ byt s 0 ∧ byt s 0 < 240) ∨ (L = 4 ∧ 240 ≤ byt s 0 ∧ byt s 0 < 248)) →
        (∀ w, Tabs w → Calls Tryd.prog 39 #[.string s, .int .i64 f] w fun e w' => e = .returned (.int .i64 R) ∧ Below w.heap.size w w') →
        ((goodB R && prefB (encS R) s) = true ↔ BegP m (byt s 0) (byt s 1) (byt s 2)) →
        ∃ B : Bool, (∀ w, Calls Tryd.prog 52 #[.string s] w fun e w' => e = .returned (.bool B) ∧ Below w.heap.size w w') ∧
          (∀ w, Tabs w → Calls Tryd.prog 16 #[.string s] w fun e w' => e = .returned (.bool B) ∧ Below w.heap.size w w') :=
      fun f m n L R hm hf hle h1 h3 hn hL hLn hr hR hiff =>
        ⟨goodB R && prefB (encS R) s,
          fun w => begun_in s n L _ w h0 (by omega) hL hn (by omega) (fun k k0 k1 hk => hiff.2 (hit_beg s m n L k hm h1 h3 (by omega) hLn hr (by omega) (by omega) hk)) (fun hB => beg_hit s m n L hm h1 h3 (by omega) hLn hr (hiff.1 hB)),
          fun w hT => ibeg_in s w hne h0 f hf (by omega) hT R hR⟩
    rcases (by omega : (s[0].toNat : Int) < 192 ∨ (192 ≤ (s[0].toNat : Int) ∧ (s[0].toNat : Int) < 224) ∨ (224 ≤ (s[0].toNat : Int) ∧ (s[0].toNat : Int) < 240) ∨ (240 ≤ (s[0].toNat : Int) ∧ (s[0].toNat : Int) < 248) ∨ 248 ≤ (s[0].toNat : Int)) with h | ⟨h, h'⟩ | ⟨h, h'⟩ | ⟨h, h'⟩ | h
    · exact lo h
    · have hform : formB (s[0].toNat : Int) = 1 := by unfold formB; rw [if_neg (by omega), if_pos (by omega)]
      have hlong : longN (s[0].toNat : Int) = 2 := by unfold longN; rw [if_neg (by omega), if_neg (by omega), if_pos (by omega)]
      by_cases hbig : 1 < s.size
      · exact long 1 hform (by omega) (by omega)
      · have hm : s.size = 1 := by omega
        exact inn 1 1 1 2 (max (((s[0].toNat : Int) - 192) * 64) 128) hm hform (by omega) (by omega) (by omega) (.inl rfl) hlong rfl (.inl ⟨rfl, by omega, by omega⟩) (fun w hT => least_11 s w h0 (by omega) h hT) (imp_11 s hm (by omega) (by omega) _ (by (try rw [e0]); first | done | rfl))
    · have hform : formB (s[0].toNat : Int) = 2 := by unfold formB; rw [if_neg (by omega), if_neg (by omega), if_pos (by omega)]
      have hlong : longN (s[0].toNat : Int) = 3 := by unfold longN; rw [if_neg (by omega), if_neg (by omega), if_neg (by omega), if_pos (by omega)]
      by_cases hbig : 2 < s.size
      · exact long 2 hform (by omega) (by omega)
      · rcases (by omega : s.size = 1 ∨ s.size = 2) with hm | hm
        · skip
          exact inn 2 1 2 3 (max (((s[0].toNat : Int) - 224) * 64 * 64) 2048) hm hform (by omega) (by omega) (by omega) (.inr (.inl rfl)) hlong rfl (.inr (.inl ⟨rfl, by omega, by omega⟩)) (fun w hT => least_21 s w h0 (by omega) h hT) (imp_21 s hm (by omega) (by omega) _ (by (try rw [e0]); first | done | rfl))
        · skip
          have h1 : 1 < s.size := by omega
          have e1 := byt_eq h1
          exact inn 2 2 1 3 (max ((((s[0].toNat : Int) - 224) * 64 + (s[1].toNat : Int) % 64) * 64) 2048) hm hform (by omega) (by omega) (by omega) (.inl rfl) hlong rfl (.inr (.inl ⟨rfl, by omega, by omega⟩)) (fun w hT => least_22 s w h0 h1 (by omega) h hT) (imp_22 s hm (by omega) (by omega) _ (by (try rw [e0, e1]); first | done | rfl))
    · have hform : formB (s[0].toNat : Int) = 3 := by unfold formB; rw [if_neg (by omega), if_neg (by omega), if_neg (by omega)]
      have hlong : longN (s[0].toNat : Int) = 4 := by unfold longN; rw [if_neg (by omega), if_neg (by omega), if_neg (by omega), if_neg (by omega), if_pos (by omega)]
      by_cases hbig : 3 < s.size
      · exact long 3 hform (by omega) (by omega)
      · rcases (by omega : s.size = 1 ∨ s.size = 2 ∨ s.size = 3) with hm | hm | hm
        · skip
          exact inn 3 1 3 4 (max (((s[0].toNat : Int) - 240) * 64 * 64 * 64) 65536) hm hform (by omega) (by omega) (by omega) (.inr (.inr rfl)) hlong rfl (.inr (.inr ⟨rfl, by omega, by omega⟩)) (fun w hT => least_31 s w h0 (by omega) h hT) (imp_31 s hm (by omega) (by omega) _ (by (try rw [e0]); first | done | rfl))
        · skip
          have h1 : 1 < s.size := by omega
          have e1 := byt_eq h1
          exact inn 3 2 2 4 (max ((((s[0].toNat : Int) - 240) * 64 + (s[1].toNat : Int) % 64) * 64 * 64) 65536) hm hform (by omega) (by omega) (by omega) (.inr (.inl rfl)) hlong rfl (.inr (.inr ⟨rfl, by omega, by omega⟩)) (fun w hT => least_32 s w h0 h1 (by omega) h hT) (imp_32 s hm (by omega) (by omega) _ (by (try rw [e0, e1]); first | done | rfl))
        · skip
          have h1 : 1 < s.size := by omega
          have e1 := byt_eq h1
          have h2 : 2 < s.size := by omega
          have e2 := byt_eq h2
          exact inn 3 3 1 4 (max (((((s[0].toNat : Int) - 240) * 64 + (s[1].toNat : Int) % 64) * 64 + (s[2].toNat : Int) % 64) * 64) 65536) hm hform (by omega) (by omega) (by omega) (.inl rfl) hlong rfl (.inr (.inr ⟨rfl, by omega, by omega⟩)) (fun w hT => least_33 s w h0 h1 h2 (by omega) h hT) (imp_33 s hm (by omega) (by omega) _ (by (try rw [e0, e1, e2]); first | done | rfl))
    · have hform : formB (s[0].toNat : Int) = 3 := by unfold formB; rw [if_neg (by omega), if_neg (by omega), if_neg (by omega)]
      have hlong : longN (s[0].toNat : Int) = 0 := by unfold longN; rw [if_neg (by omega), if_neg (by omega), if_neg (by omega), if_neg (by omega), if_neg (by omega)]
      by_cases hbig : 3 < s.size
      · exact long 3 hform (by omega) (by omega)
      · have no : ∀ R, 2097152 ≤ R → (goodB R && prefB (encS R) s) = false := fun R hR => by rw [show goodB R = false from goodB_no (by omega), Bool.false_and]
        have hspec : ∀ w, Calls Tryd.prog 52 #[.string s] w fun e w' => e = .returned (.bool false) ∧ Below w.heap.size w w' := out (.inr (.inr ⟨h0, hz, by omega, by omega⟩))
        rcases (by omega : s.size = 1 ∨ s.size = 2 ∨ s.size = 3) with hm | hm | hm
        · skip
          refine ⟨false, hspec, fun w hT => ?_⟩
          rw [← no (max (((s[0].toNat : Int) - 240) * 64 * 64 * 64) 65536) (by omega)]
          exact ibeg_in s w hne h0 3 hform (by omega) hT _ (fun w hT => least_31 s w h0 (by omega) (by omega) hT)
        · skip
          have h1 : 1 < s.size := by omega
          have q1 := byte_le s 1 h1
          refine ⟨false, hspec, fun w hT => ?_⟩
          rw [← no (max ((((s[0].toNat : Int) - 240) * 64 + (s[1].toNat : Int) % 64) * 64 * 64) 65536) (by omega)]
          exact ibeg_in s w hne h0 3 hform (by omega) hT _ (fun w hT => least_32 s w h0 h1 (by omega) (by omega) hT)
        · skip
          have h1 : 1 < s.size := by omega
          have q1 := byte_le s 1 h1
          have h2 : 2 < s.size := by omega
          have q2 := byte_le s 2 h2
          refine ⟨false, hspec, fun w hT => ?_⟩
          rw [← no (max (((((s[0].toNat : Int) - 240) * 64 + (s[1].toNat : Int) % 64) * 64 + (s[2].toNat : Int) % 64) * 64) 65536) (by omega)]
          exact ibeg_in s w hne h0 3 hform (by omega) hT _ (fun w hT => least_33 s w h0 h1 h2 (by omega) (by omega) hT)
  · have he : s.toList.isEmpty = true := by
      rw [Lib.toList_data]
      have : s.data.toList.length = s.size := by simp
      cases hd : s.data.toList with
      | nil => rfl
      | cons a l =>
        rw [hd] at this
        simp at this
        omega
    exact ⟨false, out (.inl (by omega)), fun w _ => ibeg_empty s w he⟩
set_option maxRecDepth 100000 in
set_option maxHeartbeats 1000000 in
theorem walk (s : ByteArray) (_hz : s.size ≤ maxLen) (w : World) (hT : Tabs w) :
    Calls Tryd.prog 7 #[.string s] w fun e w' => e = .returned (.bool true) ∧ Below w.heap.size w w' := by
  by_cases hbig : (1048576 : Int) < s.size
  · clear hT
    go_enter Tryd.func7, Tryd.ntmps7
    go_wp2
    go_ret
    exact ⟨rfl, Below.refl _ _⟩
  · have HT : Hid _ := hT
    obtain ⟨B, h1, h2⟩ := both s
    have H1 : Hid _ := h1
    have H2 : Hid _ := h2
    clear hT h1 h2
    cases B
    all_goals
      go_enter Tryd.func7, Tryd.ntmps7
      go_wp2_with fail
      refine (sbeg_of s _ _ H1.out).mono ?_
      rintro e w1 ⟨rfl, hb1⟩
      go_wp2_with fail
      refine (H2.out _ (HT.out.below hb1)).mono ?_
      rintro e w2 ⟨rfl, hb2⟩
      go_wp2
      go_ret
      exact ⟨rfl, hb1.trans (hb2.mono hb1.size)⟩
set_option maxRecDepth 100000 in
theorem lifted (os : Os) (started : os.Started) (H : Type) (enc : TypeId × Value → H) :
    ReturnsInHanded {} Tryd.checked os 7 .any (fun w args => (Rows.fnExactIsBegunSpec.pre enc Tryd.prog Tryd.f7 [] false w args ∧ laidMetH Tryd.prog laid2 w) ∧ sizedMet enc Tryd.prog Tryd.f7 (OpenSpec.ofChange Rows.fnExactIsBegunSpec) false w args)
      (Rows.fnExactIsBegunSpec.post enc Tryd.prog Tryd.f7 false true false false) := by
  refine returnsInHanded_of_change_and (C := Tryd.checked) (X := fun w _ => laidMetH Tryd.prog laid2 w) (fun _ _ _ hh h => h.of_heap hh) own started (by kernel_rfl) Tryd.func7
    (ChangeSpec.witness_shaped (enc := enc) (C := Tryd.checked) (os := os) (X := fun w _ => laidMetH Tryd.prog laid2 w) false (World.doorLaid Tryd.prog 400 os) #[.string ByteArray.empty] 8 rfl (World.shaped_of_RefB (by kernel_rfl) (by kernel_rfl)) (by kernel_rfl) (by kernel_rfl) (by kernel_rfl) (door_met os _)) ?_
  intro W base args ds gs before hval0 hW _ _ hL _
  have hval : ∀ (j : Nat) t v, Tryd.f7.params[j]? = some t → args[j]? = some v → Value.okWide Tryd.prog W .any base t v := hval0
  have hW' := hW
  obtain ⟨p, q, hA0, hV0, rfl, hfz, hnd⟩ := hW
  have hA : DataW.TrodAll enc Tryd.prog W 0 (fun _ => true) true Tryd.f7.params.toList args.toList ds p := hA0
  have hV : DataW.TrodVars enc Tryd.prog W (fun _ => true) vars2 gs q := hV0
  rw [Tryd.params7] at hA hval
  obtain ⟨v0, d0, rfl, rfl, h0⟩ := trodAll_one hA
  obtain ⟨x0, rfl, rfl, rfl, w0⟩ := open_string Tryd.underlying9 (hval 0 9 v0 rfl rfl) h0
  obtain ⟨g, t, cs, fuel, d, q1, g', t', cs', fuel', d', q2, rfl, _⟩ := trodVars_two hV
  clear hA0 hval0
  refine (walk x0 w0 W (tabs_of_laid hL)).mono fun e W' ⟨he, bel⟩ => ?_
  subst he
  exact ⟨_, rfl, _, _, _, [], [], q, hW', trodAll_mk1 (shut_bool Tryd.underlying4 _), trodAll_mk1 (shut_string Tryd.underlying9 w0), bel.trodVars laidOut (by kernel_rfl) hV, bel.frame _, fun h => by cases h⟩
theorem row : Rows.FnExactIsBegunSaid :=
  OpenClaim.holds_of_wide 7 Tryd.f7 rfl rfl rfl rfl rfl rfl rfl ⟨rfl, rfl, rfl, rfl, rfl⟩ rfl rfl rfl rfl rfl (by kernel_rfl) Tryd.func7 (by kernel_rfl)
    (of_decide_eq_true (by kernel_rfl)) (by unfold Func.isWrapper; first | (rw [if_pos (by decide +kernel)]; kernel_rfl) | (rw [if_neg (by decide +kernel)]; exact ⟨rfl, rfl⟩))
    (fun os started H enc _ => lifted os started H enc)
end LawIsBegun
theorem isBegun_card : Rows.FnExactIsBegunCardSaid :=
  Claim7.holds_tied_plain_at .later [] [.data, .data] true Rows.fnExactIsBegunCard.stood.harness false
    LawIsBegun.row (fun _ h => by cases h) (by kernel_rfl) (fun _ h => by cases h) fnExactIsBegun_row_tie rfl ⟨rfl, rfl⟩ (by kernel_rfl) rfl
    (fun f fn hf hfn => by
      obtain rfl : f = 7 := Option.some.inj ((show Tryd.prog.funcNamed "loop.example/g00692/laws.FnExactIsBegun" = some 7 by kernel_rfl).symm.trans hf) |>.symm
      obtain rfl : fn = Tryd.f7 := (Option.some.inj (Tryd.func7.symm.trans hfn)).symm
      exact ⟨by kernel_rfl, fun j t ht => by
        rw [Tryd.params7] at ht
        have hm : t ∈ [9] := by simpa using Array.mem_of_getElem? ht
        have hall : ([9].all fun u => !Tryd.prog.wantsStandIn u) = true := by kernel_rfl
        exact (show Tryd.prog.wantsStandIn t = false by simpa using List.all_eq_true.1 hall t hm)⟩)
    (by kernel_rfl)
#print axioms isBegun_card
end Go.Proofs.YtflgdfkcgkibgaaDoor
