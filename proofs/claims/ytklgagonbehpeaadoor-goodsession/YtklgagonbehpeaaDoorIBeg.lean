/-
  Contract of impl.IsBegun, by the plain function begB.
-/
import Derived.Test.YtklgagonbehpeaaDoorUtf
import Derived.Test.YtklgagonbehpeaaDoorBeg2
import Derived.Test.YtklgagonbehpeaaDoorBegPure2
import Derived.Test.YtklgagonbehpeaaDoorD2Pure
namespace Go.Proofs.YtklgagonbehpeaaDoor
open Go.ChangeShapes Go.WideShapes Go.ChangeAt Go.WideMaps Go.WideElems Go.RowKit
set_option maxRecDepth 100000 in
set_option maxHeartbeats 1000000 in
theorem ibeg_empty (s : ByteArray) (w : World) (h : s.toList.isEmpty = true) :
    Calls Tryd.prog 37 #[.string s] w fun e w' => e = .returned (.bool false) ∧ Below w.heap.size w w' := by
  go_enter Tryd.func37, Tryd.ntmps37
  go_wp2
  go_ret
  exact ⟨rfl, Below.refl _ _⟩
set_option maxRecDepth 100000 in
set_option maxHeartbeats 1000000 in
theorem ibeg_long (s : ByteArray) (w : World) (he : s.toList.isEmpty = false) (h0 : 0 < s.size) (f : Int) (hf : formB (s[0].toNat : Int) = f) (hl : f < (s.size : Int)) (hT : Tabs w) :
    Calls Tryd.prog 37 #[.string s] w fun e w' => e = .returned (.bool false) ∧ Below w.heap.size w w' := by
  have c0 := byte_le s 0 h0
  have HT : Hid _ := hT
  have HF : Hid _ := hf
  clear hT hf
  go_enter Tryd.func37, Tryd.ntmps37
  go_wp2_with (go_at_call 41; refine (formB_any _ _ (by omega) (by omega) HT.out).mono ?_; rintro e w' ⟨rfl, rfl⟩; rw [HF.out])
  go_ret
  exact ⟨rfl, Below.refl _ _⟩
set_option maxRecDepth 100000 in
set_option maxHeartbeats 1000000 in
theorem ibeg_in (s : ByteArray) (w : World) (he : s.toList.isEmpty = false) (h0 : 0 < s.size) (f : Int) (hf : formB (s[0].toNat : Int) = f) (hl : (s.size : Int) ≤ f) (hT : Tabs w) (R : Int)
    (hR : ∀ w, Tabs w → Calls Tryd.prog 43 #[.string s, .int .i64 f] w fun e w' => e = .returned (.int .i64 R) ∧ Below w.heap.size w w') :
    Calls Tryd.prog 37 #[.string s] w fun e w' => e = .returned (.bool (goodB R && prefB (encS R) s)) ∧ Below w.heap.size w w' := by
  have c0 := byte_le s 0 h0
  have HT : Hid _ := hT
  have HF : Hid _ := hf
  have HR : Hid _ := hR
  have hl' : ¬ f < (s.size : Int) := by omega
  clear hT hf hR
  cases hg : goodB R
  · rw [Bool.false_and]
    have HG : Hid _ := hg
    clear hg
    go_enter Tryd.func37, Tryd.ntmps37
    go_wp2_with fail
    refine (formB_any _ _ (by omega) (by omega) HT.out).mono ?_
    rintro e w' ⟨rfl, rfl⟩
    rw [HF.out]
    go_wp2_with fail
    refine (HR.out _ HT.out).mono ?_
    rintro e w1 ⟨rfl, hb1⟩
    go_wp2_with fail
    refine (iutf_no R _ HG.out).mono ?_
    rintro e w2 ⟨rfl, rfl⟩
    go_wp2
    go_ret
    exact ⟨rfl, hb1⟩
  · rw [Bool.true_and]
    have HG : Hid _ := hg
    clear hg
    go_enter Tryd.func37, Tryd.ntmps37
    go_wp2_with fail
    refine (formB_any _ _ (by omega) (by omega) HT.out).mono ?_
    rintro e w' ⟨rfl, rfl⟩
    rw [HF.out]
    go_wp2_with fail
    refine (HR.out _ HT.out).mono ?_
    rintro e w1 ⟨rfl, hb1⟩
    go_wp2_with fail
    refine (iutf_any R _ HG.out (HT.out.below hb1)).mono ?_
    rintro e w2 ⟨rfl, hb2⟩
    go_wp2_with fail
    refine (hasp_any _ _ _).mono ?_
    rintro e w3 ⟨rfl, rfl⟩
    go_wp2
    go_ret
    exact ⟨rfl, hb1.trans (hb2.mono hb1.size)⟩
theorem ibegun_all (s : ByteArray) : ∀ w, Tabs w → Calls Tryd.prog 37 #[.string s] w fun e w' => e = .returned (.bool (begB s)) ∧ Below w.heap.size w w' := by
  have notB : ¬ BegP s.size (byt s 0) (byt s 1) (byt s 2) → begB s = false := fun h => by
    rw [Bool.eq_false_iff]; exact fun h' => h ((begB_iff s).1 h')
  by_cases h0 : 0 < s.size
  · have hne : s.toList.isEmpty = false := by
      rw [Lib.toList_data]
      cases hd : s.data.toList with
      | nil =>
        have : s.data.toList.length = s.size := by simp
        rw [hd] at this
        simp at this
        omega
      | cons a l => rfl
    have c0 := byte_le s 0 h0
    have e0 := byt_eq h0
    have long : ∀ f : Int, formB (s[0].toNat : Int) = f → f < (s.size : Int) → ¬ BegP s.size (byt s 0) (byt s 1) (byt s 2) → (∀ w, Tabs w → Calls Tryd.prog 37 #[.string s] w fun e w' => e = .returned (.bool (begB s)) ∧ Below w.heap.size w w') := fun f hf hl hh w hT => by
      rw [notB hh]; exact ibeg_long s w hne h0 f hf hl hT
    have inn : ∀ (f m : Nat) (R : Int), s.size = m → formB (s[0].toNat : Int) = f → (m : Int) ≤ f →
        (∀ w, Tabs w → Calls Tryd.prog 43 #[.string s, .int .i64 f] w fun e w' => e = .returned (.int .i64 R) ∧ Below w.heap.size w w') →
        ((goodB R && prefB (encS R) s) = true ↔ BegP m (byt s 0) (byt s 1) (byt s 2)) →
        (∀ w, Tabs w → Calls Tryd.prog 37 #[.string s] w fun e w' => e = .returned (.bool (begB s)) ∧ Below w.heap.size w w') :=
      fun f m R hm hf hle hR hiff w hT => by
        have : begB s = (goodB R && prefB (encS R) s) := by
          subst hm
          cases hB : (goodB R && prefB (encS R) s)
          · exact notB (fun h => by rw [hiff.2 h] at hB; cases hB)
          · exact (begB_iff s).2 (hiff.1 hB)
        rw [this]
        exact ibeg_in s w hne h0 f hf (by omega) hT R hR
    rcases (by omega : (s[0].toNat : Int) < 192 ∨ (192 ≤ (s[0].toNat : Int) ∧ (s[0].toNat : Int) < 224) ∨ (224 ≤ (s[0].toNat : Int) ∧ (s[0].toNat : Int) < 240) ∨ (240 ≤ (s[0].toNat : Int) ∧ (s[0].toNat : Int) < 248) ∨ 248 ≤ (s[0].toNat : Int)) with h | ⟨h, h'⟩ | ⟨h, h'⟩ | ⟨h, h'⟩ | h
    · exact long 0 (by unfold formB; rw [if_pos h]) (by omega) (by unfold BegP; omega)
    · have hform : formB (s[0].toNat : Int) = 1 := by unfold formB; rw [if_neg (by omega), if_pos (by omega)]
      by_cases hbig : 1 < s.size
      · exact long 1 hform (by omega) (by unfold BegP; omega)
      · have hm : s.size = 1 := by omega
        exact inn 1 1 (max (((s[0].toNat : Int) - 192) * 64) 128) hm hform (by omega) (fun w hT => least_11 s w h0 (by omega) h hT) (imp_11 s hm (by omega) (by omega) _ (by (try rw [e0]); first | done | rfl))
    · have hform : formB (s[0].toNat : Int) = 2 := by unfold formB; rw [if_neg (by omega), if_neg (by omega), if_pos (by omega)]
      by_cases hbig : 2 < s.size
      · exact long 2 hform (by omega) (by unfold BegP; omega)
      · rcases (by omega : s.size = 1 ∨ s.size = 2) with hm | hm
        · skip
          exact inn 2 1 (max (((s[0].toNat : Int) - 224) * 64 * 64) 2048) hm hform (by omega) (fun w hT => least_21 s w h0 (by omega) h hT) (imp_21 s hm (by omega) (by omega) _ (by (try rw [e0]); first | done | rfl))
        · skip
          have h1 : 1 < s.size := by omega
          have e1 := byt_eq h1
          exact inn 2 2 (max ((((s[0].toNat : Int) - 224) * 64 + (s[1].toNat : Int) % 64) * 64) 2048) hm hform (by omega) (fun w hT => least_22 s w h0 h1 (by omega) h hT) (imp_22 s hm (by omega) (by omega) _ (by (try rw [e0, e1]); first | done | rfl))
    · have hform : formB (s[0].toNat : Int) = 3 := by unfold formB; rw [if_neg (by omega), if_neg (by omega), if_neg (by omega)]
      by_cases hbig : 3 < s.size
      · exact long 3 hform (by omega) (by unfold BegP; omega)
      · rcases (by omega : s.size = 1 ∨ s.size = 2 ∨ s.size = 3) with hm | hm | hm
        · skip
          exact inn 3 1 (max (((s[0].toNat : Int) - 240) * 64 * 64 * 64) 65536) hm hform (by omega) (fun w hT => least_31 s w h0 (by omega) h hT) (imp_31 s hm (by omega) (by omega) _ (by (try rw [e0]); first | done | rfl))
        · skip
          have h1 : 1 < s.size := by omega
          have e1 := byt_eq h1
          exact inn 3 2 (max ((((s[0].toNat : Int) - 240) * 64 + (s[1].toNat : Int) % 64) * 64 * 64) 65536) hm hform (by omega) (fun w hT => least_32 s w h0 h1 (by omega) h hT) (imp_32 s hm (by omega) (by omega) _ (by (try rw [e0, e1]); first | done | rfl))
        · skip
          have h1 : 1 < s.size := by omega
          have e1 := byt_eq h1
          have h2 : 2 < s.size := by omega
          have e2 := byt_eq h2
          exact inn 3 3 (max (((((s[0].toNat : Int) - 240) * 64 + (s[1].toNat : Int) % 64) * 64 + (s[2].toNat : Int) % 64) * 64) 65536) hm hform (by omega) (fun w hT => least_33 s w h0 h1 h2 (by omega) h hT) (imp_33 s hm (by omega) (by omega) _ (by (try rw [e0, e1, e2]); first | done | rfl))
    · have hform : formB (s[0].toNat : Int) = 3 := by unfold formB; rw [if_neg (by omega), if_neg (by omega), if_neg (by omega)]
      by_cases hbig : 3 < s.size
      · exact long 3 hform (by omega) (by unfold BegP; omega)
      · have no : ∀ R, 2097152 ≤ R → (goodB R && prefB (encS R) s) = begB s := fun R hR => by rw [show goodB R = false from goodB_no (by omega), Bool.false_and]; exact (notB (by unfold BegP; omega)).symm
        rcases (by omega : s.size = 1 ∨ s.size = 2 ∨ s.size = 3) with hm | hm | hm
        · skip
          intro w hT
          rw [← no (max (((s[0].toNat : Int) - 240) * 64 * 64 * 64) 65536) (by omega)]
          exact ibeg_in s w hne h0 3 hform (by omega) hT _ (fun w hT => least_31 s w h0 (by omega) (by omega) hT)
        · skip
          have h1 : 1 < s.size := by omega
          have q1 := byte_le s 1 h1
          intro w hT
          rw [← no (max ((((s[0].toNat : Int) - 240) * 64 + (s[1].toNat : Int) % 64) * 64 * 64) 65536) (by omega)]
          exact ibeg_in s w hne h0 3 hform (by omega) hT _ (fun w hT => least_32 s w h0 h1 (by omega) (by omega) hT)
        · skip
          have h1 : 1 < s.size := by omega
          have q1 := byte_le s 1 h1
          have h2 : 2 < s.size := by omega
          have q2 := byte_le s 2 h2
          intro w hT
          rw [← no (max (((((s[0].toNat : Int) - 240) * 64 + (s[1].toNat : Int) % 64) * 64 + (s[2].toNat : Int) % 64) * 64) 65536) (by omega)]
          exact ibeg_in s w hne h0 3 hform (by omega) hT _ (fun w hT => least_33 s w h0 h1 h2 (by omega) (by omega) hT)
  · have he : s.toList.isEmpty = true := by
      rw [Lib.toList_data]
      have : s.data.toList.length = s.size := by simp
      cases hd : s.data.toList with
      | nil => rfl
      | cons a l =>
        rw [hd] at this
        simp at this
        omega
    intro w _
    rw [notB (by unfold BegP; omega)]
    exact ibeg_empty s w he
end Go.Proofs.YtklgagonbehpeaaDoor
