/-
  Contracts of the specification's small functions on codes.
-/
import Derived.Test.YtklgagonbehpeaaDoorBeg
import Derived.WalkSmall
import Derived.Test.YtklgagonbehpeaaDoorD2Pure
namespace Go.Proofs.YtklgagonbehpeaaDoor
open Go.ChangeShapes Go.WideShapes Go.ChangeAt Go.RowKit
set_option maxRecDepth 100000 in
theorem begun_any (s : ByteArray) (w : World) :
    Calls Tryd.prog 22 #[.string s] w fun e w' => e = .returned (.bool (begB s)) ∧ Below w.heap.size w w' := by
  have no : begB s = false → ((s.size : Int) = 0 ∨ (3 : Int) < s.size ∨ ∃ h0 : 0 < s.size, ((s.size : Int) == 0) = false ∧ (s.size : Int) ≤ 3 ∧ longN (s[0].toNat : Int) ≤ (s.size : Int)) →
      Calls Tryd.prog 22 #[.string s] w fun e w' => e = .returned (.bool (begB s)) ∧ Below w.heap.size w w' := fun hb h => by
    rw [hb]
    exact (begun_out s w h).mono fun e w' ⟨he, hw⟩ => ⟨he, by rw [hw]; exact Below.refl _ _⟩
  have notB : ¬ BegP s.size (byt s 0) (byt s 1) (byt s 2) → begB s = false := fun h => by
    rw [Bool.eq_false_iff]; exact fun h' => h ((begB_iff s).1 h')
  by_cases h0 : 0 < s.size
  · have hz : ((s.size : Int) == 0) = false := by rw [beq_eq_false_iff_ne]; omega
    have c0 := byte_le s 0 h0
    have e0 := byt_eq h0
    by_cases h3 : 3 < s.size
    · exact no (notB (by unfold BegP; omega)) (.inr (.inl (by omega)))
    · have lg : longN (s[0].toNat : Int) = if (s[0].toNat : Int) < 128 then 1 else if (s[0].toNat : Int) < 192 then 0 else if (s[0].toNat : Int) < 224 then 2 else if (s[0].toNat : Int) < 240 then 3 else if (s[0].toNat : Int) < 248 then 4 else 0 := rfl
      by_cases hl : longN (s[0].toNat : Int) ≤ (s.size : Int)
      · refine no (notB ?_) (.inr (.inr ⟨h0, hz, by omega, hl⟩))
        intro hB
        unfold BegP at hB
        rw [lg] at hl
        split at hl
        · omega
        · split at hl
          · omega
          · split at hl
            · omega
            · split at hl
              · omega
              · split at hl <;> omega
      · obtain ⟨L, hL⟩ : ∃ L, longN (s[0].toNat : Int) = L := ⟨_, rfl⟩
        rw [hL] at hl
        have hr : (L = 2 ∧ 192 ≤ byt s 0 ∧ byt s 0 < 224) ∨ (L = 3 ∧ 224 ≤ byt s 0 ∧ byt s 0 < 240) ∨ (L = 4 ∧ 240 ≤ byt s 0 ∧ byt s 0 < 248) := by
          rw [lg] at hL
          split at hL
          · omega
          · split at hL
            · omega
            · split at hL
              · omega
              · split at hL
                · omega
                · split at hL <;> omega
        obtain ⟨n, hn⟩ : ∃ n : Nat, ((s.size + n : Nat) : Int) = L := ⟨(L - s.size).toNat, by omega⟩
        exact begun_in s n L (begB s) w h0 (by omega) hL (by omega) (by omega)
          (fun k k0 k1 hk => (begB_iff s).2 (hit_beg s s.size n L k rfl (by omega) (by omega) (by omega) hn hr (by omega) (by omega) hk))
          (fun hB => beg_hit s s.size n L rfl (by omega) (by omega) (by omega) hn hr ((begB_iff s).1 hB))
  · exact no (notB (by unfold BegP; omega)) (.inl (by omega))
set_option maxRecDepth 100000 in
set_option maxHeartbeats 400000 in
theorem code_any (en : Int) (w : World) :
    Calls Tryd.prog 20 #[.int .i64 en] w fun e w' => e = .returned (.bool (codeB en)) ∧ w' = w := by
  go_enter Tryd.func20, Tryd.ntmps20
  go_wp2_with (go_at_call 21; refine (in_any _ _ _ _).mono ?_; rintro e w' ⟨rfl, rfl⟩)
  go_ret
  exact ⟨ret_bool (by simp [codeB]), rfl⟩
set_option maxRecDepth 100000 in
set_option maxHeartbeats 400000 in
theorem high_any (n : Int) (w : World) :
    Calls Tryd.prog 24 #[.int .i64 n] w fun e w' => e = .returned (.bool (highB n)) ∧ w' = w := by
  go_enter Tryd.func24, Tryd.ntmps24
  go_wp2_with (go_at_call 21; refine (in_any _ _ _ _).mono ?_; rintro e w' ⟨rfl, rfl⟩)
  go_ret
  exact ⟨ret_bool (by simp [highB]), rfl⟩
set_option maxRecDepth 100000 in
set_option maxHeartbeats 400000 in
theorem units_any (en : Int) (w : World) :
    Calls Tryd.prog 23 #[.int .i64 en] w fun e w' => e = .returned (.bool (unitsB en)) ∧ w' = w := by
  by_cases h2 : en = 2
  · subst h2
    go_enter Tryd.func23, Tryd.ntmps23
    go_wp2
    go_ret
    exact ⟨rfl, rfl⟩
  · by_cases h3 : en = 3
    · subst h3
      go_enter Tryd.func23, Tryd.ntmps23
      go_wp2
      go_ret
      exact ⟨rfl, rfl⟩
    · have b2 : (en == 2) = false := by rw [beq_eq_false_iff_ne]; exact h2
      have b3 : (en == 3) = false := by rw [beq_eq_false_iff_ne]; exact h3
      rw [show unitsB en = false from decide_eq_false (by omega)]
      clear h2 h3
      go_enter Tryd.func23, Tryd.ntmps23
      go_wp2
      go_ret
      exact ⟨rfl, rfl⟩
set_option maxRecDepth 100000 in
set_option maxHeartbeats 400000 in
theorem unit_any (en : Int) (s : ByteArray) (w : World) (hs : 1 < s.size) :
    Calls Tryd.prog 25 #[.int .i64 en, .string s] w fun e w' => e = .returned (.int .i64 (unitN en s 0)) ∧ Below w.heap.size w w' := by
  have h0 : 0 < s.size := by omega
  have c0 := byte_le s 0 h0
  have c1 := byte_le s 1 hs
  have e0 := byt_eq h0
  have e1 := byt_eq hs
  have hsI : (1 : Int) < s.size := by omega
  have h0I : (0 : Int) < s.size := by omega
  by_cases h2 : en = 2
  · subst h2
    have hu : unitN 2 s 0 = (s[0].toNat : Int) * (256 : Int) + (s[1].toNat : Int) := by unfold unitN; rw [if_pos rfl, e0]; show _ + byt s 1 = _; rw [e1]
    rw [hu]
    clear hu e0 e1
    go_enter Tryd.func25, Tryd.ntmps25
    go_wp2
    go_quiet (fail)
    go_wp2
    go_ret
    exact ⟨rfl, below_drewN (Below.refl _ _) _⟩
  · have b2 : (en == 2) = false := by rw [beq_eq_false_iff_ne]; exact h2
    have hu : unitN en s 0 = (s[1].toNat : Int) * (256 : Int) + (s[0].toNat : Int) := by unfold unitN; rw [if_neg h2, e0]; show byt s 1 * 256 + _ = _; rw [e1]
    rw [hu]
    clear hu e0 e1 h2
    go_enter Tryd.func25, Tryd.ntmps25
    go_wp2
    go_quiet (fail)
    go_wp2
    go_ret
    exact ⟨rfl, below_drewN (Below.refl _ _) _⟩
end Go.Proofs.YtklgagonbehpeaaDoor
