/-
  Contracts of spec.l1Begun, spec.IsBegun, impl.formOfByte, impl.leastBegunBy and impl.IsBegun.
-/
import Derived.Test.YtklgagonbehpeaaDoorAt
import Derived.Test.YtklgagonbehpeaaDoorBegPure
namespace Go.Proofs.YtklgagonbehpeaaDoor
open Go.ChangeShapes Go.WideShapes Go.ChangeAt Go.RowKit
theorem at_zero (x : ByteArray) (w : World) (hs : x.size ≤ 1000) (hi : 0 < x.size) :
    Calls Tryd.prog 35 #[.string x, .int .i64 0] w fun e w' => e = .returned (.tuple #[.int .i64 (decR x 0), .int .i64 (decW x 0)]) ∧ Below w.heap.size w w' := at_any x 0 w hs hi
def strLen : Value → Nat | .string s => s.size | _ => 0
set_option maxRecDepth 100000 in
set_option maxHeartbeats 1000000 in
theorem begun_in (s : ByteArray) (n : Nat) (L : Int) (B : Bool) (w : World) (hi : 0 < s.size) (hm : s.size ≤ 3) (hL : longN (s[0].toNat : Int) = L) (hn : n = 1 ∨ n = 2 ∨ n = 3) (hLn : L = (s.size : Int) + n)
    (hB1 : ∀ k : Nat, 128 ≤ k → k < 192 → hitP s n k → B = true) (hB2 : B = true → ∃ k : Nat, 128 ≤ k ∧ k < 192 ∧ hitP s n k) :
    Calls Tryd.prog 22 #[.string s] w fun e w' => e = .returned (.bool B) ∧ Below w.heap.size w w' := by
  have HL : Hid _ := hL
  have HB1 : Hid _ := hB1
  have HB2 : Hid _ := hB2
  have c0 := byte_le s 0 hi
  have z0 : ((s.size : Int) == 0) = false := by rw [beq_eq_false_iff_ne]; omega
  have z3 : ¬ (3 : Int) < s.size := by omega
  have hLs : ¬ L ≤ (s.size : Int) := by omega
  have e1 : (strOfNums [0]).size = 1 := rfl
  have HLn : Hid _ := hLn
  have HM : Hid _ := hm
  have c1 := conv_1
  have b4 : L ≤ 6 := by omega
  clear hL hB1 hB2 hLn hm e1
  go_enter Tryd.func22, Tryd.ntmps22
  go_wp2_with (go_at_call 34; refine (long_any _ _ (by omega) (by omega)).mono ?_; rintro e w' ⟨rfl, rfl⟩; rw [HL.out])
  go_loopw [3] (fun f wr => ∃ k : Nat, 128 ≤ k ∧ k ≤ 192 ∧ f = .int .i64 k ∧ (∀ j : Nat, 128 ≤ j → j < k → ¬ hitP s n j) ∧ Below w'.heap.size w' wr) (fun f _ => 192 - (intOf f).toNat)
  case atStart => exact ⟨128, by omega, by omega, rfl, fun j h1 h2 => absurd h1 (by omega), Below.refl _ _⟩
  case round =>
    obtain ⟨k, hk0, hk1, rfl, hno, hbw⟩ := hrel
    have HNO : Hid _ := hno
    clear hno
    by_cases hlt : k < 192
    · have hltI : decide ((k : Int) < 192) = true := decide_eq_true (by omega)
      go_wp2
      go_loopw [4] (fun x wi => ∃ j : Nat, j ≤ n ∧ x = .string (padT s k j) ∧ Below w'.heap.size w' wi) (fun x _ => L.toNat - strLen x)
      case atStart => exact ⟨0, Nat.zero_le _, rfl, hbw⟩
      case round =>
        obtain ⟨j, hj, rfl, hbi⟩ := hrel
        have hsz := padT_size s k j
        have hln := HLn.out
        by_cases hjn : j < n
        · have hc : ((padT s k j).size : Int) < L := by omega
          have hcc : (padT s k j).size + (strOfNums [(k : Int)]).size ≤ 100 := by rw [strOfNums_size]; show (padT s k j).size + 1 ≤ 100; omega
          clear hln hsz
          go_wp2_with (go_at_call 34; refine (long_any _ _ (by omega) (by omega)).mono ?_; rintro e w2 ⟨rfl, rfl⟩; rw [HL.out])
          go_roundw
          case rel => exact ⟨j + 1, by omega, rfl, hbi.alloc hbi.size _⟩
          case measure =>
            have h1 := padT_size s k j
            have h2 := padT_size s k (j + 1)
            have h3 := HLn.out
            show L.toNat - (padT s k (j + 1)).size < L.toNat - (padT s k j).size
            omega
        · have hc : ¬ ((padT s k j).size : Int) < L := by omega
          have HX : Hid ((padT s k j).size ≤ 1000) := by have := HM.out; show (padT s k j).size ≤ 1000; omega
          have HX0 : Hid (0 < (padT s k j).size) := by show 0 < (padT s k j).size; omega
          have HJ : Hid (j = n) := by show j = n; omega
          clear hln hsz hjn
          go_wp2_with (first | (go_at_call 34; refine (long_any _ _ (by omega) (by omega)).mono ?_; rintro e w2 ⟨rfl, rfl⟩; rw [HL.out]) | (go_at_call 35; refine (at_zero _ _ HX.out HX0.out).mono ?_; rintro e w3 ⟨rfl, hb3⟩))
          · go_ret
            have hB : B = true := HB1.out k hk0 hlt (by have := HJ.out; subst this; unfold hitP; omega)
            rw [hB]
            exact ⟨rfl, hbi.trans (hb3.mono hbi.size)⟩
          · go_roundw
            case rel =>
              refine ⟨k + 1, by omega, by omega, by go_num, fun i h1 h2 => ?_, hbi.trans (hb3.mono hbi.size)⟩
              by_cases hik : i = k
              · subst hik
                have := HJ.out
                subst this
                unfold hitP
                omega
              · exact HNO.out i h1 (by omega)
            case measure => simp [intOf]; omega
    · go_wp2
      go_ret
      have hB : B = false := by
        rw [Bool.eq_false_iff]
        intro hB
        obtain ⟨i, h1, h2, h3⟩ := HB2.out hB
        exact HNO.out i h1 (by omega) h3
      rw [hB]
      exact ⟨rfl, hbw⟩
set_option maxRecDepth 100000 in
set_option maxHeartbeats 1000000 in
theorem begun_out (s : ByteArray) (w : World) (h : (s.size : Int) = 0 ∨ (3 : Int) < s.size ∨ ∃ h0 : 0 < s.size, ((s.size : Int) == 0) = false ∧ (s.size : Int) ≤ 3 ∧ longN (s[0].toNat : Int) ≤ (s.size : Int)) :
    Calls Tryd.prog 22 #[.string s] w fun e w' => e = .returned (.bool false) ∧ w' = w := by
  rcases h with h | h | ⟨h0, h1, h2, h3⟩
  · have h' : ((s.size : Int) == 0) = true := by rw [beq_iff_eq]; exact h
    clear h
    go_enter Tryd.func22, Tryd.ntmps22
    go_wp2
    go_ret
    exact ⟨rfl, rfl⟩
  · have h' : ((s.size : Int) == 0) = false := by rw [beq_eq_false_iff_ne]; omega
    go_enter Tryd.func22, Tryd.ntmps22
    go_wp2
    go_ret
    exact ⟨rfl, rfl⟩
  · have c0 := byte_le s 0 h0
    have z3 : ¬ (3 : Int) < s.size := by omega
    generalize hL : longN (s[0].toNat : Int) = L at *
    have HL : Hid _ := hL
    clear hL
    go_enter Tryd.func22, Tryd.ntmps22
    go_wp2_with (go_at_call 34; refine (long_any _ _ (by omega) (by omega)).mono ?_; rintro e w' ⟨rfl, rfl⟩; rw [HL.out])
    go_ret
    exact ⟨rfl, rfl⟩
end Go.Proofs.YtklgagonbehpeaaDoor
