/-
  Places as bits of one number: bitsOf and has of the program.
-/
import Derived.Test.YtlkcdcdgpklpoaaN6D
import Derived.Laws.BitsAllLaws
namespace Go.Proofs.Ytlkcdcdgpklpoaa
open Go.ChangeShapes Go.WideShapes Go.ChangeAt Go.WideMaps Go.WideElems Go.RowKit
/-- The number whose bits are the numbers of a list. -/
def bitsL (L : List Int) : Nat := L.foldl (fun n y => n ||| 2 ^ y.toNat) 0
theorem bitsL_go (j : Nat) : ∀ (L : List Int) (n : Nat), (L.foldl (fun n y => n ||| 2 ^ y.toNat) n).testBit j = (n.testBit j || L.any fun y => y.toNat == j)
  | [], n => by simp
  | y :: L, n => by
    rw [List.foldl_cons, bitsL_go j L, Nat.testBit_or, Nat.testBit_two_pow, List.any_cons, Bool.or_assoc]
    rfl
theorem bitsL_test (L : List Int) (j : Nat) : (bitsL L).testBit j = L.any fun y => y.toNat == j := by
  unfold bitsL
  rw [bitsL_go, Nat.zero_testBit, Bool.false_or]
theorem bitsL_take {L : List Int} {k : Nat} (h : k < L.length) : bitsL (L.take (k + 1)) = bitsL (L.take k) ||| 2 ^ (L.getD k 0).toNat := by
  unfold bitsL
  rw [List.take_add_one, List.foldl_append]
  simp [List.getD_eq_getElem?_getD, List.getElem?_eq_getElem h]
theorem pow_lt40 {y : Nat} (h : y < 40) : 2 ^ y < 1099511627776 := (Nat.pow_lt_pow_iff_right (by omega : 1 < 2)).2 h
theorem or_lt {x : Nat} {y : Int} (h : x < 1099511627776) (_h0 : 0 ≤ y) (h1 : y < 40) : x ||| 2 ^ y.toNat < 1099511627776 :=
  Nat.or_lt_two_pow (n := 40) h (pow_lt40 (by omega))
theorem wrap_pow {y : Nat} (h : y < 40) : IntKind.u64.wrap (2 ^ y) = ((2 ^ y : Nat) : Int) := by
  have e : ((2 : Int) ^ y) = ((2 ^ y : Nat) : Int) := by simp
  have := pow_lt40 h
  rw [e, IntKind.wrap_u64]
  clear e
  generalize 2 ^ y = z at *
  omega
theorem or_pow {x : Nat} {y : Int} (h : x < 1099511627776) (_h0 : 0 ≤ y) (h1 : y < 40) : bits BinOp.or IntKind.u64 (x : Int) (IntKind.u64.wrap (2 ^ y.toNat)) = ((x ||| 2 ^ y.toNat : Nat) : Int) := by
  have := pow_lt40 (y := y.toNat) (by omega)
  rw [wrap_pow (by omega), u64_or_nat _ _ (by omega) (by omega)]
set_option maxRecDepth 100000 in
set_option maxHeartbeats 1000000 in
theorem bitsM_any (N : Nat) (hN : N ≤ 40) (L : List Int) (ao : Option Addr) (cap : Nat) (w : World) (hl : L.length ≤ 1048576) (hA : IntsAt w ao L) :
    Calls Try.prog 114 #[.slice ao L.length cap, .int .i64 N] w fun e w' => (∃ x : Nat, e = .returned (.tuple #[.int .u64 (x : Int), .bool (risB 0 ((N : Int) - 1) L)]) ∧ (risB 0 ((N : Int) - 1) L = true → x = bitsL L)) ∧ w' = w := by
  have HA : Hid _ := hA
  clear hA
  go_enter Try.func114, Try.ntmps114
  go_wp2
  go_loopw [6, 7, 12] (fun bv hv i wr => ∃ (k x : Nat) (h : Int), k ≤ L.length ∧ i = .int .i64 k ∧ bv = .int .u64 (x : Int) ∧ Hid (x = bitsL (L.take k)) ∧ x < 1099511627776 ∧ hv = .int .i64 h ∧ h = (if k = 0 then -1 else L.getD (k - 1) 0) ∧ (∀ j, j < k → okR 0 ((N : Int) - 1) L j) ∧ -1 ≤ h ∧ h ≤ 39 ∧ wr = w) (fun _ _ i _ => L.length - (intOf i).toNat)
  case atStart => exact ⟨0, 0, -1, Nat.zero_le _, rfl, rfl, rfl, by omega, rfl, rfl, fun j hj => absurd hj (by omega), by omega, by omega, rfl⟩
  case round =>
    obtain ⟨k, x, h, hk, rfl, rfl, HX, hx40, rfl, hh, hall, hm1, hm7, rfl⟩ := hrel
    have HALL : Hid _ := hall
    have HH : Hid _ := hh
    clear hall hh
    by_cases hlt : k < L.length
    · have hltI : (k : Int) < (L.length : Int) := by omega
      obtain ⟨b1, o1, rfl, l1, g1⟩ := HA.out k hlt
      by_cases q1 : L.getD k 0 ≤ h
      · have HR : Hid (risB 0 ((N : Int) - 1) L = false) := risB_bad hlt fun ⟨⟨h1, _⟩, h3⟩ => by
          have := HH.out
          split at this
          · omega
          · have := h3 (by omega); omega
        generalize L.getD k 0 = y at g1 q1
        go_wp2
        go_ret2
        exact ⟨⟨0, by rw [HR.out] <;> rfl, fun e => by rw [HR.out] at e; cases e⟩, rfl⟩
      · by_cases q2 : (N : Int) ≤ L.getD k 0
        · have HR : Hid (risB 0 ((N : Int) - 1) L = false) := risB_bad hlt fun ⟨⟨_, h2⟩, _⟩ => by omega
          generalize L.getD k 0 = y at g1 q1 q2
          have q1b : decide (y ≤ h) = false := decide_eq_false q1
          go_wp2
          go_ret2
          exact ⟨⟨0, by rw [HR.out] <;> rfl, fun e => by rw [HR.out] at e; cases e⟩, rfl⟩
        · have HN : Hid (∀ j, j < k + 1 → okR 0 ((N : Int) - 1) L j) := fun j hj => by
            by_cases ej : j = k
            · subst ej
              have := HH.out
              refine ⟨by omega, fun h0 => ?_⟩
              rw [if_neg (by omega)] at this
              omega
            · exact HALL.out j (by omega)
          have HY : Hid (L.getD (k + 1 - 1) 0 = L.getD k 0) := (by rw [Nat.add_sub_cancel] : L.getD (k + 1 - 1) 0 = L.getD k 0)
          have HT : Hid (bitsL (L.take (k + 1)) = bitsL (L.take k) ||| 2 ^ (L.getD k 0).toNat) := bitsL_take hlt
          generalize L.getD k 0 = y at g1 q1 q2 HY HT
          have q1b : decide (y ≤ h) = false := decide_eq_false q1
          have q2b : decide ((N : Int) ≤ y) = false := decide_eq_false q2
          have hy0 : 0 ≤ y := by omega
          have hy40 : y < 40 := by omega
          go_wp2
          go_roundw
          case rel => exact ⟨k + 1, x ||| 2 ^ y.toNat, y, by omega, by go_num, congrArg (Value.int IntKind.u64) (or_pow hx40 hy0 hy40), (by rw [HT.out, ← HX.out] : x ||| 2 ^ y.toNat = bitsL (L.take (k + 1))), or_lt hx40 hy0 hy40, rfl, by rw [if_neg (by omega), HY.out], HN.out, by omega, by omega, by first | rfl | trivial⟩
          case measure => simp [intOf]; omega
    · obtain rfl : k = L.length := by omega
      have hltI : ¬ (L.length : Int) < (L.length : Int) := by omega
      have HR : Hid (risB 0 ((N : Int) - 1) L = true) := decide_eq_true HALL.out
      go_wp2
      go_ret2
      exact ⟨⟨x, by rw [HR.out] <;> rfl, fun _ => by rw [HX.out, List.take_length]⟩, rfl⟩
end Go.Proofs.Ytlkcdcdgpklpoaa
