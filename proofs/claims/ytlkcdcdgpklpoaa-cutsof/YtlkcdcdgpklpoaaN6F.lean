/-
  has, placesOf of the program.
-/
import Derived.Test.YtlkcdcdgpklpoaaN6E
import Derived.Test.YtlkcdcdgpklpoaaC4H
namespace Go.Proofs.Ytlkcdcdgpklpoaa
open Go.ChangeShapes Go.WideShapes Go.ChangeAt Go.WideMaps Go.WideElems Go.RowKit
theorem shr_test {n k : Nat} (h : n < 1099511627776) : decide (bits BinOp.and IntKind.u64 ((n : Int) / 2 ^ k) 1 = 1) = n.testBit k := by
  have e1 : ((n : Int) / 2 ^ k) = ((n / 2 ^ k : Nat) : Int) := by simp
  have e2 : n / 2 ^ k ≤ n := Nat.div_le_self _ _
  have e3 := u64_and_nat (n / 2 ^ k) 1 (by omega) (by omega)
  have e4 : ((1 : Nat) : Int) = 1 := rfl
  rw [e4] at e3
  rw [e1, e3, nat_mask1, Nat.testBit_eq_decide_div_mod_eq]
  have e5 : (((n / 2 ^ k % 2 : Nat) : Int) = 1) = (n / 2 ^ k % 2 = 1) := by
    apply propext
    omega
  simp only [e5]
set_option maxRecDepth 100000 in
theorem has_any (n k : Nat) (hn : n < 1099511627776) (hk : k < 64) (w : World) :
    Calls Try.prog 137 #[.int .u64 (n : Int), .int .i64 (k : Int)] w fun e w' => e = .returned (.bool (n.testBit k)) ∧ w' = w := by
  have h1 : (0 : Int) ≤ (k : Int) := by omega
  have h2 : (k : Int) < 64 := by omega
  have HT : Hid (decide (bits BinOp.and IntKind.u64 ((n : Int) / 2 ^ k) 1 = 1) = n.testBit k) := shr_test hn
  go_enter Try.func137, Try.ntmps137
  go_wp2
  go_ret
  exact ⟨by first | (rw [HT.out]) | (rw [← HT.out]; rfl), rfl⟩
def orIf (x k : Nat) (b : Bool) : Nat := if b then x ||| 2 ^ k else x
theorem or_self2 (x y : Nat) : (x ||| y) ||| y = x ||| y := by rw [Nat.or_assoc, Nat.or_self]
theorem orIf_or (x k : Nat) (a b : Bool) : orIf (orIf x k a) k b = orIf x k (a || b) := by
  cases a <;> cases b <;> simp [orIf, or_self2]
theorem orIf_lt {x k : Nat} {b : Bool} (h : x < 1099511627776) (hk : k < 40) : orIf x k b < 1099511627776 := by
  cases b
  · exact h
  · exact Nat.or_lt_two_pow (n := 40) h (pow_lt40 hk)
theorem or_powN {x k : Nat} (h : x < 1099511627776) (hk : k < 40) : bits BinOp.or IntKind.u64 (x : Int) (IntKind.u64.wrap (2 ^ k)) = ((x ||| 2 ^ k : Nat) : Int) := or_pow (y := (k : Int)) h (by omega) (by omega)
/-- The number whose bits are the numbers below n of which P holds. -/
def bitsP (P : Nat → Bool) : Nat → Nat
  | 0 => 0
  | n + 1 => orIf (bitsP P n) n (P n)
theorem bitsP_lt (P : Nat → Bool) : ∀ n, n ≤ 40 → bitsP P n < 1099511627776
  | 0, _ => by show 0 < _; omega
  | n + 1, h => orIf_lt (bitsP_lt P n (by omega)) (by omega)
theorem bitsP_test (P : Nat → Bool) (j : Nat) : ∀ n, (bitsP P n).testBit j = (decide (j < n) && P j)
  | 0 => by simp [bitsP]
  | n + 1 => by
    have ih := bitsP_test P j n
    unfold bitsP orIf
    by_cases e : j = n
    · subst e
      cases hp : P j <;> simp [hp, Nat.testBit_or, ih]
    · have e1 : decide (j < n + 1) = decide (j < n) := by
        apply decide_eq_decide.2
        omega
      have e2 : decide (n = j) = false := decide_eq_false fun h => e h.symm
      cases hp : P n <;> simp [Nat.testBit_or, Nat.testBit_two_pow, ih, e1, e2]
/-- Whether a number lies in one of the first spans of a set. -/
def hitK (L : List Int) (r : Int) (k : Nat) : Bool := (List.range k).any fun j => decide (L.getD (2 * j) 0 ≤ r ∧ r ≤ L.getD (2 * j + 1) 0)
theorem hitK_succ (L : List Int) (r : Int) (k : Nat) : hitK L r (k + 1) = (hitK L r k || decide (L.getD (2 * k) 0 ≤ r ∧ r ≤ L.getD (2 * k + 1) 0)) := by
  unfold hitK
  rw [List.range_succ, List.any_append]
  simp
set_option maxRecDepth 100000 in
set_option maxHeartbeats 2000000 in
theorem places_any (E : Bool) (S : Rw) (s : Option Addr) (cs : Nat) (x1 x2 : Int) (fv : Value) (mb : Nat) (r : Int) (w : World) (hn : S.length ≤ 40) (hev : ∀ j, j < S.length → (rw_ S j).length % 2 = 0) (hx : szR S ≤ 1048576) (hS : RowsAt w s S) (hM : w.heap[mb]? = some (.cells #[.bool E, .int .u64 x1, .int .u64 x2, .slice s S.length cs, fv] 132)) :
    Calls Try.prog 100 #[.pointer (some ⟨mb, 0, none⟩), .int .i64 r] w fun e w' => e = .returned (.int .u64 (bitsP (fun j => memS (rw_ S j) r) S.length : Nat)) ∧ w' = w := by
  have HS : Hid _ := hS
  have HEV : Hid _ := hev
  have HX : Hid _ := hx
  have d3 : w.cell? ⟨mb, 3, none⟩ = some (.slice s S.length cs) := cell_of hM 3
  clear hS hev hx hM
  go_enter Try.func100, Try.ntmps100
  go_wp2
  go_loopw [5, 14] (fun pv i wr => ∃ k x : Nat, k ≤ S.length ∧ i = .int .i64 k ∧ pv = .int .u64 (x : Int) ∧ x < 1099511627776 ∧ Hid (x = bitsP (fun j => memS (rw_ S j) r) k) ∧ wr = w) (fun _ i _ => S.length - (intOf i).toNat)
  case atStart => exact ⟨0, 0, Nat.zero_le _, rfl, rfl, by omega, rfl, rfl⟩
  case round =>
    obtain ⟨k, x, hk, rfl, rfl, hxl, HXB, rfl⟩ := hrel
    by_cases hlt : k < S.length
    · have hltI : (k : Int) < (S.length : Int) := by omega
      obtain ⟨sb, so, sa, sc, rfl, sl, sce, si⟩ := HS.out k hlt
      have HI : Hid (IntsAt wr sa (rw_ S k)) := si
      have HE : Hid ((rw_ S k).length % 2 = 0) := HEV.out k hlt
      have HB : Hid (bitsP (fun j => memS (rw_ S j) r) (k + 1) = orIf x k (hitK (rw_ S k) r ((rw_ S k).length / 2))) := (by rw [HXB.out]; rfl : bitsP (fun j => memS (rw_ S j) r) (k + 1) = orIf x k (hitK (rw_ S k) r ((rw_ S k).length / 2)))
      have hl : (rw_ S k).length ≤ 1048576 := Nat.le_trans (rw_len S k hlt) HX.out
      have hk40 : k < 40 := by omega
      clear si HXB
      generalize rw_ S k = R at sce HI HE HB hl
      go_wp2
      go_loopw [5, 8] (fun pv i wr2 => ∃ q j y : Nat, q ≤ R.length ∧ Hid (q = 2 * j) ∧ i = .int .i64 q ∧ pv = .int .u64 (y : Int) ∧ y < 1099511627776 ∧ Hid (y = orIf x k (hitK R r j)) ∧ wr2 = wr) (fun _ i _ => R.length - (intOf i).toNat)
      case atStart => exact ⟨0, 0, x, Nat.zero_le _, rfl, rfl, rfl, hxl, rfl, rfl⟩
      case round =>
        obtain ⟨q, j, y, hq, HQ, rfl, rfl, hyl, HY, rfl⟩ := hrel
        by_cases hlq : q < R.length
        · have hlqI : (q : Int) < (R.length : Int) := by omega
          have hlq2 : q + 1 < R.length := by have := HE.out; have := HQ.out; omega
          have hlq2I : (q : Int) + 1 < (R.length : Int) := by omega
          have hw1 : IntKind.i64.wrap ((q : Int) + 1) = (q : Int) + 1 := IntWalk.i64_in _ (by omega)
          have hw2 : IntKind.i64.wrap ((q : Int) + 2) = (q : Int) + 2 := IntWalk.i64_in _ (by omega)
          have hn1 : ((q : Int) + 1).toNat = q + 1 := by omega
          have hp1 : (0 : Int) ≤ (q : Int) + 1 := by omega
          obtain ⟨b1, o1, rfl, l1, g1⟩ := HI.out q hlq
          obtain ⟨b2, o2, e2, l2, g2⟩ := HI.out (q + 1) hlq2
          obtain ⟨rfl, rfl⟩ : b1 = b2 ∧ o1 = o2 := by simp at e2; exact e2
          have HN : Hid (hitK R r (j + 1) = (hitK R r j || decide (R.getD q 0 ≤ r ∧ r ≤ R.getD (q + 1) 0))) := (by rw [hitK_succ, HQ.out] : hitK R r (j + 1) = (hitK R r j || decide (R.getD q 0 ≤ r ∧ r ≤ R.getD (q + 1) 0)))
          generalize R.getD q 0 = lo at g1 HN
          generalize R.getD (q + 1) 0 = hi at g2 HN
          by_cases p1 : lo ≤ r
          · by_cases p2 : r ≤ hi
            · have HZ : Hid (y ||| 2 ^ k = orIf x k (hitK R r (j + 1))) := (by rw [HN.out, HY.out, ← orIf_or, decide_eq_true ⟨p1, p2⟩]; rfl : y ||| 2 ^ k = orIf x k (hitK R r (j + 1)))
              have hk0 : (0 : Int) ≤ (k : Int) := by omega
              go_wp2
              go_roundw
              case rel => exact ⟨q + 2, j + 1, y ||| 2 ^ k, by omega, (by have := HQ.out; omega : q + 2 = 2 * (j + 1)), by go_num, congrArg (Value.int IntKind.u64) (or_powN hyl hk40), orIf_lt (b := true) hyl hk40, HZ, by first | rfl | trivial⟩
              case measure => simp [intOf]; omega
            · have HZ : Hid (y = orIf x k (hitK R r (j + 1))) := (by rw [HN.out, decide_eq_false fun h => p2 h.2, Bool.or_false]; exact HY.out : y = orIf x k (hitK R r (j + 1)))
              go_wp2
              go_roundw
              case rel => exact ⟨q + 2, j + 1, y, by omega, (by have := HQ.out; omega : q + 2 = 2 * (j + 1)), by go_num, rfl, hyl, HZ, by first | rfl | trivial⟩
              case measure => simp [intOf]; omega
          · have HZ : Hid (y = orIf x k (hitK R r (j + 1))) := (by rw [HN.out, decide_eq_false fun h => p1 h.1, Bool.or_false]; exact HY.out : y = orIf x k (hitK R r (j + 1)))
            go_wp2
            go_roundw
            case rel => exact ⟨q + 2, j + 1, y, by omega, (by have := HQ.out; omega : q + 2 = 2 * (j + 1)), by go_num, rfl, hyl, HZ, by first | rfl | trivial⟩
            case measure => simp [intOf]; omega
        · have hqe : q = R.length := by omega
          have hlqI : ¬ (q : Int) < (R.length : Int) := by omega
          have HZ : Hid (y = bitsP (fun j => memS (rw_ S j) r) (k + 1)) := (by rw [HB.out, ← hqe, HQ.out, Nat.mul_div_cancel_left _ (by omega)]; exact HY.out : y = bitsP (fun j => memS (rw_ S j) r) (k + 1))
          go_wp2
          go_roundw
          case rel => exact ⟨k + 1, y, by omega, by go_num, rfl, hyl, HZ, by first | rfl | trivial⟩
          case measure => simp [intOf]; omega
    · obtain rfl : k = S.length := by omega
      have hltI : ¬ (S.length : Int) < (S.length : Int) := by omega
      go_wp2
      go_ret
      exact ⟨congrArg (fun z : Nat => Ending.returned (.int .u64 (z : Int))) HXB.out, rfl⟩
end Go.Proofs.Ytlkcdcdgpklpoaa
