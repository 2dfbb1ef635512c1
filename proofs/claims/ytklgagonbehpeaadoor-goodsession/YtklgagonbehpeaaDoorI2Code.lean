/-
  Contracts of the program's small functions on codes: codeOf, isHigh, isLow, unit, readUnits, read.
-/
import Derived.Test.YtklgagonbehpeaaDoorD2Good
import Derived.Test.YtklgagonbehpeaaDoorIBeg
import Derived.Test.YtklgagonbehpeaaDoorI2Pure
import Derived.Stop.Asserts
import Derived.Handy
namespace Go.Proofs.YtklgagonbehpeaaDoor
open Go.ChangeShapes Go.WideShapes Go.ChangeAt Go.RowKit
abbrev codV (t : TypeId) : Value := .iface t (.agg #[])
abbrev shV (b : Nat) : Value := .iface 69 (.pointer (some ⟨b, 0, none⟩))
set_option maxRecDepth 100000 in
set_option maxHeartbeats 400000 in
theorem codeOf_1 (sh : Int) (w : World) :
    Calls Tryd.prog 29 #[.int .i64 1, .int .i64 sh] w fun e w' => e = .returned (.tuple #[codV 65, .bool true]) ∧ w' = w := by
  go_enter Tryd.func29, Tryd.ntmps29
  go_wp2
  go_ret2
  exact ⟨rfl, rfl⟩
set_option maxRecDepth 100000 in
set_option maxHeartbeats 400000 in
theorem codeOf_2 (sh : Int) (w : World) :
    Calls Tryd.prog 29 #[.int .i64 2, .int .i64 sh] w fun e w' => e = .returned (.tuple #[codV 66, .bool true]) ∧ w' = w := by
  go_enter Tryd.func29, Tryd.ntmps29
  go_wp2
  go_ret2
  exact ⟨rfl, rfl⟩
set_option maxRecDepth 100000 in
set_option maxHeartbeats 400000 in
theorem codeOf_3 (sh : Int) (w : World) :
    Calls Tryd.prog 29 #[.int .i64 3, .int .i64 sh] w fun e w' => e = .returned (.tuple #[codV 67, .bool true]) ∧ w' = w := by
  go_enter Tryd.func29, Tryd.ntmps29
  go_wp2
  go_ret2
  exact ⟨rfl, rfl⟩
set_option maxRecDepth 100000 in
set_option maxHeartbeats 400000 in
theorem codeOf_4 (sh : Int) (w : World) :
    Calls Tryd.prog 29 #[.int .i64 4, .int .i64 sh] w fun e w' => e = .returned (.tuple #[codV 68, .bool true]) ∧ w' = w := by
  go_enter Tryd.func29, Tryd.ntmps29
  go_wp2
  go_ret2
  exact ⟨rfl, rfl⟩
set_option maxRecDepth 100000 in
set_option maxHeartbeats 400000 in
theorem codeOf_5 (sh : Int) (w : World) :
    Calls Tryd.prog 29 #[.int .i64 5, .int .i64 sh] w fun e w' => e = .returned (.tuple #[shV w.heap.size, .bool true]) ∧ w' = w.alloc (.cells #[.int .i64 sh] 71) := by
  go_enter Tryd.func29, Tryd.ntmps29
  go_wp2
  go_ret2
  exact ⟨rfl, rfl⟩
set_option maxRecDepth 100000 in
set_option maxHeartbeats 400000 in
theorem codeOf_no (en sh : Int) (w : World) (h : codeB en = false) :
    Calls Tryd.prog 29 #[.int .i64 en, .int .i64 sh] w fun e w' => e = .returned (.tuple #[.nilIface, .bool false]) ∧ w' = w := by
  have h' := of_decide_eq_false h
  have n1 : (en == 1) = false := by rw [beq_eq_false_iff_ne]; omega
  have n2 : (en == 2) = false := by rw [beq_eq_false_iff_ne]; omega
  have n3 : (en == 3) = false := by rw [beq_eq_false_iff_ne]; omega
  have n4 : (en == 4) = false := by rw [beq_eq_false_iff_ne]; omega
  have n5 : (en == 5) = false := by rw [beq_eq_false_iff_ne]; omega
  clear h h'
  go_enter Tryd.func29, Tryd.ntmps29
  go_wp2
  go_ret2
  exact ⟨rfl, rfl⟩
set_option maxRecDepth 100000 in
set_option maxHeartbeats 400000 in
theorem ihigh_any (n : Int) (w : World) :
    Calls Tryd.prog 38 #[.int .i64 n] w fun e w' => e = .returned (.bool (highB n)) ∧ w' = w := by
  rcases (by omega : n < 55296 ∨ (55296 ≤ n ∧ n < 56320) ∨ (55296 ≤ n ∧ 56320 ≤ n)) with h | ⟨h, h'⟩ | ⟨h, h'⟩
  · rw [show highB n = false from decide_eq_false (by omega)]
    go_enter Tryd.func38, Tryd.ntmps38
    go_wp2
    go_ret
    exact ⟨rfl, rfl⟩
  · rw [show highB n = true from decide_eq_true (by omega)]
    go_enter Tryd.func38, Tryd.ntmps38
    go_wp2
    go_ret
    exact ⟨rfl, rfl⟩
  · rw [show highB n = false from decide_eq_false (by omega)]
    go_enter Tryd.func38, Tryd.ntmps38
    go_wp2
    go_ret
    exact ⟨ret_bool (decide_eq_false (by omega)), rfl⟩
set_option maxRecDepth 100000 in
set_option maxHeartbeats 400000 in
theorem iunit_2 (s : ByteArray) (w : World) (hs : 1 < s.size) :
    Calls Tryd.prog 67 #[.agg #[], .string s] w fun e w' => e = .returned (.int .i64 (unitN 2 s 0)) ∧ Below w.heap.size w w' := by
  have h0 : 0 < s.size := by omega
  have c0 := byte_le s 0 h0
  have c1 := byte_le s 1 hs
  have e0 := byt_eq h0
  have e1 := byt_eq hs
  have hsI : (1 : Int) < s.size := by omega
  have h0I : (0 : Int) < s.size := by omega
  have hu : unitN 2 s 0 = (s[0].toNat : Int) * (256 : Int) + (s[1].toNat : Int) := by unfold unitN; rw [if_pos rfl, e0]; show _ + byt s 1 = _; rw [e1]
  rw [hu]
  clear hu e0 e1
  go_enter Tryd.func67, Tryd.ntmps67
  go_wp2
  go_quiet (fail)
  go_wp2
  go_ret
  exact ⟨rfl, below_drewN ((Below.refl _ _).alloc (Nat.le_refl _) _) _⟩
set_option maxRecDepth 100000 in
set_option maxHeartbeats 400000 in
theorem iunit_3 (s : ByteArray) (w : World) (hs : 1 < s.size) :
    Calls Tryd.prog 71 #[.agg #[], .string s] w fun e w' => e = .returned (.int .i64 (unitN 3 s 0)) ∧ Below w.heap.size w w' := by
  have h0 : 0 < s.size := by omega
  have c0 := byte_le s 0 h0
  have c1 := byte_le s 1 hs
  have e0 := byt_eq h0
  have e1 := byt_eq hs
  have hsI : (1 : Int) < s.size := by omega
  have h0I : (0 : Int) < s.size := by omega
  have hu : unitN 3 s 0 = (s[1].toNat : Int) * (256 : Int) + (s[0].toNat : Int) := by unfold unitN; rw [if_neg (by decide), e0]; show byt s 1 * 256 + _ = _; rw [e1]
  rw [hu]
  clear hu e0 e1
  go_enter Tryd.func71, Tryd.ntmps71
  go_wp2
  go_quiet (fail)
  go_wp2
  go_ret
  exact ⟨rfl, below_drewN ((Below.refl _ _).alloc (Nat.le_refl _) _) _⟩
end Go.Proofs.YtklgagonbehpeaaDoor
