/-
  Contracts of spec.IsBegun, impl.formOfByte, impl.leastBegunBy.
-/
import Derived.Test.YtklgagonbehpeaaDoorBeg
import Derived.Test.YtklgagonbehpeaaDoorRAt
namespace Go.Proofs.YtklgagonbehpeaaDoor
open Go.ChangeShapes Go.WideShapes Go.ChangeAt Go.RowKit
def formB (b : Int) : Int := if b < 192 then 0 else if b < 224 then 1 else if b < 240 then 2 else 3
set_option maxRecDepth 100000 in
set_option maxHeartbeats 400000 in
theorem formB_any (b : Int) (w : World) (h0 : 0 ≤ b) (hh : b ≤ 255) (hT : Tabs w) :
    Calls Tryd.prog 41 #[.int .u8 b] w fun e w' => e = .returned (.int .i64 (formB b)) ∧ w' = w := by
  obtain ⟨a0, a1, a2, a3, b0, b1, b2, b3, _, _⟩ := hT
  rcases (by omega : b < 192 ∨ (192 ≤ b ∧ b < 224) ∨ (224 ≤ b ∧ b < 240) ∨ 240 ≤ b) with h1 | ⟨h1, h2⟩ | ⟨h1, h2⟩ | h1
  · rw [show formB b = 0 by unfold formB; rw [if_pos (by omega)]]
    go_enter Tryd.func41, Tryd.ntmps41
    go_wp2
    refine wp_loop_rounds 4 ?_
    rw [rounds_succ]
    go_wp2
    rw [rounds_succ]
    go_wp2
    rw [rounds_succ]
    go_wp2
    rw [rounds_succ]
    go_wp2
    go_ret
    exact ⟨rfl, rfl⟩
  · rw [show formB b = 1 by unfold formB; rw [if_neg (by omega), if_pos (by omega)]]
    go_enter Tryd.func41, Tryd.ntmps41
    go_wp2
    refine wp_loop_rounds 3 ?_
    rw [rounds_succ]
    go_wp2
    rw [rounds_succ]
    go_wp2
    rw [rounds_succ]
    go_wp2
    go_ret
    exact ⟨rfl, rfl⟩
  · rw [show formB b = 2 by unfold formB; rw [if_neg (by omega), if_neg (by omega), if_pos (by omega)]]
    go_enter Tryd.func41, Tryd.ntmps41
    go_wp2
    refine wp_loop_rounds 2 ?_
    rw [rounds_succ]
    go_wp2
    rw [rounds_succ]
    go_wp2
    go_ret
    exact ⟨rfl, rfl⟩
  · rw [show formB b = 3 by unfold formB; rw [if_neg (by omega), if_neg (by omega), if_neg (by omega)]]
    go_enter Tryd.func41, Tryd.ntmps41
    go_wp2
    refine wp_loop_rounds 1 ?_
    rw [rounds_succ]
    go_wp2
    go_ret
    exact ⟨rfl, rfl⟩
set_option maxRecDepth 100000 in
set_option maxHeartbeats 1000000 in
theorem least_11 (s : ByteArray) (w : World) (hm0 : 0 < s.size) (hm : (s.size : Int) = 1) (hl : 192 ≤ (s[0].toNat : Int)) (hT : Tabs w) :
    Calls Tryd.prog 43 #[.string s, .int .i64 1] w fun e w' => e = .returned (.int .i64 (max (((s[0].toNat : Int) - 192) * 64) 128)) ∧ Below w.heap.size w w' := by
  have c0 := byte_le s 0 hm0
  have ta := hT.a1
  have tb : ∀ n, (w.drewN n).cell? ⟨1, 1, none⟩ = some (.int .i64 128) := fun n => hT.b1
  have tc := hT.b1
  clear hT
  go_enter Tryd.func43, Tryd.ntmps43
  go_wp2
  go_quiet (fail)
  go_wp2
  refine wp_loop_rounds 2 ?_
  rw [rounds_succ]
  go_wp2
  rw [rounds_succ]
  go_wp2
  all_goals
    go_ret
    exact ⟨ret_int (by omega), below_drewN (Below.refl _ _) _⟩
set_option maxRecDepth 100000 in
set_option maxHeartbeats 1000000 in
theorem least_21 (s : ByteArray) (w : World) (hm0 : 0 < s.size) (hm : (s.size : Int) = 1) (hl : 224 ≤ (s[0].toNat : Int)) (hT : Tabs w) :
    Calls Tryd.prog 43 #[.string s, .int .i64 2] w fun e w' => e = .returned (.int .i64 (max (((s[0].toNat : Int) - 224) * 64 * 64) 2048)) ∧ Below w.heap.size w w' := by
  have c0 := byte_le s 0 hm0
  have ta := hT.a2
  have tb : ∀ n, (w.drewN n).cell? ⟨1, 2, none⟩ = some (.int .i64 2048) := fun n => hT.b2
  have tc := hT.b2
  clear hT
  go_enter Tryd.func43, Tryd.ntmps43
  go_wp2
  go_quiet (fail)
  go_wp2
  refine wp_loop_rounds 3 ?_
  rw [rounds_succ]
  go_wp2
  rw [rounds_succ]
  go_wp2
  rw [rounds_succ]
  go_wp2
  all_goals
    go_ret
    exact ⟨ret_int (by omega), below_drewN (Below.refl _ _) _⟩
set_option maxRecDepth 100000 in
set_option maxHeartbeats 1000000 in
theorem least_22 (s : ByteArray) (w : World) (hm0 : 0 < s.size) (hm1 : 1 < s.size) (hm : (s.size : Int) = 2) (hl : 224 ≤ (s[0].toNat : Int)) (hT : Tabs w) :
    Calls Tryd.prog 43 #[.string s, .int .i64 2] w fun e w' => e = .returned (.int .i64 (max ((((s[0].toNat : Int) - 224) * 64 + (s[1].toNat : Int) % 64) * 64) 2048)) ∧ Below w.heap.size w w' := by
  have c0 := byte_le s 0 hm0
  have c1 := byte_le s 1 hm1
  have ta := hT.a2
  have tb : ∀ n, (w.drewN n).cell? ⟨1, 2, none⟩ = some (.int .i64 2048) := fun n => hT.b2
  have tc := hT.b2
  clear hT
  go_enter Tryd.func43, Tryd.ntmps43
  go_wp2
  go_quiet (fail)
  go_wp2
  refine wp_loop_rounds 3 ?_
  rw [rounds_succ]
  go_wp2
  rw [rounds_succ]
  go_wp2
  rw [rounds_succ]
  go_wp2
  all_goals
    go_ret
    exact ⟨ret_int (by omega), below_drewN (Below.refl _ _) _⟩
set_option maxRecDepth 100000 in
set_option maxHeartbeats 1000000 in
theorem least_31 (s : ByteArray) (w : World) (hm0 : 0 < s.size) (hm : (s.size : Int) = 1) (hl : 240 ≤ (s[0].toNat : Int)) (hT : Tabs w) :
    Calls Tryd.prog 43 #[.string s, .int .i64 3] w fun e w' => e = .returned (.int .i64 (max (((s[0].toNat : Int) - 240) * 64 * 64 * 64) 65536)) ∧ Below w.heap.size w w' := by
  have c0 := byte_le s 0 hm0
  have ta := hT.a3
  have tb : ∀ n, (w.drewN n).cell? ⟨1, 3, none⟩ = some (.int .i64 65536) := fun n => hT.b3
  have tc := hT.b3
  clear hT
  go_enter Tryd.func43, Tryd.ntmps43
  go_wp2
  go_quiet (fail)
  go_wp2
  refine wp_loop_rounds 4 ?_
  rw [rounds_succ]
  go_wp2
  rw [rounds_succ]
  go_wp2
  rw [rounds_succ]
  go_wp2
  rw [rounds_succ]
  go_wp2
  all_goals
    go_ret
    exact ⟨ret_int (by omega), below_drewN (Below.refl _ _) _⟩
set_option maxRecDepth 100000 in
set_option maxHeartbeats 1000000 in
theorem least_32 (s : ByteArray) (w : World) (hm0 : 0 < s.size) (hm1 : 1 < s.size) (hm : (s.size : Int) = 2) (hl : 240 ≤ (s[0].toNat : Int)) (hT : Tabs w) :
    Calls Tryd.prog 43 #[.string s, .int .i64 3] w fun e w' => e = .returned (.int .i64 (max ((((s[0].toNat : Int) - 240) * 64 + (s[1].toNat : Int) % 64) * 64 * 64) 65536)) ∧ Below w.heap.size w w' := by
  have c0 := byte_le s 0 hm0
  have c1 := byte_le s 1 hm1
  have ta := hT.a3
  have tb : ∀ n, (w.drewN n).cell? ⟨1, 3, none⟩ = some (.int .i64 65536) := fun n => hT.b3
  have tc := hT.b3
  clear hT
  go_enter Tryd.func43, Tryd.ntmps43
  go_wp2
  go_quiet (fail)
  go_wp2
  refine wp_loop_rounds 4 ?_
  rw [rounds_succ]
  go_wp2
  rw [rounds_succ]
  go_wp2
  rw [rounds_succ]
  go_wp2
  rw [rounds_succ]
  go_wp2
  all_goals
    go_ret
    exact ⟨ret_int (by omega), below_drewN (Below.refl _ _) _⟩
set_option maxRecDepth 100000 in
set_option maxHeartbeats 1000000 in
theorem least_33 (s : ByteArray) (w : World) (hm0 : 0 < s.size) (hm1 : 1 < s.size) (hm2 : 2 < s.size) (hm : (s.size : Int) = 3) (hl : 240 ≤ (s[0].toNat : Int)) (hT : Tabs w) :
    Calls Tryd.prog 43 #[.string s, .int .i64 3] w fun e w' => e = .returned (.int .i64 (max (((((s[0].toNat : Int) - 240) * 64 + (s[1].toNat : Int) % 64) * 64 + (s[2].toNat : Int) % 64) * 64) 65536)) ∧ Below w.heap.size w w' := by
  have c0 := byte_le s 0 hm0
  have c1 := byte_le s 1 hm1
  have c2 := byte_le s 2 hm2
  have ta := hT.a3
  have tb : ∀ n, (w.drewN n).cell? ⟨1, 3, none⟩ = some (.int .i64 65536) := fun n => hT.b3
  have tc := hT.b3
  clear hT
  go_enter Tryd.func43, Tryd.ntmps43
  go_wp2
  go_quiet (fail)
  go_wp2
  refine wp_loop_rounds 4 ?_
  rw [rounds_succ]
  go_wp2
  rw [rounds_succ]
  go_wp2
  rw [rounds_succ]
  go_wp2
  rw [rounds_succ]
  go_wp2
  all_goals
    go_ret
    exact ⟨ret_int (by omega), below_drewN (Below.refl _ _) _⟩
end Go.Proofs.YtklgagonbehpeaaDoor
