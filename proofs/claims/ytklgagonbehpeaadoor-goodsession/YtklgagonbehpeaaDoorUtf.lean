/-
  Contracts of impl.formOfRune, impl.Utf8Of and spec.Utf8Of: for every number, where the two tables hold what the program's text lays in them.
-/
import Derived.Test.YtklgagonbehpeaaDoorReg
import Derived.Test.YtklgagonbehpeaaDoorDec
namespace Go.Proofs.YtklgagonbehpeaaDoor
open Go.ChangeShapes Go.WideShapes Go.ChangeAt Go.RowKit
/-- What the two tables of forms hold. -/
structure Tabs (w : World) : Prop where
  a0 : w.cell? ⟨0, 0, none⟩ = some (.int .i64 0)
  a1 : w.cell? ⟨0, 1, none⟩ = some (.int .i64 192)
  a2 : w.cell? ⟨0, 2, none⟩ = some (.int .i64 224)
  a3 : w.cell? ⟨0, 3, none⟩ = some (.int .i64 240)
  b0 : w.cell? ⟨1, 0, none⟩ = some (.int .i64 0)
  b1 : w.cell? ⟨1, 1, none⟩ = some (.int .i64 128)
  b2 : w.cell? ⟨1, 2, none⟩ = some (.int .i64 2048)
  b3 : w.cell? ⟨1, 3, none⟩ = some (.int .i64 65536)
  bigA : 0 < w.heap.size
  bigB : 1 < w.heap.size
theorem Tabs.below {w w' : World} (h : Tabs w) (hb : Below w.heap.size w w') : Tabs w' := by
  have ca : ∀ o, w'.cell? ⟨0, o, none⟩ = w.cell? ⟨0, o, none⟩ := fun o => hb.cell (p := ⟨0, o, none⟩) h.bigA
  have cb : ∀ o, w'.cell? ⟨1, o, none⟩ = w.cell? ⟨1, o, none⟩ := fun o => hb.cell (p := ⟨1, o, none⟩) h.bigB
  exact ⟨(ca 0).trans h.a0, (ca 1).trans h.a1, (ca 2).trans h.a2, (ca 3).trans h.a3, (cb 0).trans h.b0, (cb 1).trans h.b1, (cb 2).trans h.b2, (cb 3).trans h.b3, Nat.lt_of_lt_of_le h.bigA hb.size, Nat.lt_of_lt_of_le h.bigB hb.size⟩
def formR (r : Int) : Int := if r < 128 then 0 else if r < 2048 then 1 else if r < 65536 then 2 else 3
set_option maxRecDepth 100000 in
set_option maxHeartbeats 400000 in
theorem form_any (r : Int) (w : World) (h0 : 0 ≤ r) (hT : Tabs w) :
    Calls Tryd.prog 46 #[.int .i64 r] w fun e w' => e = .returned (.int .i64 (formR r)) ∧ w' = w := by
  obtain ⟨a0, a1, a2, a3, b0, b1, b2, b3, _, _⟩ := hT
  rcases (by omega : r < 128 ∨ (128 ≤ r ∧ r < 2048) ∨ (2048 ≤ r ∧ r < 65536) ∨ 65536 ≤ r) with h1 | ⟨h1, h2⟩ | ⟨h1, h2⟩ | h1
  · rw [show formR r = 0 by unfold formR; rw [if_pos h1]]
    go_enter Tryd.func46, Tryd.ntmps46
    go_wp2
    refine wp_loop_rounds 4 ?_
    rw [rounds_succ]
    go_wp2
    rw [rounds_succ]
    go_wp2
    rw [rounds_succ]
    go_wp2
    rw [rounds_succ]
    go_wp2
    go_ret
    exact ⟨rfl, rfl⟩
  · rw [show formR r = 1 by unfold formR; rw [if_neg (by omega), if_pos h2]]
    go_enter Tryd.func46, Tryd.ntmps46
    go_wp2
    refine wp_loop_rounds 3 ?_
    rw [rounds_succ]
    go_wp2
    rw [rounds_succ]
    go_wp2
    rw [rounds_succ]
    go_wp2
    go_ret
    exact ⟨rfl, rfl⟩
  · rw [show formR r = 2 by unfold formR; rw [if_neg (by omega), if_neg (by omega), if_pos h2]]
    go_enter Tryd.func46, Tryd.ntmps46
    go_wp2
    refine wp_loop_rounds 2 ?_
    rw [rounds_succ]
    go_wp2
    rw [rounds_succ]
    go_wp2
    go_ret
    exact ⟨rfl, rfl⟩
  · rw [show formR r = 3 by unfold formR; rw [if_neg (by omega), if_neg (by omega), if_neg (by omega)]]
    go_enter Tryd.func46, Tryd.ntmps46
    go_wp2
    refine wp_loop_rounds 1 ?_
    rw [rounds_succ]
    go_wp2
    go_ret
    exact ⟨rfl, rfl⟩
theorem mk_1 (w : World) : (Instr.makeSlice 61 (.int .i64 1) (.int .i64 1)).run Tryd.prog w = .ok (.slice (some ⟨w.heap.size, 0, none⟩) 1 1) (w.alloc (.cells #[.int .u8 0] 5)) := by kernel_rfl
theorem mk_2 (w : World) : (Instr.makeSlice 61 (.int .i64 2) (.int .i64 2)).run Tryd.prog w = .ok (.slice (some ⟨w.heap.size, 0, none⟩) 2 2) (w.alloc (.cells #[.int .u8 0, .int .u8 0] 5)) := by kernel_rfl
theorem mk_3 (w : World) : (Instr.makeSlice 61 (.int .i64 3) (.int .i64 3)).run Tryd.prog w = .ok (.slice (some ⟨w.heap.size, 0, none⟩) 3 3) (w.alloc (.cells #[.int .u8 0, .int .u8 0, .int .u8 0] 5)) := by kernel_rfl
theorem mk_4 (w : World) : (Instr.makeSlice 61 (.int .i64 4) (.int .i64 4)).run Tryd.prog w = .ok (.slice (some ⟨w.heap.size, 0, none⟩) 4 4) (w.alloc (.cells #[.int .u8 0, .int .u8 0, .int .u8 0, .int .u8 0] 5)) := by kernel_rfl
set_option maxRecDepth 100000 in
set_option maxHeartbeats 400000 in
theorem iutf_1 (r : Int) (w : World) (h0 : 0 ≤ r) (hh : r < 128) (hg : goodB r = true) (hT : Tabs w) :
    Calls Tryd.prog 42 #[.int .i64 r] w fun e w' => e = .returned (.tuple #[.string (strOfNums [r]), .bool true]) ∧ Below w.heap.size w w' := by
  have HG : Hid _ := hg
  have HT : Hid _ := hT
  have HF : Hid (formR r = 0) := by unfold formR; rw [if_pos (by omega)]; rfl
  have c1 := conv_1
  have m1 := mk_1
  have t1 : ∀ o, (w.alloc o).cell? ⟨0, 0, none⟩ = some (.int .i64 0) := fun o => (hT.below ((Below.refl _ _).alloc (Nat.le_refl _) o)).a0
  clear hg hT
  go_enter Tryd.func42, Tryd.ntmps42
  go_wp2_with (first | (go_at_call 45; refine (igood_yes HG.out _).mono ?_; rintro e w' ⟨rfl, rfl⟩) | (go_at_call 46; refine (form_any _ _ (by omega) HT.out).mono ?_; rintro e w' ⟨rfl, rfl⟩; rw [HF.out]))
  refine wp_loop_rounds 1 ?_
  rw [rounds_succ]
  go_wp2
  go_ret2
  exact ⟨rfl, (Below.refl _ _).alloc (Nat.le_refl _) _⟩
set_option maxRecDepth 100000 in
set_option maxHeartbeats 400000 in
theorem iutf_2 (r : Int) (w : World) (h0 : 128 ≤ r) (hh : r < 2048) (hg : goodB r = true) (hT : Tabs w) :
    Calls Tryd.prog 42 #[.int .i64 r] w fun e w' => e = .returned (.tuple #[.string (strOfNums [192 + r / 64, 128 + r % 64]), .bool true]) ∧ Below w.heap.size w w' := by
  have HG : Hid _ := hg
  have HT : Hid _ := hT
  have HF : Hid (formR r = 1) := by unfold formR; rw [if_neg (by omega), if_pos (by omega)]; rfl
  have c2 := conv_2
  have m2 := mk_2
  have t2 : ∀ o, (w.alloc o).cell? ⟨0, 1, none⟩ = some (.int .i64 192) := fun o => (hT.below ((Below.refl _ _).alloc (Nat.le_refl _) o)).a1
  clear hg hT
  go_enter Tryd.func42, Tryd.ntmps42
  go_wp2_with (first | (go_at_call 45; refine (igood_yes HG.out _).mono ?_; rintro e w' ⟨rfl, rfl⟩) | (go_at_call 46; refine (form_any _ _ (by omega) HT.out).mono ?_; rintro e w' ⟨rfl, rfl⟩; rw [HF.out]))
  refine wp_loop_rounds 2 ?_
  rw [rounds_succ]
  go_wp2
  rw [rounds_succ]
  go_wp2
  go_ret2
  exact ⟨rfl, (Below.refl _ _).alloc (Nat.le_refl _) _⟩
set_option maxRecDepth 100000 in
set_option maxHeartbeats 400000 in
theorem iutf_3 (r : Int) (w : World) (h0 : 2048 ≤ r) (hh : r < 65536) (hg : goodB r = true) (hT : Tabs w) :
    Calls Tryd.prog 42 #[.int .i64 r] w fun e w' => e = .returned (.tuple #[.string (strOfNums [224 + r / 64 / 64, 128 + r / 64 % 64, 128 + r % 64]), .bool true]) ∧ Below w.heap.size w w' := by
  have HG : Hid _ := hg
  have HT : Hid _ := hT
  have HF : Hid (formR r = 2) := by unfold formR; rw [if_neg (by omega), if_neg (by omega), if_pos (by omega)]; rfl
  have c3 := conv_3
  have m3 := mk_3
  have t3 : ∀ o, (w.alloc o).cell? ⟨0, 2, none⟩ = some (.int .i64 224) := fun o => (hT.below ((Below.refl _ _).alloc (Nat.le_refl _) o)).a2
  clear hg hT
  go_enter Tryd.func42, Tryd.ntmps42
  go_wp2_with (first | (go_at_call 45; refine (igood_yes HG.out _).mono ?_; rintro e w' ⟨rfl, rfl⟩) | (go_at_call 46; refine (form_any _ _ (by omega) HT.out).mono ?_; rintro e w' ⟨rfl, rfl⟩; rw [HF.out]))
  refine wp_loop_rounds 3 ?_
  rw [rounds_succ]
  go_wp2
  rw [rounds_succ]
  go_wp2
  rw [rounds_succ]
  go_wp2
  go_ret2
  exact ⟨rfl, (Below.refl _ _).alloc (Nat.le_refl _) _⟩
set_option maxRecDepth 100000 in
set_option maxHeartbeats 400000 in
theorem iutf_4 (r : Int) (w : World) (h0 : 65536 ≤ r) (hh : r ≤ 1114111) (hg : goodB r = true) (hT : Tabs w) :
    Calls Tryd.prog 42 #[.int .i64 r] w fun e w' => e = .returned (.tuple #[.string (strOfNums [240 + r / 64 / 64 / 64, 128 + r / 64 / 64 % 64, 128 + r / 64 % 64, 128 + r % 64]), .bool true]) ∧ Below w.heap.size w w' := by
  have HG : Hid _ := hg
  have HT : Hid _ := hT
  have HF : Hid (formR r = 3) := by unfold formR; rw [if_neg (by omega), if_neg (by omega), if_neg (by omega)]; rfl
  have c4 := conv_4
  have m4 := mk_4
  have t4 : ∀ o, (w.alloc o).cell? ⟨0, 3, none⟩ = some (.int .i64 240) := fun o => (hT.below ((Below.refl _ _).alloc (Nat.le_refl _) o)).a3
  clear hg hT
  go_enter Tryd.func42, Tryd.ntmps42
  go_wp2_with (first | (go_at_call 45; refine (igood_yes HG.out _).mono ?_; rintro e w' ⟨rfl, rfl⟩) | (go_at_call 46; refine (form_any _ _ (by omega) HT.out).mono ?_; rintro e w' ⟨rfl, rfl⟩; rw [HF.out]))
  refine wp_loop_rounds 4 ?_
  rw [rounds_succ]
  go_wp2
  rw [rounds_succ]
  go_wp2
  rw [rounds_succ]
  go_wp2
  rw [rounds_succ]
  go_wp2
  go_ret2
  exact ⟨rfl, (Below.refl _ _).alloc (Nat.le_refl _) _⟩
theorem iutf_any (r : Int) (w : World) (hg : goodB r = true) (hT : Tabs w) :
    Calls Tryd.prog 42 #[.int .i64 r] w fun e w' => e = .returned (.tuple #[.string (encS r), .bool true]) ∧ Below w.heap.size w w' := by
  have h := goodB_true hg
  unfold encS
  rcases (by omega : r < 128 ∨ (128 ≤ r ∧ r < 2048) ∨ (2048 ≤ r ∧ r < 65536) ∨ 65536 ≤ r) with h1 | ⟨h1, h2⟩ | ⟨h1, h2⟩ | h1
  · rw [encN_1 h1]; exact iutf_1 r w h.1 h1 hg hT
  · rw [encN_2 h1 h2]; exact iutf_2 r w h1 h2 hg hT
  · rw [encN_3 h1 h2, show r / 4096 = r / 64 / 64 by omega]; exact iutf_3 r w h1 h2 hg hT
  · rw [encN_4 h1, show r / 4096 = r / 64 / 64 by omega, show r / 262144 = r / 64 / 64 / 64 by omega]; exact iutf_4 r w h1 h.2.1 hg hT
set_option maxRecDepth 100000 in
set_option maxHeartbeats 400000 in
theorem iutf_no (r : Int) (w : World) (hg : goodB r = false) :
    Calls Tryd.prog 42 #[.int .i64 r] w fun e w' => e = .returned (.tuple #[.string ⟨#[]⟩, .bool false]) ∧ w' = w := by
  have HG : Hid _ := hg
  clear hg
  go_enter Tryd.func42, Tryd.ntmps42
  go_wp2_with (go_at_call 45; refine (igood_not HG.out _).mono ?_; rintro e w' ⟨rfl, rfl⟩)
  go_ret2
  exact ⟨rfl, rfl⟩
end Go.Proofs.YtklgagonbehpeaaDoor
