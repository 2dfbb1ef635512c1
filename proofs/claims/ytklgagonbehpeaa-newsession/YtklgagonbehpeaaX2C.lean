/-
  The laws' comparison and marks of a session without runes.
-/
import Derived.Test.YtklgagonbehpeaaX2B
import Derived.Test.YtklgagonbehpeaaX1F
namespace Go.Proofs.Ytklgagonbehpeaa
open Go.ChangeShapes Go.WideShapes Go.ChangeAt Go.RowKit
theorem nil3 (w : World) (b t : Nat) : Own3 w b t (.slice none 0 0) (.slice none 0 0) (.slice none 0 0) [] [] [] :=
  ⟨⟨World.ownsRow_nil _ _ _ _, World.ownsRow_nil _ _ _ _, World.ownsRow_nil _ _ _ _⟩, ⟨(fun g e => by cases e), (fun g e => by cases e), (fun g e => by cases e)⟩, apart_nil _, apart_nil _, apart_nil _⟩
set_option maxRecDepth 100000 in
set_option maxHeartbeats 2000000 in
theorem eqSes_any (en most : Int) (w : World) :
    Calls Try.prog 35 #[.agg #[.int .i64 en, .int .i64 0, .int .i64 0, .string ⟨#[]⟩, .int .i64 most, .slice none 0 0, .slice none 0 0, .int .i64 0, .bool false], .agg #[.int .i64 en, .int .i64 0, .int .i64 0, .string ⟨#[]⟩, .int .i64 most, .slice none 0 0, .slice none 0 0, .int .i64 0, .bool false]] w fun r w' => r = .returned (.bool true) ∧ Below w.heap.size w w' := by
  have A2 : ∀ o p, Below w.heap.size w ((w.alloc o).alloc p) := fun o p => ((Below.refl _ _).alloc (Nat.le_refl _) o).alloc (by simp) p
  have hed : Hid (∀ w', Calls Try.prog 58 #[.agg #[.int .i64 en, .int .i64 0, .int .i64 0, .string ⟨#[]⟩], .agg #[.int .i64 en, .int .i64 0, .int .i64 0, .string ⟨#[]⟩]] w' fun r w'' => r = .returned (.bool true) ∧ Below w'.heap.size w' w'') := fun w' => by
    go_enter Try.func58, Try.ntmps58
    go_wp2
    go_ret
    exact ⟨rfl, by go_grown⟩
  have heb : Hid (∀ w', Calls Try.prog 26 #[.agg #[.int .i64 most, .slice none 0 0, .slice none 0 0, .int .i64 0], .agg #[.int .i64 most, .slice none 0 0, .slice none 0 0, .int .i64 0]] w' fun r w'' => r = .returned (.bool true) ∧ Below w'.heap.size w' w'') := fun w' => eqBuf_any most 0 [] [] none none none none 0 0 0 0 w' (by simp) (by simp) (ints_nil _) (ints_nil _) (ints_nil _) (ints_nil _)
  go_enter Try.func35, Try.ntmps35
  go_wp2_with fail
  refine Calls.mono (hed.out _) ?_
  rintro r w1 ⟨rfl, b1⟩
  have h0 : w1.heap[w.heap.size]? = some (.cells #[.int .i64 en, .int .i64 0, .int .i64 0, .string ⟨#[]⟩, .int .i64 most, .slice none 0 0, .slice none 0 0, .int .i64 0, .bool false] 53) := (b1.block w.heap.size (by simp; omega)).trans ((heap_prevB _ _ _ (by simp)).trans (heap_lastB _ _ _ rfl))
  have h1 : w1.heap[w.heap.size + 1]? = some (.cells #[.int .i64 en, .int .i64 0, .int .i64 0, .string ⟨#[]⟩, .int .i64 most, .slice none 0 0, .slice none 0 0, .int .i64 0, .bool false] 53) := (b1.block (w.heap.size + 1) (by simp)).trans (heap_lastB _ _ _ (by simp))
  have B1 : Hid (Below w.heap.size w w1) := (A2 _ _).trans (b1.mono (A2 _ _).size)
  have hs1 : w.heap.size + 1 < w1.heap.size := Nat.lt_of_lt_of_le (by simp) b1.size
  have c0 : w1.cell? ⟨w.heap.size, 0, none⟩ = some (.int .i64 en) := cell_ofB h0 0
  have c1 : w1.cell? ⟨w.heap.size, 1, none⟩ = some (.int .i64 0) := cell_ofB h0 1
  have c2 : w1.cell? ⟨w.heap.size, 2, none⟩ = some (.int .i64 0) := cell_ofB h0 2
  have c3 : w1.cell? ⟨w.heap.size, 3, none⟩ = some (.string ⟨#[]⟩) := cell_ofB h0 3
  have c4 : w1.cell? ⟨w.heap.size, 4, none⟩ = some (.int .i64 most) := cell_ofB h0 4
  have c5 : w1.cell? ⟨w.heap.size, 5, none⟩ = some (.slice none 0 0) := cell_ofB h0 5
  have c6 : w1.cell? ⟨w.heap.size, 6, none⟩ = some (.slice none 0 0) := cell_ofB h0 6
  have c7 : w1.cell? ⟨w.heap.size, 7, none⟩ = some (.int .i64 0) := cell_ofB h0 7
  have c8 : w1.cell? ⟨w.heap.size, 8, none⟩ = some (.bool false) := cell_ofB h0 8
  have d0 : w1.cell? ⟨w.heap.size + 1, 0, none⟩ = some (.int .i64 en) := cell_ofB h1 0
  have d1 : w1.cell? ⟨w.heap.size + 1, 1, none⟩ = some (.int .i64 0) := cell_ofB h1 1
  have d2 : w1.cell? ⟨w.heap.size + 1, 2, none⟩ = some (.int .i64 0) := cell_ofB h1 2
  have d3 : w1.cell? ⟨w.heap.size + 1, 3, none⟩ = some (.string ⟨#[]⟩) := cell_ofB h1 3
  have d4 : w1.cell? ⟨w.heap.size + 1, 4, none⟩ = some (.int .i64 most) := cell_ofB h1 4
  have d5 : w1.cell? ⟨w.heap.size + 1, 5, none⟩ = some (.slice none 0 0) := cell_ofB h1 5
  have d6 : w1.cell? ⟨w.heap.size + 1, 6, none⟩ = some (.slice none 0 0) := cell_ofB h1 6
  have d7 : w1.cell? ⟨w.heap.size + 1, 7, none⟩ = some (.int .i64 0) := cell_ofB h1 7
  have d8 : w1.cell? ⟨w.heap.size + 1, 8, none⟩ = some (.bool false) := cell_ofB h1 8
  have H0 : Hid _ := h0
  have H1 : Hid _ := h1
  clear b1 h0 h1 A2 hed
  go_wp2_with fail
  refine Calls.mono (heb.out _) ?_
  rintro r w2 ⟨rfl, b2⟩
  have e8 : w2.cell? ⟨w.heap.size, 8, none⟩ = some (.bool false) := cell_ofB ((b2.block w.heap.size (by omega)).trans H0.out) 8
  have f8 : w2.cell? ⟨w.heap.size + 1, 8, none⟩ = some (.bool false) := cell_ofB ((b2.block (w.heap.size + 1) hs1).trans H1.out) 8
  have B2 : Hid (Below w.heap.size w w2) := B1.out.trans (b2.mono B1.out.size)
  clear b2 c0 c1 c2 c3 c4 c5 c6 c7 c8 d0 d1 d2 d3 d4 d5 d6 d7 d8
  go_wp2
  go_ret
  exact ⟨rfl, B2.out⟩
set_option maxRecDepth 100000 in
set_option maxHeartbeats 2000000 in
theorem markSes_any (en most : Int) (w : World) :
    Calls Try.prog 36 #[.agg #[.int .i64 en, .int .i64 0, .int .i64 0, .string ⟨#[]⟩, .int .i64 most, .slice none 0 0, .slice none 0 0, .int .i64 0, .bool false], .int .i64 1] w fun r w' => r = .returned (.int .i64 1) ∧ Below w.heap.size w w' := by
  have A1 : ∀ o, Below w.heap.size w (w.alloc o) := fun o => (Below.refl _ _).alloc (Nat.le_refl _) o
  have hmb : Hid (∀ w', Calls Try.prog 29 #[.agg #[.int .i64 most, .slice none 0 0, .slice none 0 0, .int .i64 0], .int .i64 1] w' fun r w'' => r = .returned (.int .i64 1) ∧ Below w'.heap.size w' w'') := fun w' => (markBuf_any most 0 1 (by omega) (by omega) [] [] [] _ _ _ w'.heap.size w'.heap.size w' (by simp) (by simp) (Nat.le_refl _) (Nat.le_refl _) (nil3 _ _ _)).mono fun r w'' ⟨h1, _, h2⟩ => ⟨by simpa using h1, h2.1⟩
  go_enter Try.func36, Try.ntmps36
  go_wp2_with fail
  refine Calls.mono (hmb.out _) ?_
  rintro r w1 ⟨rfl, b1⟩
  have B1 : Hid (Below w.heap.size w w1) := (A1 _).trans (b1.mono (A1 _).size)
  clear b1 A1
  go_wp2
  go_ret
  exact ⟨rfl, B1.out⟩
set_option maxRecDepth 100000 in
set_option maxHeartbeats 2000000 in
theorem heldSes_any (en most : Int) (w : World) :
    Calls Try.prog 37 #[.agg #[.int .i64 en, .int .i64 0, .int .i64 0, .string ⟨#[]⟩, .int .i64 most, .slice none 0 0, .slice none 0 0, .int .i64 0, .bool false], .int .i64 1] w fun r w' => r = .returned (.int .i64 1) ∧ Below w.heap.size w w' := by
  have A1 : ∀ o, Below w.heap.size w (w.alloc o) := fun o => (Below.refl _ _).alloc (Nat.le_refl _) o
  have hmb : Hid (∀ w', Calls Try.prog 31 #[.agg #[.int .i64 most, .slice none 0 0, .slice none 0 0, .int .i64 0], .int .i64 1] w' fun r w'' => r = .returned (.int .i64 1) ∧ Below w'.heap.size w' w'') := fun w' => (heldBuf_any most 0 1 (by omega) (by omega) [] [] none none 0 0 w' (by simp) (by simp) (ints_nil _) (ints_nil _)).mono fun r w'' ⟨h1, h2⟩ => ⟨by simpa using h1, h2⟩
  go_enter Try.func37, Try.ntmps37
  go_wp2_with fail
  refine Calls.mono (hmb.out _) ?_
  rintro r w1 ⟨rfl, b1⟩
  have B1 : Hid (Below w.heap.size w w1) := (A1 _).trans (b1.mono (A1 _).size)
  clear b1 A1
  go_wp2
  go_ret
  exact ⟨rfl, B1.out⟩
end Go.Proofs.Ytklgagonbehpeaa
