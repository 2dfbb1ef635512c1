/-
  Contracts of impl.mayHold, impl.badSize and impl.GoodDecoder.
-/
import Derived.Test.YtklgagonbehpeaaDoorI2Code
import Derived.Test.YtklgagonbehpeaaDoorD2Two
namespace Go.Proofs.YtklgagonbehpeaaDoor
open Go.ChangeShapes Go.WideShapes Go.ChangeAt Go.RowKit
theorem ac_1 (w : World) : (Instr.typeAssert (codV 65) 55 65 true).run Tryd.prog w = .ok (.tuple #[.agg #[], .bool true]) w := by kernel_rfl
theorem ac_2 (w : World) : (Instr.typeAssert (codV 66) 55 65 true).run Tryd.prog w = .ok (.tuple #[.agg #[], .bool false]) w := by kernel_rfl
theorem ac_3 (w : World) : (Instr.typeAssert (codV 67) 55 65 true).run Tryd.prog w = .ok (.tuple #[.agg #[], .bool false]) w := by kernel_rfl
theorem ac_4 (w : World) : (Instr.typeAssert (codV 68) 55 65 true).run Tryd.prog w = .ok (.tuple #[.agg #[], .bool false]) w := by kernel_rfl
theorem ac_5 (b : Nat) (w : World) : (Instr.typeAssert (shV b) 55 65 true).run Tryd.prog w = .ok (.tuple #[.agg #[], .bool false]) w := by kernel_rfl
theorem as_2 (v : Value) (xT : TypeId) (w : World) : (Instr.typeAssert (.iface 66 v) xT 73 true).run Tryd.prog w = .ok (.tuple #[.iface 66 v, .bool true]) w := run_typeAssert_hasB Tryd.underlying73 (by kernel_rfl) v xT w
theorem as_3 (v : Value) (xT : TypeId) (w : World) : (Instr.typeAssert (.iface 67 v) xT 73 true).run Tryd.prog w = .ok (.tuple #[.iface 67 v, .bool true]) w := run_typeAssert_hasB Tryd.underlying73 (by kernel_rfl) v xT w
theorem as_1 (v : Value) (xT : TypeId) (w : World) : (Instr.typeAssert (.iface 65 v) xT 73 true).run Tryd.prog w = .ok (.tuple #[.nilIface, .bool false]) w := run_typeAssert_lacksB Tryd.underlying73 (by kernel_rfl) (by kernel_rfl) v xT w
theorem as_4 (v : Value) (xT : TypeId) (w : World) : (Instr.typeAssert (.iface 68 v) xT 73 true).run Tryd.prog w = .ok (.tuple #[.nilIface, .bool false]) w := run_typeAssert_lacksB Tryd.underlying73 (by kernel_rfl) (by kernel_rfl) v xT w
theorem as_5 (v : Value) (xT : TypeId) (w : World) : (Instr.typeAssert (.iface 69 v) xT 73 true).run Tryd.prog w = .ok (.tuple #[.nilIface, .bool false]) w := run_typeAssert_lacksB Tryd.underlying73 (by kernel_rfl) (by kernel_rfl) v xT w
set_option maxRecDepth 100000 in
set_option maxHeartbeats 400000 in
theorem mh_1 (held : ByteArray) (w : World) (hT : Tabs w) :
    Calls Tryd.prog 30 #[codV 65, .string held] w fun e w' => e = .returned (.bool (decide (held.size = 0) || begB held)) ∧ Below w.heap.size w w' := by
  have HT : Hid _ := hT
  have acn := ac_1
  by_cases h0 : held.size = 0
  · have hem := isEmpty_yes h0
    rw [decide_eq_true h0, Bool.true_or]
    clear h0 hT
    go_enter Tryd.func30, Tryd.ntmps30
    go_wp2
    go_ret
    exact ⟨rfl, (Below.refl _ _).alloc (Nat.le_refl _) _⟩
  · have hem := isEmpty_no (s := held) (by omega)
    rw [decide_eq_false h0, Bool.false_or]
    clear h0 hT
    go_enter Tryd.func30, Tryd.ntmps30
    go_wp2_with fail
    refine (ibegun_all held _ (HT.out.below ((Below.refl _ _).alloc (Nat.le_refl _) _))).mono ?_
    rintro e w1 ⟨rfl, b1⟩
    go_wp2
    go_ret
    exact ⟨rfl, ((Below.refl _ _).alloc (Nat.le_refl _) _).trans (b1.mono (by simp))⟩
set_option maxRecDepth 100000 in
set_option maxHeartbeats 400000 in
theorem mh_2 (held : ByteArray) (w : World) :
    Calls Tryd.prog 30 #[codV 66, .string held] w fun e w' => e = .returned (.bool (decide (held.size < 2) || (decide (held.size < 4) && highB (unitN 2 held 0)))) ∧ Below w.heap.size w w' := by
  have asn := fun xT w => as_2 (.agg #[]) xT w
  have acn := ac_2
  by_cases h2 : held.size < 2
  · have h2I : (held.size : Int) < 2 := by omega
    rw [decide_eq_true h2, Bool.true_or]
    go_enter Tryd.func30, Tryd.ntmps30
    go_wp2
    go_ret
    exact ⟨rfl, Below.refl _ _⟩
  · have h2I : ¬ (held.size : Int) < 2 := by omega
    rw [decide_eq_false h2, Bool.false_or]
    by_cases h4 : held.size < 4
    · have h4I : (held.size : Int) < 4 := by omega
      rw [decide_eq_true h4, Bool.true_and]
      go_enter Tryd.func30, Tryd.ntmps30
      go_wp2_with fail
      refine (iunit_2 held _ (by omega)).mono ?_
      rintro e w1 ⟨rfl, b1⟩
      go_wp2_with fail
      refine (ihigh_any _ _).mono ?_
      rintro e w2 ⟨rfl, rfl⟩
      go_wp2
      go_ret
      exact ⟨ret_bool (by simp), b1⟩
    · have h4I : ¬ (held.size : Int) < 4 := by omega
      rw [decide_eq_false h4, Bool.false_and]
      go_enter Tryd.func30, Tryd.ntmps30
      go_wp2
      go_ret
      exact ⟨ret_bool (by simp), Below.refl _ _⟩
set_option maxRecDepth 100000 in
set_option maxHeartbeats 400000 in
theorem mh_3 (held : ByteArray) (w : World) :
    Calls Tryd.prog 30 #[codV 67, .string held] w fun e w' => e = .returned (.bool (decide (held.size < 2) || (decide (held.size < 4) && highB (unitN 3 held 0)))) ∧ Below w.heap.size w w' := by
  have asn := fun xT w => as_3 (.agg #[]) xT w
  have acn := ac_3
  by_cases h2 : held.size < 2
  · have h2I : (held.size : Int) < 2 := by omega
    rw [decide_eq_true h2, Bool.true_or]
    go_enter Tryd.func30, Tryd.ntmps30
    go_wp2
    go_ret
    exact ⟨rfl, Below.refl _ _⟩
  · have h2I : ¬ (held.size : Int) < 2 := by omega
    rw [decide_eq_false h2, Bool.false_or]
    by_cases h4 : held.size < 4
    · have h4I : (held.size : Int) < 4 := by omega
      rw [decide_eq_true h4, Bool.true_and]
      go_enter Tryd.func30, Tryd.ntmps30
      go_wp2_with fail
      refine (iunit_3 held _ (by omega)).mono ?_
      rintro e w1 ⟨rfl, b1⟩
      go_wp2_with fail
      refine (ihigh_any _ _).mono ?_
      rintro e w2 ⟨rfl, rfl⟩
      go_wp2
      go_ret
      exact ⟨ret_bool (by simp), b1⟩
    · have h4I : ¬ (held.size : Int) < 4 := by omega
      rw [decide_eq_false h4, Bool.false_and]
      go_enter Tryd.func30, Tryd.ntmps30
      go_wp2
      go_ret
      exact ⟨ret_bool (by simp), Below.refl _ _⟩
set_option maxRecDepth 100000 in
set_option maxHeartbeats 400000 in
theorem mh_4 (held : ByteArray) (w : World) :
    Calls Tryd.prog 30 #[codV 68, .string held] w fun e w' => e = .returned (.bool (decide (held.size = 0))) ∧ Below w.heap.size w w' := by
  have asn := fun xT w => as_4 (.agg #[]) xT w
  have acn := ac_4
  by_cases h0 : held.size = 0
  · have hem := isEmpty_yes h0
    rw [decide_eq_true h0]
    clear h0
    go_enter Tryd.func30, Tryd.ntmps30
    go_wp2
    go_ret
    exact ⟨rfl, Below.refl _ _⟩
  · have hem := isEmpty_no (s := held) (by omega)
    rw [decide_eq_false h0]
    clear h0
    go_enter Tryd.func30, Tryd.ntmps30
    go_wp2
    go_ret
    exact ⟨rfl, Below.refl _ _⟩
set_option maxRecDepth 100000 in
set_option maxHeartbeats 400000 in
theorem mh_5 (held : ByteArray) (b : Nat) (w : World) :
    Calls Tryd.prog 30 #[shV b, .string held] w fun e w' => e = .returned (.bool (decide (held.size = 0))) ∧ Below w.heap.size w w' := by
  have asn := fun xT w => as_5 (.pointer (some ⟨b, 0, none⟩)) xT w
  have acn := ac_5 b
  by_cases h0 : held.size = 0
  · have hem := isEmpty_yes h0
    rw [decide_eq_true h0]
    clear h0
    go_enter Tryd.func30, Tryd.ntmps30
    go_wp2
    go_ret
    exact ⟨rfl, Below.refl _ _⟩
  · have hem := isEmpty_no (s := held) (by omega)
    rw [decide_eq_false h0]
    clear h0
    go_enter Tryd.func30, Tryd.ntmps30
    go_wp2
    go_ret
    exact ⟨rfl, Below.refl _ _⟩
set_option maxRecDepth 100000 in
set_option maxHeartbeats 1000000 in
theorem ig_1 (sh lo : Int) (held : ByteArray) (w : World) (M : Bool) (hM : ∀ w, Tabs w → Calls Tryd.prog 30 #[codV 65, .string held] w fun e w' => e = .returned (.bool M) ∧ Below w.heap.size w w') (hT : Tabs w) :
    Calls Tryd.prog 15 #[decV 1 sh lo held] w fun e w' => e = .returned (.bool (M && decide (sh = 0) && decide (lo = 0))) ∧ Below w.heap.size w w' := by
  have HM : Hid _ := hM
  have HT : Hid _ := hT
  clear hM hT
  have AL : ∀ o : Obj, Below w.heap.size w (w.alloc o) := fun o => (Below.refl _ _).alloc (Nat.le_refl _) o
  cases M
  · rw [Bool.false_and, Bool.false_and]
    go_enter Tryd.func15, Tryd.ntmps15
    go_wp2_with fail
    refine (codeOf_1 0 _).mono ?_
    rintro e w1 ⟨rfl, rfl⟩
    go_wp2_with fail
    refine (HM.out _ (HT.out.below (AL _))).mono ?_
    rintro e w2 ⟨rfl, b2⟩
    obtain ⟨d0, d1, d2, d3, -, -⟩ := DecAt.below (DecAt.new w 1 sh lo held 31 _ rfl) b2
    have B := Below.trans (AL _) (b2.mono (Below.size (AL _)))
    clear b2
    go_wp2
    go_ret
    exact ⟨by first | rfl | exact ret_bool (decide_eq_false (by omega)), B⟩
  · rw [Bool.true_and]
    by_cases h1 : sh = 0
    · have z1 : (sh == 0) = true := by rw [beq_iff_eq]; exact h1
      rw [decide_eq_true h1, Bool.true_and]
      by_cases h2 : lo = 0
      · have z2 : (lo == 0) = true := by rw [beq_iff_eq]; exact h2
        rw [decide_eq_true h2]
        clear h1 h2
        go_enter Tryd.func15, Tryd.ntmps15
        go_wp2_with fail
        refine (codeOf_1 0 _).mono ?_
        rintro e w1 ⟨rfl, rfl⟩
        go_wp2_with fail
        refine (HM.out _ (HT.out.below (AL _))).mono ?_
        rintro e w2 ⟨rfl, b2⟩
        obtain ⟨d0, d1, d2, d3, -, -⟩ := DecAt.below (DecAt.new w 1 sh lo held 31 _ rfl) b2
        have B := Below.trans (AL _) (b2.mono (Below.size (AL _)))
        clear b2
        go_wp2
        go_ret
        exact ⟨by first | rfl | exact ret_bool (decide_eq_false (by omega)), B⟩
      · have z2 : (lo == 0) = false := by rw [beq_eq_false_iff_ne]; exact h2
        rw [decide_eq_false h2]
        clear h1 h2
        go_enter Tryd.func15, Tryd.ntmps15
        go_wp2_with fail
        refine (codeOf_1 0 _).mono ?_
        rintro e w1 ⟨rfl, rfl⟩
        go_wp2_with fail
        refine (HM.out _ (HT.out.below (AL _))).mono ?_
        rintro e w2 ⟨rfl, b2⟩
        obtain ⟨d0, d1, d2, d3, -, -⟩ := DecAt.below (DecAt.new w 1 sh lo held 31 _ rfl) b2
        have B := Below.trans (AL _) (b2.mono (Below.size (AL _)))
        clear b2
        go_wp2
        go_ret
        exact ⟨by first | rfl | exact ret_bool (decide_eq_false (by omega)), B⟩
    · have z1 : (sh == 0) = false := by rw [beq_eq_false_iff_ne]; exact h1
      rw [decide_eq_false h1, Bool.false_and]
      clear h1
      go_enter Tryd.func15, Tryd.ntmps15
      go_wp2_with fail
      refine (codeOf_1 0 _).mono ?_
      rintro e w1 ⟨rfl, rfl⟩
      go_wp2_with fail
      refine (HM.out _ (HT.out.below (AL _))).mono ?_
      rintro e w2 ⟨rfl, b2⟩
      obtain ⟨d0, d1, d2, d3, -, -⟩ := DecAt.below (DecAt.new w 1 sh lo held 31 _ rfl) b2
      have B := Below.trans (AL _) (b2.mono (Below.size (AL _)))
      clear b2
      go_wp2
      go_ret
      exact ⟨by first | rfl | exact ret_bool (decide_eq_false (by omega)), B⟩
set_option maxRecDepth 100000 in
set_option maxHeartbeats 1000000 in
theorem ig_2 (sh lo : Int) (held : ByteArray) (w : World) (M : Bool) (hM : ∀ w, Tabs w → Calls Tryd.prog 30 #[codV 66, .string held] w fun e w' => e = .returned (.bool M) ∧ Below w.heap.size w w') (hT : Tabs w) :
    Calls Tryd.prog 15 #[decV 2 sh lo held] w fun e w' => e = .returned (.bool (M && decide (sh = 0) && decide (lo = 0))) ∧ Below w.heap.size w w' := by
  have HM : Hid _ := hM
  have HT : Hid _ := hT
  clear hM hT
  have AL : ∀ o : Obj, Below w.heap.size w (w.alloc o) := fun o => (Below.refl _ _).alloc (Nat.le_refl _) o
  cases M
  · rw [Bool.false_and, Bool.false_and]
    go_enter Tryd.func15, Tryd.ntmps15
    go_wp2_with fail
    refine (codeOf_2 0 _).mono ?_
    rintro e w1 ⟨rfl, rfl⟩
    go_wp2_with fail
    refine (HM.out _ (HT.out.below (AL _))).mono ?_
    rintro e w2 ⟨rfl, b2⟩
    obtain ⟨d0, d1, d2, d3, -, -⟩ := DecAt.below (DecAt.new w 2 sh lo held 31 _ rfl) b2
    have B := Below.trans (AL _) (b2.mono (Below.size (AL _)))
    clear b2
    go_wp2
    go_ret
    exact ⟨by first | rfl | exact ret_bool (decide_eq_false (by omega)), B⟩
  · rw [Bool.true_and]
    by_cases h1 : sh = 0
    · have z1 : (sh == 0) = true := by rw [beq_iff_eq]; exact h1
      rw [decide_eq_true h1, Bool.true_and]
      by_cases h2 : lo = 0
      · have z2 : (lo == 0) = true := by rw [beq_iff_eq]; exact h2
        rw [decide_eq_true h2]
        clear h1 h2
        go_enter Tryd.func15, Tryd.ntmps15
        go_wp2_with fail
        refine (codeOf_2 0 _).mono ?_
        rintro e w1 ⟨rfl, rfl⟩
        go_wp2_with fail
        refine (HM.out _ (HT.out.below (AL _))).mono ?_
        rintro e w2 ⟨rfl, b2⟩
        obtain ⟨d0, d1, d2, d3, -, -⟩ := DecAt.below (DecAt.new w 2 sh lo held 31 _ rfl) b2
        have B := Below.trans (AL _) (b2.mono (Below.size (AL _)))
        clear b2
        go_wp2
        go_ret
        exact ⟨by first | rfl | exact ret_bool (decide_eq_false (by omega)), B⟩
      · have z2 : (lo == 0) = false := by rw [beq_eq_false_iff_ne]; exact h2
        rw [decide_eq_false h2]
        clear h1 h2
        go_enter Tryd.func15, Tryd.ntmps15
        go_wp2_with fail
        refine (codeOf_2 0 _).mono ?_
        rintro e w1 ⟨rfl, rfl⟩
        go_wp2_with fail
        refine (HM.out _ (HT.out.below (AL _))).mono ?_
        rintro e w2 ⟨rfl, b2⟩
        obtain ⟨d0, d1, d2, d3, -, -⟩ := DecAt.below (DecAt.new w 2 sh lo held 31 _ rfl) b2
        have B := Below.trans (AL _) (b2.mono (Below.size (AL _)))
        clear b2
        go_wp2
        go_ret
        exact ⟨by first | rfl | exact ret_bool (decide_eq_false (by omega)), B⟩
    · have z1 : (sh == 0) = false := by rw [beq_eq_false_iff_ne]; exact h1
      rw [decide_eq_false h1, Bool.false_and]
      clear h1
      go_enter Tryd.func15, Tryd.ntmps15
      go_wp2_with fail
      refine (codeOf_2 0 _).mono ?_
      rintro e w1 ⟨rfl, rfl⟩
      go_wp2_with fail
      refine (HM.out _ (HT.out.below (AL _))).mono ?_
      rintro e w2 ⟨rfl, b2⟩
      obtain ⟨d0, d1, d2, d3, -, -⟩ := DecAt.below (DecAt.new w 2 sh lo held 31 _ rfl) b2
      have B := Below.trans (AL _) (b2.mono (Below.size (AL _)))
      clear b2
      go_wp2
      go_ret
      exact ⟨by first | rfl | exact ret_bool (decide_eq_false (by omega)), B⟩
set_option maxRecDepth 100000 in
set_option maxHeartbeats 1000000 in
theorem ig_3 (sh lo : Int) (held : ByteArray) (w : World) (M : Bool) (hM : ∀ w, Tabs w → Calls Tryd.prog 30 #[codV 67, .string held] w fun e w' => e = .returned (.bool M) ∧ Below w.heap.size w w') (hT : Tabs w) :
    Calls Tryd.prog 15 #[decV 3 sh lo held] w fun e w' => e = .returned (.bool (M && decide (sh = 0) && decide (lo = 0))) ∧ Below w.heap.size w w' := by
  have HM : Hid _ := hM
  have HT : Hid _ := hT
  clear hM hT
  have AL : ∀ o : Obj, Below w.heap.size w (w.alloc o) := fun o => (Below.refl _ _).alloc (Nat.le_refl _) o
  cases M
  · rw [Bool.false_and, Bool.false_and]
    go_enter Tryd.func15, Tryd.ntmps15
    go_wp2_with fail
    refine (codeOf_3 0 _).mono ?_
    rintro e w1 ⟨rfl, rfl⟩
    go_wp2_with fail
    refine (HM.out _ (HT.out.below (AL _))).mono ?_
    rintro e w2 ⟨rfl, b2⟩
    obtain ⟨d0, d1, d2, d3, -, -⟩ := DecAt.below (DecAt.new w 3 sh lo held 31 _ rfl) b2
    have B := Below.trans (AL _) (b2.mono (Below.size (AL _)))
    clear b2
    go_wp2
    go_ret
    exact ⟨by first | rfl | exact ret_bool (decide_eq_false (by omega)), B⟩
  · rw [Bool.true_and]
    by_cases h1 : sh = 0
    · have z1 : (sh == 0) = true := by rw [beq_iff_eq]; exact h1
      rw [decide_eq_true h1, Bool.true_and]
      by_cases h2 : lo = 0
      · have z2 : (lo == 0) = true := by rw [beq_iff_eq]; exact h2
        rw [decide_eq_true h2]
        clear h1 h2
        go_enter Tryd.func15, Tryd.ntmps15
        go_wp2_with fail
        refine (codeOf_3 0 _).mono ?_
        rintro e w1 ⟨rfl, rfl⟩
        go_wp2_with fail
        refine (HM.out _ (HT.out.below (AL _))).mono ?_
        rintro e w2 ⟨rfl, b2⟩
        obtain ⟨d0, d1, d2, d3, -, -⟩ := DecAt.below (DecAt.new w 3 sh lo held 31 _ rfl) b2
        have B := Below.trans (AL _) (b2.mono (Below.size (AL _)))
        clear b2
        go_wp2
        go_ret
        exact ⟨by first | rfl | exact ret_bool (decide_eq_false (by omega)), B⟩
      · have z2 : (lo == 0) = false := by rw [beq_eq_false_iff_ne]; exact h2
        rw [decide_eq_false h2]
        clear h1 h2
        go_enter Tryd.func15, Tryd.ntmps15
        go_wp2_with fail
        refine (codeOf_3 0 _).mono ?_
        rintro e w1 ⟨rfl, rfl⟩
        go_wp2_with fail
        refine (HM.out _ (HT.out.below (AL _))).mono ?_
        rintro e w2 ⟨rfl, b2⟩
        obtain ⟨d0, d1, d2, d3, -, -⟩ := DecAt.below (DecAt.new w 3 sh lo held 31 _ rfl) b2
        have B := Below.trans (AL _) (b2.mono (Below.size (AL _)))
        clear b2
        go_wp2
        go_ret
        exact ⟨by first | rfl | exact ret_bool (decide_eq_false (by omega)), B⟩
    · have z1 : (sh == 0) = false := by rw [beq_eq_false_iff_ne]; exact h1
      rw [decide_eq_false h1, Bool.false_and]
      clear h1
      go_enter Tryd.func15, Tryd.ntmps15
      go_wp2_with fail
      refine (codeOf_3 0 _).mono ?_
      rintro e w1 ⟨rfl, rfl⟩
      go_wp2_with fail
      refine (HM.out _ (HT.out.below (AL _))).mono ?_
      rintro e w2 ⟨rfl, b2⟩
      obtain ⟨d0, d1, d2, d3, -, -⟩ := DecAt.below (DecAt.new w 3 sh lo held 31 _ rfl) b2
      have B := Below.trans (AL _) (b2.mono (Below.size (AL _)))
      clear b2
      go_wp2
      go_ret
      exact ⟨by first | rfl | exact ret_bool (decide_eq_false (by omega)), B⟩
set_option maxRecDepth 100000 in
set_option maxHeartbeats 1000000 in
theorem ig_4 (sh lo : Int) (held : ByteArray) (w : World) (M : Bool) (hM : ∀ w, Tabs w → Calls Tryd.prog 30 #[codV 68, .string held] w fun e w' => e = .returned (.bool M) ∧ Below w.heap.size w w') (hT : Tabs w) :
    Calls Tryd.prog 15 #[decV 4 sh lo held] w fun e w' => e = .returned (.bool (M && decide (sh = 0) && decide (lo = 0))) ∧ Below w.heap.size w w' := by
  have HM : Hid _ := hM
  have HT : Hid _ := hT
  clear hM hT
  have AL : ∀ o : Obj, Below w.heap.size w (w.alloc o) := fun o => (Below.refl _ _).alloc (Nat.le_refl _) o
  cases M
  · rw [Bool.false_and, Bool.false_and]
    go_enter Tryd.func15, Tryd.ntmps15
    go_wp2_with fail
    refine (codeOf_4 0 _).mono ?_
    rintro e w1 ⟨rfl, rfl⟩
    go_wp2_with fail
    refine (HM.out _ (HT.out.below (AL _))).mono ?_
    rintro e w2 ⟨rfl, b2⟩
    obtain ⟨d0, d1, d2, d3, -, -⟩ := DecAt.below (DecAt.new w 4 sh lo held 31 _ rfl) b2
    have B := Below.trans (AL _) (b2.mono (Below.size (AL _)))
    clear b2
    go_wp2
    go_ret
    exact ⟨by first | rfl | exact ret_bool (decide_eq_false (by omega)), B⟩
  · rw [Bool.true_and]
    by_cases h1 : sh = 0
    · have z1 : (sh == 0) = true := by rw [beq_iff_eq]; exact h1
      rw [decide_eq_true h1, Bool.true_and]
      by_cases h2 : lo = 0
      · have z2 : (lo == 0) = true := by rw [beq_iff_eq]; exact h2
        rw [decide_eq_true h2]
        clear h1 h2
        go_enter Tryd.func15, Tryd.ntmps15
        go_wp2_with fail
        refine (codeOf_4 0 _).mono ?_
        rintro e w1 ⟨rfl, rfl⟩
        go_wp2_with fail
        refine (HM.out _ (HT.out.below (AL _))).mono ?_
        rintro e w2 ⟨rfl, b2⟩
        obtain ⟨d0, d1, d2, d3, -, -⟩ := DecAt.below (DecAt.new w 4 sh lo held 31 _ rfl) b2
        have B := Below.trans (AL _) (b2.mono (Below.size (AL _)))
        clear b2
        go_wp2
        go_ret
        exact ⟨by first | rfl | exact ret_bool (decide_eq_false (by omega)), B⟩
      · have z2 : (lo == 0) = false := by rw [beq_eq_false_iff_ne]; exact h2
        rw [decide_eq_false h2]
        clear h1 h2
        go_enter Tryd.func15, Tryd.ntmps15
        go_wp2_with fail
        refine (codeOf_4 0 _).mono ?_
        rintro e w1 ⟨rfl, rfl⟩
        go_wp2_with fail
        refine (HM.out _ (HT.out.below (AL _))).mono ?_
        rintro e w2 ⟨rfl, b2⟩
        obtain ⟨d0, d1, d2, d3, -, -⟩ := DecAt.below (DecAt.new w 4 sh lo held 31 _ rfl) b2
        have B := Below.trans (AL _) (b2.mono (Below.size (AL _)))
        clear b2
        go_wp2
        go_ret
        exact ⟨by first | rfl | exact ret_bool (decide_eq_false (by omega)), B⟩
    · have z1 : (sh == 0) = false := by rw [beq_eq_false_iff_ne]; exact h1
      rw [decide_eq_false h1, Bool.false_and]
      clear h1
      go_enter Tryd.func15, Tryd.ntmps15
      go_wp2_with fail
      refine (codeOf_4 0 _).mono ?_
      rintro e w1 ⟨rfl, rfl⟩
      go_wp2_with fail
      refine (HM.out _ (HT.out.below (AL _))).mono ?_
      rintro e w2 ⟨rfl, b2⟩
      obtain ⟨d0, d1, d2, d3, -, -⟩ := DecAt.below (DecAt.new w 4 sh lo held 31 _ rfl) b2
      have B := Below.trans (AL _) (b2.mono (Below.size (AL _)))
      clear b2
      go_wp2
      go_ret
      exact ⟨by first | rfl | exact ret_bool (decide_eq_false (by omega)), B⟩
set_option maxRecDepth 100000 in
set_option maxHeartbeats 1000000 in
theorem ig_5 (sh lo : Int) (held : ByteArray) (w : World) (M : Bool) (hM : ∀ b w, Tabs w → Calls Tryd.prog 30 #[shV b, .string held] w fun e w' => e = .returned (.bool M) ∧ Below w.heap.size w w') (hT : Tabs w) :
    Calls Tryd.prog 15 #[decV 5 sh lo held] w fun e w' => e = .returned (.bool (M && (decide (sh = 0) || decide (sh = 1)) && decide (0 ≤ lo ∧ lo ≤ 1000))) ∧ Below w.heap.size w w' := by
  have HM : Hid _ := hM
  have HT : Hid _ := hT
  clear hM hT
  have AL : ∀ (o : Obj × Obj), Below w.heap.size w ((w.alloc o.1).alloc o.2) := fun o => ((Below.refl _ _).alloc (Nat.le_refl _) o.1).alloc (by simp) o.2
  cases M
  · rw [Bool.false_and, Bool.false_and]
    go_enter Tryd.func15, Tryd.ntmps15
    go_wp2_with fail
    refine (codeOf_5 0 _).mono ?_
    rintro e w1 ⟨rfl, rfl⟩
    go_wp2_with fail
    refine (HM.out _ _ (HT.out.below (AL (_, _)))).mono ?_
    rintro e w2 ⟨rfl, b2⟩
    obtain ⟨d0, d1, d2, d3, -, -⟩ := DecAt.below (DecAt.alloc (DecAt.new w 5 _ lo held 31 _ rfl) _) b2
    have B := Below.trans (AL (_, _)) (b2.mono (Below.size (AL (_, _))))
    clear b2
    go_wp2
    go_ret
    exact ⟨by first | rfl | exact ret_bool (decide_eq_false (by omega)), B⟩
  · rw [Bool.true_and]
    have hsh : (sh = 0) ∨ (sh = 1) ∨ (¬ sh = 0 ∧ ¬ sh = 1) := by omega
    have hlo : (0 ≤ lo ∧ lo ≤ 1000) ∨ ¬ 0 ≤ lo ∨ (0 ≤ lo ∧ ¬ lo ≤ 1000) := by omega
    rcases hsh with rfl | rfl | ⟨h1, h2⟩
    · rw [show (decide ((0 : Int) = 0) || decide ((0 : Int) = 1)) = true from rfl, Bool.true_and]
      rcases hlo with ⟨l0, l1⟩ | l0 | ⟨l0, l1⟩
      · rw [decide_eq_true ⟨l0, l1⟩]
        go_enter Tryd.func15, Tryd.ntmps15
        go_wp2_with fail
        refine (codeOf_5 0 _).mono ?_
        rintro e w1 ⟨rfl, rfl⟩
        go_wp2_with fail
        refine (HM.out _ _ (HT.out.below (AL (_, _)))).mono ?_
        rintro e w2 ⟨rfl, b2⟩
        obtain ⟨d0, d1, d2, d3, -, -⟩ := DecAt.below (DecAt.alloc (DecAt.new w 5 _ lo held 31 _ rfl) _) b2
        have B := Below.trans (AL (_, _)) (b2.mono (Below.size (AL (_, _))))
        clear b2
        go_wp2
        go_ret
        exact ⟨by first | rfl | exact ret_bool (decide_eq_false (by omega)), B⟩
      · rw [decide_eq_false (fun h => l0 h.1)]
        go_enter Tryd.func15, Tryd.ntmps15
        go_wp2_with fail
        refine (codeOf_5 0 _).mono ?_
        rintro e w1 ⟨rfl, rfl⟩
        go_wp2_with fail
        refine (HM.out _ _ (HT.out.below (AL (_, _)))).mono ?_
        rintro e w2 ⟨rfl, b2⟩
        obtain ⟨d0, d1, d2, d3, -, -⟩ := DecAt.below (DecAt.alloc (DecAt.new w 5 _ lo held 31 _ rfl) _) b2
        have B := Below.trans (AL (_, _)) (b2.mono (Below.size (AL (_, _))))
        clear b2
        go_wp2
        go_ret
        exact ⟨by first | rfl | exact ret_bool (decide_eq_false (by omega)), B⟩
      · rw [decide_eq_false (fun h => l1 h.2)]
        go_enter Tryd.func15, Tryd.ntmps15
        go_wp2_with fail
        refine (codeOf_5 0 _).mono ?_
        rintro e w1 ⟨rfl, rfl⟩
        go_wp2_with fail
        refine (HM.out _ _ (HT.out.below (AL (_, _)))).mono ?_
        rintro e w2 ⟨rfl, b2⟩
        obtain ⟨d0, d1, d2, d3, -, -⟩ := DecAt.below (DecAt.alloc (DecAt.new w 5 _ lo held 31 _ rfl) _) b2
        have B := Below.trans (AL (_, _)) (b2.mono (Below.size (AL (_, _))))
        clear b2
        go_wp2
        go_ret
        exact ⟨by first | rfl | exact ret_bool (decide_eq_false (by omega)), B⟩
    · rw [show (decide ((1 : Int) = 0) || decide ((1 : Int) = 1)) = true from rfl, Bool.true_and]
      rcases hlo with ⟨l0, l1⟩ | l0 | ⟨l0, l1⟩
      · rw [decide_eq_true ⟨l0, l1⟩]
        go_enter Tryd.func15, Tryd.ntmps15
        go_wp2_with fail
        refine (codeOf_5 0 _).mono ?_
        rintro e w1 ⟨rfl, rfl⟩
        go_wp2_with fail
        refine (HM.out _ _ (HT.out.below (AL (_, _)))).mono ?_
        rintro e w2 ⟨rfl, b2⟩
        obtain ⟨d0, d1, d2, d3, -, -⟩ := DecAt.below (DecAt.alloc (DecAt.new w 5 _ lo held 31 _ rfl) _) b2
        have B := Below.trans (AL (_, _)) (b2.mono (Below.size (AL (_, _))))
        clear b2
        go_wp2
        go_ret
        exact ⟨by first | rfl | exact ret_bool (decide_eq_false (by omega)), B⟩
      · rw [decide_eq_false (fun h => l0 h.1)]
        go_enter Tryd.func15, Tryd.ntmps15
        go_wp2_with fail
        refine (codeOf_5 0 _).mono ?_
        rintro e w1 ⟨rfl, rfl⟩
        go_wp2_with fail
        refine (HM.out _ _ (HT.out.below (AL (_, _)))).mono ?_
        rintro e w2 ⟨rfl, b2⟩
        obtain ⟨d0, d1, d2, d3, -, -⟩ := DecAt.below (DecAt.alloc (DecAt.new w 5 _ lo held 31 _ rfl) _) b2
        have B := Below.trans (AL (_, _)) (b2.mono (Below.size (AL (_, _))))
        clear b2
        go_wp2
        go_ret
        exact ⟨by first | rfl | exact ret_bool (decide_eq_false (by omega)), B⟩
      · rw [decide_eq_false (fun h => l1 h.2)]
        go_enter Tryd.func15, Tryd.ntmps15
        go_wp2_with fail
        refine (codeOf_5 0 _).mono ?_
        rintro e w1 ⟨rfl, rfl⟩
        go_wp2_with fail
        refine (HM.out _ _ (HT.out.below (AL (_, _)))).mono ?_
        rintro e w2 ⟨rfl, b2⟩
        obtain ⟨d0, d1, d2, d3, -, -⟩ := DecAt.below (DecAt.alloc (DecAt.new w 5 _ lo held 31 _ rfl) _) b2
        have B := Below.trans (AL (_, _)) (b2.mono (Below.size (AL (_, _))))
        clear b2
        go_wp2
        go_ret
        exact ⟨by first | rfl | exact ret_bool (decide_eq_false (by omega)), B⟩
    · have c0 : (sh == 0) = false := by rw [beq_eq_false_iff_ne]; exact h1
      have c1 : (sh == 1) = false := by rw [beq_eq_false_iff_ne]; exact h2
      rw [decide_eq_false h1, decide_eq_false h2, Bool.false_or, Bool.false_and]
      clear h1 h2 hlo
      go_enter Tryd.func15, Tryd.ntmps15
      go_wp2_with fail
      refine (codeOf_5 0 _).mono ?_
      rintro e w1 ⟨rfl, rfl⟩
      go_wp2_with fail
      refine (HM.out _ _ (HT.out.below (AL (_, _)))).mono ?_
      rintro e w2 ⟨rfl, b2⟩
      obtain ⟨d0, d1, d2, d3, -, -⟩ := DecAt.below (DecAt.alloc (DecAt.new w 5 _ lo held 31 _ rfl) _) b2
      have B := Below.trans (AL (_, _)) (b2.mono (Below.size (AL (_, _))))
      clear b2
      go_wp2
      go_ret
      exact ⟨by first | rfl | exact ret_bool (decide_eq_false (by omega)), B⟩
set_option maxRecDepth 100000 in
set_option maxHeartbeats 400000 in
theorem ig_no (en sh lo : Int) (held : ByteArray) (w : World) (h : codeB en = false) :
    Calls Tryd.prog 15 #[decV en sh lo held] w fun e w' => e = .returned (.bool false) ∧ Below w.heap.size w w' := by
  have HC : Hid _ := h
  clear h
  go_enter Tryd.func15, Tryd.ntmps15
  go_wp2_with fail
  refine (codeOf_no en 0 _ HC.out).mono ?_
  rintro e w1 ⟨rfl, rfl⟩
  go_wp2
  go_ret
  exact ⟨rfl, (Below.refl _ _).alloc (Nat.le_refl _) _⟩
theorem bool_iff {a b : Bool} (h : a = true ↔ b = true) : a = b := by cases a <;> cases b <;> simp_all
theorem igd_any (en sh lo : Int) (held : ByteArray) (w : World) (hT : Tabs w) :
    Calls Tryd.prog 15 #[decV en sh lo held] w fun e w' => e = .returned (.bool (goodD en sh lo held)) ∧ Below w.heap.size w w' := by
  cases hc : codeB en
  · rw [good_parts en sh lo held (.inl hc)]
    exact ig_no en sh lo held w hc
  · have h := of_decide_eq_true (show decide (1 ≤ en ∧ en ≤ 5) = true from hc)
    rcases (by omega : en = 1 ∨ en = 2 ∨ en = 3 ∨ en = 4 ∨ en = 5) with rfl | rfl | rfl | rfl | rfl
    · have e : goodD 1 sh lo held = ((decide (held.size = 0) || begB held) && decide (sh = 0) && decide (lo = 0)) := by
        apply bool_iff
        simp only [goodD, codeB, Bool.and_eq_true, Bool.or_eq_true, decide_eq_true_eq, if_true]
        generalize (held.size = 0 ∨ begB held = true) = p
        constructor
        · rintro ⟨⟨⟨⟨h1, h2⟩, h3⟩, h4⟩, h5⟩; exact ⟨⟨h5, by omega⟩, by omega⟩
        · rintro ⟨⟨h1, h2⟩, h3⟩; exact ⟨⟨⟨⟨by omega, by omega⟩, by omega⟩, by omega⟩, h1⟩
      rw [e]
      exact ig_1 sh lo held w _ (fun w hT => mh_1 held w hT) hT
    · have e0 : goodD 2 sh lo held = (true && decide (0 ≤ sh ∧ sh ≤ 1) && decide (0 ≤ lo ∧ lo ≤ 1000) && (false || decide (sh + lo ≤ 0)) && (decide (held.size < 2) || (decide (held.size < 4) && highB (unitN 2 held 0)))) := rfl
      have e : goodD 2 sh lo held = ((decide (held.size < 2) || (decide (held.size < 4) && highB (unitN 2 held 0))) && decide (sh = 0) && decide (lo = 0)) := by
        rw [e0]
        generalize (decide (held.size < 2) || (decide (held.size < 4) && highB (unitN 2 held 0))) = p
        apply bool_iff
        simp only [Bool.and_eq_true, Bool.or_eq_true, decide_eq_true_eq]
        constructor
        · rintro ⟨⟨⟨⟨h1, h2⟩, h3⟩, h4⟩, h5⟩
          rcases h4 with h4 | h4
          · cases h4
          · exact ⟨⟨h5, by omega⟩, by omega⟩
        · rintro ⟨⟨h1, h2⟩, h3⟩; exact ⟨⟨⟨⟨trivial, by omega⟩, by omega⟩, .inr (by omega)⟩, h1⟩
      rw [e]
      exact ig_2 sh lo held w _ (fun w _ => mh_2 held w) hT
    · have e0 : goodD 3 sh lo held = (true && decide (0 ≤ sh ∧ sh ≤ 1) && decide (0 ≤ lo ∧ lo ≤ 1000) && (false || decide (sh + lo ≤ 0)) && (decide (held.size < 2) || (decide (held.size < 4) && highB (unitN 3 held 0)))) := rfl
      have e : goodD 3 sh lo held = ((decide (held.size < 2) || (decide (held.size < 4) && highB (unitN 3 held 0))) && decide (sh = 0) && decide (lo = 0)) := by
        rw [e0]
        generalize (decide (held.size < 2) || (decide (held.size < 4) && highB (unitN 3 held 0))) = p
        apply bool_iff
        simp only [Bool.and_eq_true, Bool.or_eq_true, decide_eq_true_eq]
        constructor
        · rintro ⟨⟨⟨⟨h1, h2⟩, h3⟩, h4⟩, h5⟩
          rcases h4 with h4 | h4
          · cases h4
          · exact ⟨⟨h5, by omega⟩, by omega⟩
        · rintro ⟨⟨h1, h2⟩, h3⟩; exact ⟨⟨⟨⟨trivial, by omega⟩, by omega⟩, .inr (by omega)⟩, h1⟩
      rw [e]
      exact ig_3 sh lo held w _ (fun w _ => mh_3 held w) hT
    · have e0 : goodD 4 sh lo held = (true && decide (0 ≤ sh ∧ sh ≤ 1) && decide (0 ≤ lo ∧ lo ≤ 1000) && (false || decide (sh + lo ≤ 0)) && decide (held.size = 0)) := rfl
      have e : goodD 4 sh lo held = (decide (held.size = 0) && decide (sh = 0) && decide (lo = 0)) := by
        rw [e0]
        generalize decide (held.size = 0) = p
        apply bool_iff
        simp only [Bool.and_eq_true, Bool.or_eq_true, decide_eq_true_eq]
        constructor
        · rintro ⟨⟨⟨⟨h1, h2⟩, h3⟩, h4⟩, h5⟩
          rcases h4 with h4 | h4
          · cases h4
          · exact ⟨⟨h5, by omega⟩, by omega⟩
        · rintro ⟨⟨h1, h2⟩, h3⟩; exact ⟨⟨⟨⟨trivial, by omega⟩, by omega⟩, .inr (by omega)⟩, h1⟩
      rw [e]
      exact ig_4 sh lo held w _ (fun w _ => mh_4 held w) hT
    · have e0 : goodD 5 sh lo held = (true && decide (0 ≤ sh ∧ sh ≤ 1) && decide (0 ≤ lo ∧ lo ≤ 1000) && (true || decide (sh + lo ≤ 0)) && decide (held.size = 0)) := rfl
      have e : goodD 5 sh lo held = (decide (held.size = 0) && (decide (sh = 0) || decide (sh = 1)) && decide (0 ≤ lo ∧ lo ≤ 1000)) := by
        rw [e0]
        apply bool_iff
        simp only [Bool.and_eq_true, Bool.or_eq_true, decide_eq_true_eq]
        constructor
        · rintro ⟨⟨⟨⟨h1, h2⟩, h3⟩, h4⟩, h5⟩
          exact ⟨⟨h5, by omega⟩, h3⟩
        · rintro ⟨⟨h1, h2⟩, h3⟩; exact ⟨⟨⟨⟨trivial, by omega⟩, h3⟩, .inl trivial⟩, h1⟩
      rw [e]
      exact ig_5 sh lo held w _ (fun b w _ => mh_5 held b w) hT
end Go.Proofs.YtklgagonbehpeaaDoor
