/-
  The program's trees: isSame, orOnePart, tidy.
-/
import Derived.Test.YtendikiflikobaaT5T
import Derived.Test.YtendikiflikobaaReg
import Derived.Deep.RegionHeld
namespace Go.Proofs.Ytendikiflikobaa
open Go.ChangeShapes Go.WideShapes Go.ChangeAt Go.WideMaps Go.WideElems Go.RowKit
/-- No set is too long. -/
def SetsOk (t : Option Tr) : Prop := ∀ y ∈ post t, y.2.length ≤ 1048576
theorem SetsOk.parts {op : Int} {s : List Int} {a b : Option Tr} (h : SetsOk (some ⟨op, s, a, b⟩)) : s.length ≤ 1048576 ∧ SetsOk a ∧ SetsOk b := by
  unfold SetsOk at h ⊢
  rw [post_some] at h
  exact ⟨h (op, s) (by simp), fun y hy => h y (by simp [hy]), fun y hy => h y (by simp [hy])⟩
theorem TreeAt.lt {B U : Nat} {w : World} {t : Option Tr} {x : Nat} (h : TreeAt B U w t (some ⟨x, 0, none⟩)) : x < w.heap.size := by
  cases t with
  | none => rw [TreeAt] at h; cases h
  | some t =>
    obtain ⟨op, s, a, b⟩ := t
    obtain ⟨z, _, _, _, _, h1, _, _, h4, _⟩ := h.node
    cases h1
    exact lt_of_heap h4
theorem nil_eql (a : Addr) (w : World) : (binOp .eql 69 (.pointer none) (.pointer (some a))).run Try.prog w = .ok (.bool false) w := by
  have h : ∀ d : Nat, (Op.equalIn (d + 1) 69 (.pointer none) (.pointer (some a))).run Try.prog w = .ok false w := fun d => by
    simp [Op.equalIn, run_underlying Try.underlying69]
  simp only [binOp]
  simp [Op.equal, Op.maxDepth, h 9999]
set_option maxRecDepth 100000 in
set_option maxHeartbeats 8000000 in
theorem isame_any (B U : Nat) : ∀ (t u : Option Tr) (p q : Option Addr) (w : World), TreeAt B U w t p → TreeAt B U w u q → SetsOk t → SetsOk u → Calls Try.prog 117 #[.pointer p, .pointer q] w fun e w' => e = .returned (.bool (eqT t u)) ∧ Below w.heap.size w w'
  | none, none, p, q, w, ht, hu, _, _ => by
    obtain rfl := ht.none_ptr
    obtain rfl := hu.none_ptr
    have HV : Hid (eqT none none = true) := by show eqT _ _ = _; rw [eqT]
    clear ht hu
    go_enter Try.func117, Try.ntmps117
    go_wp2
    go_ret
    exact ⟨by rw [HV.out] <;> rfl, Below.refl _ _⟩
  | none, some u, p, q, w, ht, hu, _, _ => by
    obtain rfl := ht.none_ptr
    obtain ⟨y, rfl⟩ := hu.some_ptr
    have HV : Hid (eqT none (some u) = false) := by show eqT _ _ = _; rw [eqT]
    have hne : ∀ w : World, (binOp .eql 69 (.pointer none) (.pointer (some ⟨y, 0, none⟩))).run Try.prog w = .ok (.bool false) w := nil_eql _
    clear ht hu
    go_enter Try.func117, Try.ntmps117
    go_wp2
    go_ret
    exact ⟨by rw [HV.out] <;> rfl, Below.refl _ _⟩
  | some t, none, p, q, w, ht, hu, _, _ => by
    obtain rfl := hu.none_ptr
    obtain ⟨x, rfl⟩ := ht.some_ptr
    have HV : Hid (eqT (some t) none = false) := by show eqT _ _ = _; rw [eqT]
    clear ht hu
    go_enter Try.func117, Try.ntmps117
    go_wp2
    go_ret
    exact ⟨by rw [HV.out] <;> rfl, Below.refl _ _⟩
  | some ⟨op, s, a, b⟩, some ⟨op', m, a', b'⟩, p, q, w, ht, hu, hst, hsu => by
    have IA : Hid (∀ (u : Option Tr) (p q : Option Addr) (w : World), TreeAt B U w a p → TreeAt B U w u q → SetsOk a → SetsOk u → Calls Try.prog 117 #[.pointer p, .pointer q] w fun e w' => e = .returned (.bool (eqT a u)) ∧ Below w.heap.size w w') := isame_any B U a
    have IB : Hid (∀ (u : Option Tr) (p q : Option Addr) (w : World), TreeAt B U w b p → TreeAt B U w u q → SetsOk b → SetsOk u → Calls Try.prog 117 #[.pointer p, .pointer q] w fun e w' => e = .returned (.bool (eqT b u)) ∧ Below w.heap.size w w') := isame_any B U b
    obtain ⟨x, sa, sc, pa, pb, rfl, -, -, hx, hs, ta, tb⟩ := ht.node
    obtain ⟨y, sb, sd, qa, qb, rfl, -, -, hy, hm, ua, ub⟩ := hu.node
    obtain ⟨s1, s2, s3⟩ := hst.parts
    obtain ⟨m1, m2, m3⟩ := hsu.parts
    have hxl := lt_of_heap hx
    have hyl := lt_of_heap hy
    have x0 : ∀ z : BW w, z.x.cell? ⟨x, 0, none⟩ = some (.int .i64 op) := fun z => (node_cells ((z.h.block x hxl).trans hx)).1
    have x1 : ∀ z : BW w, z.x.cell? ⟨x, 1, none⟩ = some (.slice sa s.length sc) := fun z => (node_cells ((z.h.block x hxl).trans hx)).2.1
    have x2 : ∀ z : BW w, z.x.cell? ⟨x, 2, none⟩ = some (.pointer pa) := fun z => (node_cells ((z.h.block x hxl).trans hx)).2.2.1
    have x3 : ∀ z : BW w, z.x.cell? ⟨x, 3, none⟩ = some (.pointer pb) := fun z => (node_cells ((z.h.block x hxl).trans hx)).2.2.2
    have y0 : ∀ z : BW w, z.x.cell? ⟨y, 0, none⟩ = some (.int .i64 op') := fun z => (node_cells ((z.h.block y hyl).trans hy)).1
    have y1 : ∀ z : BW w, z.x.cell? ⟨y, 1, none⟩ = some (.slice sb m.length sd) := fun z => (node_cells ((z.h.block y hyl).trans hy)).2.1
    have y2 : ∀ z : BW w, z.x.cell? ⟨y, 2, none⟩ = some (.pointer qa) := fun z => (node_cells ((z.h.block y hyl).trans hy)).2.2.1
    have y3 : ∀ z : BW w, z.x.cell? ⟨y, 3, none⟩ = some (.pointer qb) := fun z => (node_cells ((z.h.block y hyl).trans hy)).2.2.2
    obtain ⟨es, hes⟩ : ∃ es, es = decide (s = m) := ⟨_, rfl⟩
    obtain ⟨ea, hea⟩ : ∃ ea, ea = eqT a a' := ⟨_, rfl⟩
    obtain ⟨eb, heb⟩ : ∃ eb, eb = eqT b b' := ⟨_, rfl⟩
    have HE : Hid (∀ w' : World, Below w.heap.size w w' → Calls Try.prog 124 #[.slice sa s.length sc, .slice sb m.length sd] w' fun e w'' => e = .returned (.bool es) ∧ Below w'.heap.size w' w'') := fun w' hb => by rw [hes]; exact iEq_any s m sa sb sc sd w' s1 (IntsAt.keepB hs.1 hb) (IntsAt.keepB hm.1 hb)
    have HA : Hid (∀ w' : World, Below w.heap.size w w' → Calls Try.prog 117 #[.pointer pa, .pointer qa] w' fun e w'' => e = .returned (.bool ea) ∧ Below w'.heap.size w' w'') := fun w' hb => by rw [hea]; exact IA.out a' pa qa w' (ta.keepB hb) (ua.keepB hb) s2 m2
    have HB : Hid (∀ w' : World, Below w.heap.size w w' → Calls Try.prog 117 #[.pointer pb, .pointer qb] w' fun e w'' => e = .returned (.bool eb) ∧ Below w'.heap.size w' w'') := fun w' hb => by rw [heb]; exact IB.out b' pb qb w' (tb.keepB hb) (ub.keepB hb) s3 m3
    have hv : eqT (some ⟨op, s, a, b⟩) (some ⟨op', m, a', b'⟩) = (decide (op = op') && (es && (ea && eb))) := by rw [eqT, hes, hea, heb]
    clear ht hu hx hy hs hm ta tb ua ub hst hsu s1 s2 s3 m1 m2 m3 hes hea heb IA IB hxl hyl
    by_cases hop : op = op'
    · subst hop
      cases es
      · have HV : Hid (eqT (some ⟨op, s, a, b⟩) (some ⟨op, m, a', b'⟩) = false) := by show _ = false; rw [hv]; simp
        clear hv
        go_enter Try.func117, Try.ntmps117
        go_wp2
        have hne := BW.some w
        refine wp_region_below (by kernel_rfl) (by kernel_rfl) ?_
        repeat (go_big_quiet_step (first | (go_at_call 124; exact BW.call (HE.out _ (BW.h _))) | (go_at_call 117; with_reducible exact BW.call (HA.out _ (BW.h _))) | (go_at_call 117; with_reducible exact BW.call (HB.out _ (BW.h _)))))
        refine wpQuiet_nil ?_
        rintro _ ⟨⟨wq, hbq⟩, rfl⟩
        go_wp2
        go_ret
        exact ⟨by rw [HV.out] <;> rfl, hbq⟩
      · cases ea
        · have HV : Hid (eqT (some ⟨op, s, a, b⟩) (some ⟨op, m, a', b'⟩) = false) := by show _ = false; rw [hv]; simp
          clear hv
          go_enter Try.func117, Try.ntmps117
          go_wp2
          have hne := BW.some w
          refine wp_region_below (by kernel_rfl) (by kernel_rfl) ?_
          repeat (go_big_quiet_step (first | (go_at_call 124; exact BW.call (HE.out _ (BW.h _))) | (go_at_call 117; with_reducible exact BW.call (HA.out _ (BW.h _))) | (go_at_call 117; with_reducible exact BW.call (HB.out _ (BW.h _)))))
          refine wpQuiet_nil ?_
          rintro _ ⟨⟨wq, hbq⟩, rfl⟩
          go_wp2
          go_ret
          exact ⟨by rw [HV.out] <;> rfl, hbq⟩
        · cases eb
          · have HV : Hid (eqT (some ⟨op, s, a, b⟩) (some ⟨op, m, a', b'⟩) = false) := by show _ = false; rw [hv]; simp
            clear hv
            go_enter Try.func117, Try.ntmps117
            go_wp2
            have hne := BW.some w
            refine wp_region_below (by kernel_rfl) (by kernel_rfl) ?_
            repeat (go_big_quiet_step (first | (go_at_call 124; exact BW.call (HE.out _ (BW.h _))) | (go_at_call 117; with_reducible exact BW.call (HA.out _ (BW.h _))) | (go_at_call 117; with_reducible exact BW.call (HB.out _ (BW.h _)))))
            refine wpQuiet_nil ?_
            rintro _ ⟨⟨wq, hbq⟩, rfl⟩
            go_wp2
            go_ret
            exact ⟨by rw [HV.out] <;> rfl, hbq⟩
          · have HV : Hid (eqT (some ⟨op, s, a, b⟩) (some ⟨op, m, a', b'⟩) = true) := by show _ = true; rw [hv]; simp
            clear hv
            go_enter Try.func117, Try.ntmps117
            go_wp2
            have hne := BW.some w
            refine wp_region_below (by kernel_rfl) (by kernel_rfl) ?_
            repeat (go_big_quiet_step (first | (go_at_call 124; exact BW.call (HE.out _ (BW.h _))) | (go_at_call 117; with_reducible exact BW.call (HA.out _ (BW.h _))) | (go_at_call 117; with_reducible exact BW.call (HB.out _ (BW.h _)))))
            refine wpQuiet_nil ?_
            rintro _ ⟨⟨wq, hbq⟩, rfl⟩
            go_wp2
            go_ret
            exact ⟨by rw [HV.out] <;> rfl, hbq⟩
    · have HV : Hid (eqT (some ⟨op, s, a, b⟩) (some ⟨op', m, a', b'⟩) = false) := by show _ = false; rw [hv]; simp [hop]
      have hbo : (op == op') = false := by simpa using hop
      clear hv
      go_enter Try.func117, Try.ntmps117
      go_wp2
      have hne := BW.some w
      refine wp_region_below (by kernel_rfl) (by kernel_rfl) ?_
      repeat (go_big_quiet_step (first | (go_at_call 124; exact BW.call (HE.out _ (BW.h _))) | (go_at_call 117; with_reducible exact BW.call (HA.out _ (BW.h _))) | (go_at_call 117; with_reducible exact BW.call (HB.out _ (BW.h _)))))
      refine wpQuiet_nil ?_
      rintro _ ⟨⟨wq, hbq⟩, rfl⟩
      go_wp2
      go_ret
      exact ⟨by rw [HV.out] <;> rfl, hbq⟩
end Go.Proofs.Ytendikiflikobaa
