/-
  The program's trees made tidy; TidyRe of the program.
-/
import Derived.Test.YtendikiflikobaaT5I
import Derived.Test.YtendikiflikobaaT5L
namespace Go.Proofs.Ytendikiflikobaa
open Go.ChangeShapes Go.WideShapes Go.ChangeAt Go.WideMaps Go.WideElems Go.RowKit
theorem ok_two {op : Int} (h : op = 3 ∨ op = 4 ∨ op = 5) {a b : Option Tr} (ha : okT a) (hb : okT b) : okT (some ⟨op, [], a, b⟩) := by
  rw [okT]
  refine .inr (.inr ⟨?_, rfl, ha, hb⟩)
  rcases h with rfl | rfl | rfl <;> rfl
theorem ok_one {op : Int} (h : op = 6 ∨ op = 7) {a : Option Tr} (ha : okT a) : okT (some ⟨op, [], a, none⟩) := by
  rw [okT]
  refine .inr (.inl ⟨?_, rfl, ha, rfl⟩)
  rcases h with rfl | rfl <;> rfl
theorem ok_nil : okT (some ⟨1, [], none, none⟩) := by
  rw [okT]
  exact .inl ⟨rfl, by decide, rfl, rfl⟩
theorem one_ok {op : Int} (h : op = 3 ∨ op = 4 ∨ op = 5) {a b : Option Tr} (ha : okT a) (hb : okT b) : okT (onePart op [] a b) := by
  unfold onePart
  split
  · split
    · exact ha
    · split
      · exact hb
      · exact ok_two h ha hb
  · split
    · split
      · exact hb
      · split
        · exact ha
        · exact ok_two h ha hb
    · split
      · split
        · exact ha
        · split
          · exact hb
          · exact ok_two h ha hb
      · exact ok_two h ha hb
theorem fst_ok {a : Option Tr} (ha : okT a) (h : opT a = 7) : okT (fstT a) := by
  cases a with
  | none => rw [okT] at ha; exact ha.elim
  | some t =>
    obtain ⟨op, s, x, y⟩ := t
    have h7 : op = 7 := h
    subst h7
    rw [okT] at ha
    rcases ha with ⟨h1, -⟩ | ⟨-, -, h2, -⟩ | ⟨h1, -⟩
    · exact absurd h1 (by decide)
    · exact h2
    · exact absurd h1 (by decide)
theorem of_ok {op : Int} (h : op = 6 ∨ op = 7) {a : Option Tr} (ha : okT a) : okT (oneOf op [] a none) := by
  unfold oneOf
  split
  · split
    · exact ok_nil
    · split
      · exact ha
      · exact ok_one h ha
  · split
    · split
      · rename_i h7; exact fst_ok ha h7
      · exact ok_one h ha
    · exact ok_one h ha
theorem leaf_of {op : Int} (h : arity op = 0) (s : List Int) (a b : Option Tr) : tidyT (some ⟨op, s, a, b⟩) = some ⟨op, s, tidyT a, tidyT b⟩ := by
  rw [tidyT]
  rcases arity_zero h with rfl | rfl <;> simp [oneOf]
theorem tidy_none : tidyT none = none := by rw [tidyT]
theorem tidy_ok : ∀ t : Option Tr, okT t → okT (tidyT t)
  | none, h => by rw [okT] at h; exact h.elim
  | some ⟨op, s, a, b⟩, h => by
    rw [okT] at h
    rcases h with ⟨h1, h2, rfl, rfl⟩ | ⟨h1, rfl, ha, rfl⟩ | ⟨h1, rfl, ha, hb⟩
    · rw [leaf_of h1, tidy_none, okT]
      exact .inl ⟨h1, h2, rfl, rfl⟩
    · have hh := arity_one h1
      rw [tidyT, if_neg (by omega), tidy_none]
      exact of_ok hh (tidy_ok a ha)
    · have hh := arity_two h1
      rw [tidyT, if_pos hh]
      exact one_ok hh (tidy_ok a ha) (tidy_ok b hb)
/-- The sets of what is tidy are sets of what it comes from, or empty. -/
def SubP (A B : List Nd) : Prop := ∀ y ∈ A, y ∈ B ∨ y.2 = []
theorem SubP.refl (A : List Nd) : SubP A A := fun _ hy => .inl hy
theorem tidy_sub : ∀ t : Option Tr, okT t → SubP (post (tidyT t)) (post t)
  | none, h => by rw [okT] at h; exact h.elim
  | some ⟨op, s, a, b⟩, h => by
    rw [okT] at h
    rcases h with ⟨h1, h2, rfl, rfl⟩ | ⟨h1, rfl, ha, rfl⟩ | ⟨h1, rfl, ha, hb⟩
    · rw [leaf_of h1, tidy_none]; exact SubP.refl _
    · have hh := arity_one h1
      have ia := tidy_sub a ha
      have wide : ∀ y ∈ post (tidyT a), y ∈ post (some ⟨op, [], a, none⟩) ∨ y.2 = [] := fun y hy => by
        rcases ia y hy with h | h
        · exact .inl (by rw [post_some]; simp [h])
        · exact .inr h
      have node : SubP (post (some ⟨op, [], tidyT a, none⟩)) (post (some ⟨op, [], a, none⟩)) := fun y hy => by
        rw [post_some, post_none, List.append_nil] at hy
        rcases List.mem_append.1 hy with h | h
        · exact wide y h
        · rw [List.mem_singleton] at h; subst h; exact .inr rfl
      rw [tidyT, if_neg (by omega), tidy_none]
      unfold oneOf
      split
      · split
        · intro y hy
          rw [post_some, post_none] at hy
          simp at hy
          subst hy
          exact .inr rfl
        · split
          · exact wide
          · exact node
      · split
        · split
          · rename_i h7
            intro y hy
            apply wide
            cases hta : tidyT a with
            | none => rw [hta] at h7; simp [opT] at h7
            | some u =>
              obtain ⟨o, m, c, d⟩ := u
              rw [hta] at hy
              rw [post_some]
              simp only [fstT] at hy
              simp [hy]
          · exact node
        · exact node
    · have hh := arity_two h1
      have ia := tidy_sub a ha
      have ib := tidy_sub b hb
      have wa : SubP (post (tidyT a)) (post (some ⟨op, [], a, b⟩)) := fun y hy => by
        rcases ia y hy with h | h
        · exact .inl (by rw [post_some]; simp [h])
        · exact .inr h
      have wb : SubP (post (tidyT b)) (post (some ⟨op, [], a, b⟩)) := fun y hy => by
        rcases ib y hy with h | h
        · exact .inl (by rw [post_some]; simp [h])
        · exact .inr h
      have node : SubP (post (some ⟨op, [], tidyT a, tidyT b⟩)) (post (some ⟨op, [], a, b⟩)) := fun y hy => by
        rw [post_some] at hy
        rcases List.mem_append.1 hy with h | h
        · rcases List.mem_append.1 h with h | h
          · exact wa y h
          · exact wb y h
        · rw [List.mem_singleton] at h; subst h; exact .inr rfl
      rw [tidyT, if_pos hh]
      unfold onePart
      split
      · split
        · exact wa
        · split
          · exact wb
          · exact node
      · split
        · split
          · exact wb
          · split
            · exact wa
            · exact node
        · split
          · split
            · exact wa
            · split
              · exact wb
              · exact node
          · exact node
theorem SetsOk.sub {A B : Option Tr} (h : SetsOk B) (hs : SubP (post A) (post B)) : SetsOk A := fun y hy => by
  rcases hs y hy with h1 | h1
  · exact h y h1
  · rw [h1]; simp
theorem SetsOk.nil : SetsOk none := fun y hy => by rw [post_none] at hy; cases hy
theorem tidy_some {t : Option Tr} (h : okT t) : ∃ u, tidyT t = some u := by
  have := tidy_ok t h
  cases e : tidyT t with
  | none => rw [e, okT] at this; exact this.elim
  | some u => exact ⟨u, rfl⟩
/-- No tree, or one whose nodes have as many parts as they must. -/
def okN' (t : Option Tr) : Prop := t = none ∨ okT t
set_option maxRecDepth 100000 in
set_option maxHeartbeats 8000000 in
theorem itidy_any (B U : Nat) : ∀ (t : Option Tr) (p : Option Addr) (w : World), okN' t → TreeAt B U w t p → SetsOk t → Calls Try.prog 50 #[.pointer p] w fun e w' => ∃ r, e = .returned (.pointer r) ∧ TreeAt B w'.heap.size w' (tidyT t) r ∧ Below w.heap.size w w'
  | none, p, w, _, ht, _ => by
    obtain rfl := ht.none_ptr
    clear ht
    go_enter Try.func50, Try.ntmps50
    go_wp2
    go_ret
    exact ⟨none, rfl, by rw [tidy_none, TreeAt], Below.refl _ _⟩
  | some ⟨op, s, a, b⟩, p, w, hok, ht, hst => by
    have IA : Hid (∀ (p : Option Addr) (w : World), okN' a → TreeAt B U w a p → SetsOk a → Calls Try.prog 50 #[.pointer p] w fun e w' => ∃ r, e = .returned (.pointer r) ∧ TreeAt B w'.heap.size w' (tidyT a) r ∧ Below w.heap.size w w') := itidy_any B U a
    have IB : Hid (∀ (p : Option Addr) (w : World), okN' b → TreeAt B U w b p → SetsOk b → Calls Try.prog 50 #[.pointer p] w fun e w' => ∃ r, e = .returned (.pointer r) ∧ TreeAt B w'.heap.size w' (tidyT b) r ∧ Below w.heap.size w w') := itidy_any B U b
    have hok : okT (some ⟨op, s, a, b⟩) := hok.resolve_left (by simp)
    obtain ⟨x, sa, sc, pa, pb, rfl, hBx, -, hx, hs, ta, tb⟩ := ht.node
    obtain ⟨s1, s2, s3⟩ := hst.parts
    rw [okT] at hok
    have hna : okN' a ∧ okN' b := by
      rcases hok with ⟨-, -, rfl, rfl⟩ | ⟨-, -, ha, rfl⟩ | ⟨-, -, ha, hb⟩
      · exact ⟨.inl rfl, .inl rfl⟩
      · exact ⟨.inr ha, .inl rfl⟩
      · exact ⟨.inr ha, .inr hb⟩
    have hxl := lt_of_heap hx
    have HX : Hid _ := hx
    have SB : Hid (IntsB B w sa s) := hs
    have HA : Hid (∀ w' : World, Below w.heap.size w w' → Calls Try.prog 50 #[.pointer pa] w' fun e w'' => ∃ r, e = .returned (.pointer r) ∧ TreeAt B w''.heap.size w'' (tidyT a) r ∧ Below w'.heap.size w' w'') := fun w' hb => IA.out pa w' hna.1 (ta.keepB hb) s2
    have HB : Hid (∀ w' : World, Below w.heap.size w w' → Calls Try.prog 50 #[.pointer pb] w' fun e w'' => ∃ r, e = .returned (.pointer r) ∧ TreeAt B w''.heap.size w'' (tidyT b) r ∧ Below w'.heap.size w' w'') := fun w' hb => IB.out pb w' hna.2 (tb.keepB hb) s3
    have BD : Hid (Below w.heap.size w w.drew) := (Below.refl _ _).drew
    have HOK : Hid ((arity op = 0 ∧ nodeB (op, s) = true ∧ a = none ∧ b = none) ∨ (arity op = 1 ∧ s = [] ∧ okT a ∧ b = none) ∨ (arity op = 2 ∧ s = [] ∧ okT a ∧ okT b)) := hok
    have S2 : Hid (SetsOk a) := s2
    have S3 : Hid (SetsOk b) := s3
    clear ht hx ta tb hs IA IB hok hst s1 s2 s3 hna
    go_enter Try.func50, Try.ntmps50
    go_wp2
    go_region_held (fun w' => (w'.cell? ⟨x, 0, none⟩ = some (.int .i64 op) ∧ w'.cell? ⟨x, 1, none⟩ = some (.slice sa s.length sc) ∧ w'.cell? ⟨x, 2, none⟩ = some (.pointer pa) ∧ w'.cell? ⟨x, 3, none⟩ = some (.pointer pb))) (first | exact node_cells ((BD.out.block x hxl).trans HX.out) | exact node_cells ((BWA.out.block x hxl).trans HX.out) | exact node_cells ((BWB.out.block x hxl).trans HX.out) | exact node_cells (((BWA.out.trans ((al_T _ _).mono BWA.out.size)).block x hxl).trans HX.out) | exact node_cells (((BWB.out.trans ((al_T _ _).mono BWB.out.size)).block x hxl).trans HX.out)) (first
      | (go_at_call 50; (with_reducible refine Calls.mono (HA.out _ (by first | exact BD.out | exact BWB.out)) ?_); rintro e wa ⟨ra, rfl, ta5, ba5⟩; have BWA : Hid (Below w.heap.size w wa) := (by first | exact BD.out.trans (ba5.mono BD.out.size) | exact BWB.out.trans (ba5.mono BWB.out.size)); have TA5 : Hid _ := ta5; have BA5 : Hid _ := ba5; clear ta5 ba5)
      | (go_at_call 50; (with_reducible refine Calls.mono (HB.out _ (by first | exact BD.out | exact BWA.out)) ?_); rintro e wb ⟨rb, rfl, tb5, bb5⟩; have BWB : Hid (Below w.heap.size w wb) := (by first | exact BD.out.trans (bb5.mono BD.out.size) | exact BWA.out.trans (bb5.mono BWA.out.size)); have TB5 : Hid _ := tb5; have BB5 : Hid _ := bb5; clear tb5 bb5))
    all_goals
      first
      | (have z : TreeAt B wb.heap.size wb (tidyT a) ra ∧ TreeAt B wb.heap.size wb (tidyT b) rb ∧ Below w.heap.size w wb := ⟨(TA5.out.keepB BB5.out).top, TB5.out, BWB.out⟩
         clear TA5 TB5 BA5 BB5 BWA BWB
         revert z
         generalize wb = w6
         intro z)
      | (have z : TreeAt B wa.heap.size wa (tidyT a) ra ∧ TreeAt B wa.heap.size wa (tidyT b) rb ∧ Below w.heap.size w wa := ⟨TA5.out, (TB5.out.keepB BA5.out).top, BWA.out⟩
         clear TA5 TB5 BA5 BB5 BWA BWB
         revert z
         generalize wa = w6
         intro z)
      obtain ⟨z1, z2, z3⟩ := z
      have hs6 := z3.size
      have y : (w6.alloc (.cells #[.int .i64 op, .slice sa s.length sc, .pointer ra, .pointer rb] 108)).heap[w6.heap.size]? = some (.cells #[.int .i64 op, .slice sa s.length sc, .pointer ra, .pointer rb] 108) ∧ TreeAt B (w6.alloc (.cells #[.int .i64 op, .slice sa s.length sc, .pointer ra, .pointer rb] 108)).heap.size (w6.alloc (.cells #[.int .i64 op, .slice sa s.length sc, .pointer ra, .pointer rb] 108)) (some ⟨op, s, tidyT a, tidyT b⟩) (some ⟨w6.heap.size, 0, none⟩) ∧ TreeAt B (w6.alloc (.cells #[.int .i64 op, .slice sa s.length sc, .pointer ra, .pointer rb] 108)).heap.size (w6.alloc (.cells #[.int .i64 op, .slice sa s.length sc, .pointer ra, .pointer rb] 108)) (tidyT a) ra ∧ TreeAt B (w6.alloc (.cells #[.int .i64 op, .slice sa s.length sc, .pointer ra, .pointer rb] 108)).heap.size (w6.alloc (.cells #[.int .i64 op, .slice sa s.length sc, .pointer ra, .pointer rb] 108)) (tidyT b) rb ∧ Below w.heap.size w (w6.alloc (.cells #[.int .i64 op, .slice sa s.length sc, .pointer ra, .pointer rb] 108)) := by
        have b7 := z3.trans ((al_T w6 (.cells #[.int .i64 op, .slice sa s.length sc, .pointer ra, .pointer rb] 108)).mono hs6)
        have q1 := (z1.keepB (al_T w6 (.cells #[.int .i64 op, .slice sa s.length sc, .pointer ra, .pointer rb] 108))).top
        have q2 := (z2.keepB (al_T w6 (.cells #[.int .i64 op, .slice sa s.length sc, .pointer ra, .pointer rb] 108))).top
        exact ⟨heap_last2 _ _ _ rfl, TreeAt.mk' (by omega) (by simp) (heap_last2 _ _ _ rfl) (IntsB.grown SB.out (grown_of_belowT b7 none) (fun g e => by cases e)) q1 q2, q1, q2, b7⟩
      clear z1 z2 z3
      revert y
      obtain ⟨N6, hN6⟩ : ∃ n, n = w6.heap.size := ⟨_, rfl⟩
      rw [← hN6]
      generalize (w6.alloc (.cells #[.int .i64 op, .slice sa s.length sc, .pointer ra, .pointer rb] 108)) = w7
      intro y
      obtain ⟨hn7, tn7, ta7, tb7, b7⟩ := y
      have TN : Hid _ := tn7
      have TA : Hid _ := ta7
      have TB : Hid _ := tb7
      have B7 : Hid (Below w.heap.size w w7) := b7
      obtain ⟨c0, c1, c2, c3⟩ := node_cells hn7
      have x0 : w7.cell? ⟨x, 0, none⟩ = some (.int .i64 op) := cell_of ((b7.block x hxl).trans HX.out) 0
      have hs7 := b7.size
      clear tn7 ta7 tb7 b7 hn7 hN6
      rcases HOK.out with ⟨h1, -, rfl, rfl⟩ | ⟨h1, rfl, ha, rfl⟩ | ⟨h1, rfl, ha, hb⟩
      · have HR : Hid _ := leaf_of h1 s none none
        rcases arity_zero h1 with rfl | rfl
        all_goals
          clear h1 HOK
          go_wp2
          go_ret
          exact ⟨some ⟨N6, 0, none⟩, rfl, by rw [HR.out]; exact TN.out, B7.out⟩
      · obtain ⟨ua, hua⟩ := tidy_some ha
        have HUA : Hid (tidyT a = some ua) := hua
        have ta8 := TA.out
        rw [hua] at ta8
        obtain ⟨xa, rfl⟩ := ta8.some_ptr
        have ca := ta8.opc
        have TA8 : Hid (TreeAt B w7.heap.size w7 (some ua) (some ⟨xa, 0, none⟩)) := ta8
        have HBX : Hid (B < x) := hBx
        have hxl7 : x < w7.heap.size := by omega
        have NILW : Hid (∀ W : World, W = w7.alloc (.cells #[.int .i64 1, .slice none 0 0, .pointer none, .pointer none] 108) → TreeAt B W.heap.size W (some ⟨1, [], none, none⟩) (some ⟨w7.heap.size, 0, none⟩) ∧ Below w.heap.size w W) := fun W hW => by
          subst hW
          have := HBX.out
          exact ⟨TreeAt.mk' (s := []) (by omega) (by simp) (heap_last2 _ _ _ rfl) (IntsB.nil _ _ _) (by rw [TreeAt]) (by rw [TreeAt]), B7.out.trans ((al_T _ _).mono hs7)⟩
        obtain ⟨oa, hoa⟩ : ∃ oa, oa = opT (some ua) := ⟨_, rfl⟩
        rw [← hoa] at ca
        obtain ⟨na, hna⟩ : ∃ na, na = noneB (some ua) := ⟨_, rfl⟩
        have NA : Hid (Calls Try.prog 90 #[.pointer (some ⟨xa, 0, none⟩)] w7 fun e w'' => e = .returned (.bool na) ∧ w'' = w7) := by rw [hna]; exact inothing_any B _ ua _ w7 ta8
        rcases arity_one h1 with rfl | rfl
        · have HV : Hid (tidyT (some ⟨6, [], a, none⟩) = if oa = 1 ∨ na = true then some ⟨1, [], none, none⟩ else if oa = 6 then some ua else some ⟨6, [], some ua, none⟩) := by
            show _ = _
            rw [hoa, hna, tidyT, if_neg (by omega), tidy_none, hua]
            simp [oneOf]
          have TNX : Hid (TreeAt B w7.heap.size w7 (some ⟨6, [], some ua, none⟩) (some ⟨N6, 0, none⟩)) := by have h := TN.out; rwa [hua, tidy_none] at h
          clear h1 HOK ha hua ta8 hoa hna
          by_cases e1 : oa = 1
          · subst e1
            go_wp2
            go_ret
            exact ⟨some ⟨w7.heap.size, 0, none⟩, rfl, by rw [HV.out]; simp only [true_or, if_true]; exact (NILW.out _ rfl).1, (NILW.out _ rfl).2⟩
          · have e1b : (oa == 1) = false := by simpa using e1
            cases na
            · by_cases e6 : oa = 6
              · subst e6
                go_wp2_with fail
                refine Calls.mono NA.out ?_
                rintro e w8 ⟨rfl, rfl⟩
                go_wp2
                go_ret
                exact ⟨some ⟨xa, 0, none⟩, rfl, by rw [HV.out]; simp only [e1, Bool.false_eq_true, or_false, if_false, if_true]; exact TA8.out, B7.out⟩
              · have e6b : (oa == 6) = false := by simpa using e6
                go_wp2_with fail
                refine Calls.mono NA.out ?_
                rintro e w8 ⟨rfl, rfl⟩
                go_wp2
                go_ret
                exact ⟨some ⟨N6, 0, none⟩, rfl, by rw [HV.out]; simp only [e1, e6, Bool.false_eq_true, or_false, if_false]; exact TNX.out, B7.out⟩
            · go_wp2_with fail
              refine Calls.mono NA.out ?_
              rintro e w8 ⟨rfl, rfl⟩
              go_wp2
              go_ret
              exact ⟨some ⟨w8.heap.size, 0, none⟩, rfl, by rw [HV.out]; simp only [or_true, if_true]; exact (NILW.out _ rfl).1, (NILW.out _ rfl).2⟩
        · have HV : Hid (tidyT (some ⟨7, [], a, none⟩) = if oa = 7 then fstT (some ua) else some ⟨7, [], some ua, none⟩) := by
            show _ = _
            rw [hoa, tidyT, if_neg (by omega), tidy_none, hua]
            simp [oneOf]
          have TNX : Hid (TreeAt B w7.heap.size w7 (some ⟨7, [], some ua, none⟩) (some ⟨N6, 0, none⟩)) := by have h := TN.out; rwa [hua, tidy_none] at h
          clear h1 HOK ha hua NILW NA hna
          by_cases e7 : oa = 7
          · obtain ⟨uop, um, uc, ud⟩ := ua
            obtain ⟨z, sz, szc, pc, pd, hz, -, -, hz4, -, tc, td⟩ := TA8.out.node
            cases hz
            have cc := (node_cells hz4).2.2.1
            have TC : Hid (TreeAt B w7.heap.size w7 uc pc) := tc
            clear hoa tc td hz4
            subst e7
            go_wp2
            go_ret
            exact ⟨pc, rfl, by rw [HV.out]; simp only [if_true, fstT]; exact TC.out, B7.out⟩
          · have e7b : (oa == 7) = false := by simpa using e7
            clear hoa
            go_wp2
            go_ret
            exact ⟨some ⟨N6, 0, none⟩, rfl, by rw [HV.out]; simp only [e7, if_false]; exact TNX.out, B7.out⟩
      · have hh := arity_two h1
        obtain ⟨ua, hua⟩ := tidy_some ha
        obtain ⟨ub, hub⟩ := tidy_some hb
        have HV : Hid (tidyT (some ⟨op, [], a, b⟩) = onePart op [] (some ua) (some ub)) := by
          show _ = _
          rw [tidyT, if_pos hh, hua, hub]
        have TNX : TreeAt B w7.heap.size w7 (some ⟨op, [], some ua, some ub⟩) (some ⟨N6, 0, none⟩) := by have h := TN.out; rwa [hua, hub] at h
        have CALL : Hid (Calls Try.prog 89 #[.pointer (some ⟨N6, 0, none⟩)] w7 fun e w' => ∃ r, e = .returned (.pointer r) ∧ TreeAt B w7.heap.size w' (onePart op [] (some ua) (some ub)) r ∧ Below w7.heap.size w7 w') := ione_any B _ op hh [] ua ub _ w7 TNX (by rw [← hua]; exact S2.out.sub (tidy_sub a ha)) (by rw [← hub]; exact S3.out.sub (tidy_sub b hb))
        clear h1 HOK ha hb hua hub TNX
        rcases hh with rfl | rfl | rfl
        all_goals
          go_wp2_with fail
          refine Calls.mono CALL.out ?_
          rintro e w8 ⟨r8, rfl, t8, b8⟩
          have T8 : Hid _ := t8.top
          have B8 : Hid (Below w.heap.size w w8) := B7.out.trans (b8.mono hs7)
          clear t8 b8
          go_wp2
          go_ret
          exact ⟨r8, rfl, by rw [HV.out]; exact T8.out, B8.out⟩
set_option maxRecDepth 100000 in
set_option maxHeartbeats 1000000 in
theorem itidyRe_any (P : List Nd) (ao : Option Addr) (cap : Nat) (w : World) (hl : szP P ≤ 1048576) (hA : ResAt w ao P) (hlen : (ansT tidyT P).length ≤ 10000) :
    Calls Try.prog 33 #[.slice ao P.length cap] w fun e w' => ∃ v, e = .returned (.tuple #[v, .bool (goodP P)]) ∧ OwnF w' w.heap.size v (ansT tidyT P).length (nd (ansT tidyT P)) ∧ Below w.heap.size w w' := by
  have HT : Hid (Calls Try.prog 46 #[.slice ao P.length cap] w fun e w' => TreeE P w w' e) := treeT_any P ao cap w hl hA
  have HLEN : Hid ((ansT tidyT P).length ≤ 10000) := hlen
  clear hA hlen
  go_enter Try.func33, Try.ntmps33
  go_wp2_with fail
  refine Calls.mono HT.out ?_
  rintro e w1 hE
  rcases hE with ⟨hg, t, x, hp, rfl, tt, b1⟩ | ⟨hg, p, rfl, b1⟩
  · have HG : Hid (goodP P = true) := hg
    have HP : Hid _ := hp
    obtain ⟨ok, hpost⟩ := tree_of hp
    have hset : SetsOk (some t) := fun y hy => by
      have := mem_len P y (by rw [← hpost]; exact hy)
      omega
    have hmem : SetsOk (tidyT (some t)) := hset.sub (tidy_sub _ ok)
    have HMEM : Hid (SetsOk (tidyT (some t))) := hmem
    have HL2 : Hid ((post (tidyT (some t))).length ≤ 10000) := by have := HLEN.out; rwa [ansT_yes hg hp] at this
    have B1 : Hid (Below w.heap.size w w1) := b1
    have CALL : Hid (Calls Try.prog 50 #[.pointer (some ⟨x, 0, none⟩)] w1 fun e w' => ∃ r, e = .returned (.pointer r) ∧ TreeAt w.heap.size w'.heap.size w' (tidyT (some t)) r ∧ Below w1.heap.size w1 w') := itidy_any _ _ (some t) _ w1 (.inr ok) tt hset
    clear hg hp ok hpost b1 tt HT hset hmem
    go_wp2_with fail
    refine Calls.mono CALL.out ?_
    rintro e w2 ⟨r, rfl, t2, b2⟩
    have B2 : Hid (Below w.heap.size w w2) := B1.out.trans (b2.mono B1.out.size)
    have T2 : Hid _ := t2
    clear b2 t2 CALL
    go_wp2_with fail
    refine (ilist_any _ _ _ r w2 T2.out B2.out.size (Nat.le_refl _) HL2.out HMEM.out).mono ?_
    rintro e w3 ⟨v3, rfl, o3, b3⟩
    have O3 : Hid _ := o3
    have B3 : Hid (Below w.heap.size w w3) := B2.out.trans (b3.mono B2.out.size)
    have hsz := B2.out.size
    clear o3 b3
    go_wp2
    go_ret2
    rw [ansT_yes HG.out HP.out, HG.out]
    exact ⟨_, rfl, OwnF.mono O3.out hsz, B3.out⟩
  · have HG : Hid (goodP P = false) := hg
    have B1 : Hid (Below w.heap.size w w1) := b1
    clear hg b1 HT
    go_wp2
    go_ret2
    rw [ansT_no HG.out, HG.out]
    exact ⟨_, rfl, own_none _ _ _, B1.out⟩
end Go.Proofs.Ytendikiflikobaa
