/-
  The program's trees: orOnePart.
-/
import Derived.Test.YtendikiflikobaaT5U
namespace Go.Proofs.Ytendikiflikobaa
open Go.ChangeShapes Go.WideShapes Go.ChangeAt Go.WideMaps Go.WideElems Go.RowKit
theorem TreeAt.opc {B U : Nat} {w : World} {t : Tr} {x : Nat} (h : TreeAt B U w (some t) (some ⟨x, 0, none⟩)) : w.cell? ⟨x, 0, none⟩ = some (.int .i64 (opT (some t))) := by
  obtain ⟨op, s, a, b⟩ := t
  obtain ⟨z, _, _, _, _, h1, _, _, h4, _⟩ := h.node
  cases h1
  exact cell_of h4 0
set_option maxRecDepth 100000 in
set_option maxHeartbeats 4000000 in
theorem ione3_any (B U : Nat) (s : List Int) (t u : Tr) (p : Option Addr) (w : World) (ht : TreeAt B U w (some ⟨3, s, some t, some u⟩) p) (hst : SetsOk (some t)) (hsu : SetsOk (some u)) :
    Calls Try.prog 89 #[.pointer p] w fun e w' => ∃ r, e = .returned (.pointer r) ∧ TreeAt B U w' (onePart 3 s (some t) (some u)) r ∧ Below w.heap.size w w' := by
  have HT : Hid (TreeAt B U w (some ⟨3, s, some t, some u⟩) p) := ht
  obtain ⟨x, sa, sc, pa, pb, rfl, -, -, hx, -, ta, tb⟩ := ht.node
  obtain ⟨xa, rfl⟩ := ta.some_ptr
  obtain ⟨xb, rfl⟩ := tb.some_ptr
  have hxl := lt_of_heap hx
  have hal := ta.lt
  have hbl := tb.lt
  obtain ⟨c0, c1, c2, c3⟩ := node_cells hx
  have ca := ta.opc
  have cb := tb.opc
  have TA : Hid (TreeAt B U w (some t) (some ⟨xa, 0, none⟩)) := ta
  have TB : Hid (TreeAt B U w (some u) (some ⟨xb, 0, none⟩)) := tb
  have BD : Hid (∀ n, Below w.heap.size w (w.drewN n)) := fun n => below_drewN (Below.refl _ _) n
  obtain ⟨na, hna⟩ : ∃ na, na = noneB (some t) := ⟨_, rfl⟩
  obtain ⟨nb, hnb⟩ : ∃ nb, nb = noneB (some u) := ⟨_, rfl⟩
  obtain ⟨oa, hoa⟩ : ∃ oa, oa = opT (some t) := ⟨_, rfl⟩
  obtain ⟨ob, hob⟩ : ∃ ob, ob = opT (some u) := ⟨_, rfl⟩
  obtain ⟨sm, hsm⟩ : ∃ sm, sm = eqT (some t) (some u) := ⟨_, rfl⟩
  rw [← hoa] at ca
  rw [← hob] at cb
  have NA : Hid (∀ w' : World, Below w.heap.size w w' → Calls Try.prog 90 #[.pointer (some ⟨xa, 0, none⟩)] w' fun e w'' => e = .returned (.bool na) ∧ w'' = w') := fun w' hb => by rw [hna]; exact inothing_any B U t _ w' (TA.out.keepB hb)
  have NB : Hid (∀ w' : World, Below w.heap.size w w' → Calls Try.prog 90 #[.pointer (some ⟨xb, 0, none⟩)] w' fun e w'' => e = .returned (.bool nb) ∧ w'' = w') := fun w' hb => by rw [hnb]; exact inothing_any B U u _ w' (TB.out.keepB hb)
  have SM : Hid (∀ w' : World, Below w.heap.size w w' → Calls Try.prog 117 #[.pointer (some ⟨xa, 0, none⟩), .pointer (some ⟨xb, 0, none⟩)] w' fun e w'' => e = .returned (.bool sm) ∧ Below w'.heap.size w' w'') := fun w' hb => by rw [hsm]; exact isame_any B U (some t) (some u) _ _ w' (TA.out.keepB hb) (TB.out.keepB hb) hst hsu
  have HV : Hid (onePart 3 s (some t) (some u) = if na = true ∨ ob = 1 then some t else if nb = true ∨ oa = 1 then some u else some ⟨3, s, some t, some u⟩) := by
    show _ = _
    rw [hna, hnb, hoa, hob]
    simp [onePart]
  clear ht hx ta tb hst hsu hna hnb hoa hob hsm
  cases na
  · by_cases h1 : ob = 1
    · subst h1
      go_enter Try.func89, Try.ntmps89
      go_wp2
      go_quiet (fail)
      go_wp2_with fail
      refine Calls.mono (NA.out _ (BD.out _)) ?_
      rintro e w1 ⟨rfl, rfl⟩
      go_wp2
      go_ret
      exact ⟨some ⟨xa, 0, none⟩, rfl, by rw [HV.out]; simp only [Bool.false_eq_true, false_or, if_true]; exact TreeAt.keepB TA.out (BD.out _), (BD.out _)⟩
    · have h1b : (ob == 1) = false := by simpa using h1
      cases nb
      · by_cases h2 : oa = 1
        · subst h2
          go_enter Try.func89, Try.ntmps89
          go_wp2
          go_quiet (fail)
          go_wp2_with fail
          refine Calls.mono (NA.out _ (BD.out _)) ?_
          rintro e w1 ⟨rfl, rfl⟩
          go_wp2_with fail
          refine Calls.mono (NB.out _ (BD.out _)) ?_
          rintro e w2 ⟨rfl, rfl⟩
          go_wp2
          go_ret
          exact ⟨some ⟨xb, 0, none⟩, rfl, by rw [HV.out]; simp only [Bool.false_eq_true, false_or, h1, if_false, if_true]; exact TreeAt.keepB TB.out (BD.out _), (BD.out _)⟩
        · have h2b : (oa == 1) = false := by simpa using h2
          go_enter Try.func89, Try.ntmps89
          go_wp2
          go_quiet (fail)
          go_wp2_with fail
          refine Calls.mono (NA.out _ (BD.out _)) ?_
          rintro e w1 ⟨rfl, rfl⟩
          go_wp2_with fail
          refine Calls.mono (NB.out _ (BD.out _)) ?_
          rintro e w2 ⟨rfl, rfl⟩
          go_wp2
          go_ret
          exact ⟨some ⟨x, 0, none⟩, rfl, by rw [HV.out]; simp only [Bool.false_eq_true, false_or, h1, h2, if_false]; exact TreeAt.keepB HT.out (BD.out _), (BD.out _)⟩
      ·
        go_enter Try.func89, Try.ntmps89
        go_wp2
        go_quiet (fail)
        go_wp2_with fail
        refine Calls.mono (NA.out _ (BD.out _)) ?_
        rintro e w1 ⟨rfl, rfl⟩
        go_wp2_with fail
        refine Calls.mono (NB.out _ (BD.out _)) ?_
        rintro e w2 ⟨rfl, rfl⟩
        go_wp2
        go_ret
        exact ⟨some ⟨xb, 0, none⟩, rfl, by rw [HV.out]; simp only [Bool.false_eq_true, false_or, h1, if_false, true_or, if_true]; exact TreeAt.keepB TB.out (BD.out _), (BD.out _)⟩
  ·
    go_enter Try.func89, Try.ntmps89
    go_wp2
    go_quiet (fail)
    go_wp2_with fail
    refine Calls.mono (NA.out _ (BD.out _)) ?_
    rintro e w1 ⟨rfl, rfl⟩
    go_wp2
    go_ret
    exact ⟨some ⟨xa, 0, none⟩, rfl, by rw [HV.out]; simp only [true_or, if_true]; exact TreeAt.keepB TA.out (BD.out _), (BD.out _)⟩
set_option maxRecDepth 100000 in
set_option maxHeartbeats 4000000 in
theorem ione4_any (B U : Nat) (s : List Int) (t u : Tr) (p : Option Addr) (w : World) (ht : TreeAt B U w (some ⟨4, s, some t, some u⟩) p) (hst : SetsOk (some t)) (hsu : SetsOk (some u)) :
    Calls Try.prog 89 #[.pointer p] w fun e w' => ∃ r, e = .returned (.pointer r) ∧ TreeAt B U w' (onePart 4 s (some t) (some u)) r ∧ Below w.heap.size w w' := by
  have HT : Hid (TreeAt B U w (some ⟨4, s, some t, some u⟩) p) := ht
  obtain ⟨x, sa, sc, pa, pb, rfl, -, -, hx, -, ta, tb⟩ := ht.node
  obtain ⟨xa, rfl⟩ := ta.some_ptr
  obtain ⟨xb, rfl⟩ := tb.some_ptr
  have hxl := lt_of_heap hx
  have hal := ta.lt
  have hbl := tb.lt
  obtain ⟨c0, c1, c2, c3⟩ := node_cells hx
  have ca := ta.opc
  have cb := tb.opc
  have TA : Hid (TreeAt B U w (some t) (some ⟨xa, 0, none⟩)) := ta
  have TB : Hid (TreeAt B U w (some u) (some ⟨xb, 0, none⟩)) := tb
  have BD : Hid (∀ n, Below w.heap.size w (w.drewN n)) := fun n => below_drewN (Below.refl _ _) n
  obtain ⟨na, hna⟩ : ∃ na, na = noneB (some t) := ⟨_, rfl⟩
  obtain ⟨nb, hnb⟩ : ∃ nb, nb = noneB (some u) := ⟨_, rfl⟩
  obtain ⟨oa, hoa⟩ : ∃ oa, oa = opT (some t) := ⟨_, rfl⟩
  obtain ⟨ob, hob⟩ : ∃ ob, ob = opT (some u) := ⟨_, rfl⟩
  obtain ⟨sm, hsm⟩ : ∃ sm, sm = eqT (some t) (some u) := ⟨_, rfl⟩
  rw [← hoa] at ca
  rw [← hob] at cb
  have NA : Hid (∀ w' : World, Below w.heap.size w w' → Calls Try.prog 90 #[.pointer (some ⟨xa, 0, none⟩)] w' fun e w'' => e = .returned (.bool na) ∧ w'' = w') := fun w' hb => by rw [hna]; exact inothing_any B U t _ w' (TA.out.keepB hb)
  have NB : Hid (∀ w' : World, Below w.heap.size w w' → Calls Try.prog 90 #[.pointer (some ⟨xb, 0, none⟩)] w' fun e w'' => e = .returned (.bool nb) ∧ w'' = w') := fun w' hb => by rw [hnb]; exact inothing_any B U u _ w' (TB.out.keepB hb)
  have SM : Hid (∀ w' : World, Below w.heap.size w w' → Calls Try.prog 117 #[.pointer (some ⟨xa, 0, none⟩), .pointer (some ⟨xb, 0, none⟩)] w' fun e w'' => e = .returned (.bool sm) ∧ Below w'.heap.size w' w'') := fun w' hb => by rw [hsm]; exact isame_any B U (some t) (some u) _ _ w' (TA.out.keepB hb) (TB.out.keepB hb) hst hsu
  have HV : Hid (onePart 4 s (some t) (some u) = if na = true then some u else if nb = true ∨ sm = true then some t else some ⟨4, s, some t, some u⟩) := by
    show _ = _
    rw [hna, hnb, hsm]
    simp [onePart]
  clear ht hx ta tb hst hsu hna hnb hoa hob hsm
  cases na
  · cases nb
    · cases sm
      ·
        go_enter Try.func89, Try.ntmps89
        go_wp2
        go_quiet (fail)
        go_wp2_with fail
        refine Calls.mono (NA.out _ (BD.out _)) ?_
        rintro e w1 ⟨rfl, rfl⟩
        go_wp2_with fail
        refine Calls.mono (NB.out _ (BD.out _)) ?_
        rintro e w2 ⟨rfl, rfl⟩
        go_wp2_with fail
        refine Calls.mono (SM.out _ (BD.out _)) ?_
        rintro e w3 ⟨rfl, b3⟩
        have B3 : Hid (Below w.heap.size w w3) := Below.trans (BD.out _) (b3.mono (Below.size (BD.out _)))
        clear b3
        go_wp2
        go_ret
        exact ⟨some ⟨x, 0, none⟩, rfl, by rw [HV.out]; simp only [Bool.false_eq_true, false_or, if_false]; exact TreeAt.keepB HT.out B3.out, B3.out⟩
      ·
        go_enter Try.func89, Try.ntmps89
        go_wp2
        go_quiet (fail)
        go_wp2_with fail
        refine Calls.mono (NA.out _ (BD.out _)) ?_
        rintro e w1 ⟨rfl, rfl⟩
        go_wp2_with fail
        refine Calls.mono (NB.out _ (BD.out _)) ?_
        rintro e w2 ⟨rfl, rfl⟩
        go_wp2_with fail
        refine Calls.mono (SM.out _ (BD.out _)) ?_
        rintro e w3 ⟨rfl, b3⟩
        have B3 : Hid (Below w.heap.size w w3) := Below.trans (BD.out _) (b3.mono (Below.size (BD.out _)))
        clear b3
        go_wp2
        go_ret
        exact ⟨some ⟨xa, 0, none⟩, rfl, by rw [HV.out]; simp only [Bool.false_eq_true, false_or, if_false, if_true]; exact TreeAt.keepB TA.out B3.out, B3.out⟩
    ·
      go_enter Try.func89, Try.ntmps89
      go_wp2
      go_quiet (fail)
      go_wp2_with fail
      refine Calls.mono (NA.out _ (BD.out _)) ?_
      rintro e w1 ⟨rfl, rfl⟩
      go_wp2_with fail
      refine Calls.mono (NB.out _ (BD.out _)) ?_
      rintro e w2 ⟨rfl, rfl⟩
      go_wp2
      go_ret
      exact ⟨some ⟨xa, 0, none⟩, rfl, by rw [HV.out]; simp only [Bool.false_eq_true, true_or, if_false, if_true]; exact TreeAt.keepB TA.out (BD.out _), (BD.out _)⟩
  ·
    go_enter Try.func89, Try.ntmps89
    go_wp2
    go_quiet (fail)
    go_wp2_with fail
    refine Calls.mono (NA.out _ (BD.out _)) ?_
    rintro e w1 ⟨rfl, rfl⟩
    go_wp2
    go_ret
    exact ⟨some ⟨xb, 0, none⟩, rfl, by rw [HV.out]; simp only [if_true]; exact TreeAt.keepB TB.out (BD.out _), (BD.out _)⟩
set_option maxRecDepth 100000 in
set_option maxHeartbeats 4000000 in
theorem ione5_any (B U : Nat) (s : List Int) (t u : Tr) (p : Option Addr) (w : World) (ht : TreeAt B U w (some ⟨5, s, some t, some u⟩) p) (hst : SetsOk (some t)) (hsu : SetsOk (some u)) :
    Calls Try.prog 89 #[.pointer p] w fun e w' => ∃ r, e = .returned (.pointer r) ∧ TreeAt B U w' (onePart 5 s (some t) (some u)) r ∧ Below w.heap.size w w' := by
  have HT : Hid (TreeAt B U w (some ⟨5, s, some t, some u⟩) p) := ht
  obtain ⟨x, sa, sc, pa, pb, rfl, -, -, hx, -, ta, tb⟩ := ht.node
  obtain ⟨xa, rfl⟩ := ta.some_ptr
  obtain ⟨xb, rfl⟩ := tb.some_ptr
  have hxl := lt_of_heap hx
  have hal := ta.lt
  have hbl := tb.lt
  obtain ⟨c0, c1, c2, c3⟩ := node_cells hx
  have ca := ta.opc
  have cb := tb.opc
  have TA : Hid (TreeAt B U w (some t) (some ⟨xa, 0, none⟩)) := ta
  have TB : Hid (TreeAt B U w (some u) (some ⟨xb, 0, none⟩)) := tb
  have BD : Hid (∀ n, Below w.heap.size w (w.drewN n)) := fun n => below_drewN (Below.refl _ _) n
  obtain ⟨na, hna⟩ : ∃ na, na = noneB (some t) := ⟨_, rfl⟩
  obtain ⟨nb, hnb⟩ : ∃ nb, nb = noneB (some u) := ⟨_, rfl⟩
  obtain ⟨oa, hoa⟩ : ∃ oa, oa = opT (some t) := ⟨_, rfl⟩
  obtain ⟨ob, hob⟩ : ∃ ob, ob = opT (some u) := ⟨_, rfl⟩
  obtain ⟨sm, hsm⟩ : ∃ sm, sm = eqT (some t) (some u) := ⟨_, rfl⟩
  rw [← hoa] at ca
  rw [← hob] at cb
  have NA : Hid (∀ w' : World, Below w.heap.size w w' → Calls Try.prog 90 #[.pointer (some ⟨xa, 0, none⟩)] w' fun e w'' => e = .returned (.bool na) ∧ w'' = w') := fun w' hb => by rw [hna]; exact inothing_any B U t _ w' (TA.out.keepB hb)
  have NB : Hid (∀ w' : World, Below w.heap.size w w' → Calls Try.prog 90 #[.pointer (some ⟨xb, 0, none⟩)] w' fun e w'' => e = .returned (.bool nb) ∧ w'' = w') := fun w' hb => by rw [hnb]; exact inothing_any B U u _ w' (TB.out.keepB hb)
  have SM : Hid (∀ w' : World, Below w.heap.size w w' → Calls Try.prog 117 #[.pointer (some ⟨xa, 0, none⟩), .pointer (some ⟨xb, 0, none⟩)] w' fun e w'' => e = .returned (.bool sm) ∧ Below w'.heap.size w' w'') := fun w' hb => by rw [hsm]; exact isame_any B U (some t) (some u) _ _ w' (TA.out.keepB hb) (TB.out.keepB hb) hst hsu
  have HV : Hid (onePart 5 s (some t) (some u) = if na = true ∨ sm = true then some t else if nb = true then some u else some ⟨5, s, some t, some u⟩) := by
    show _ = _
    rw [hna, hnb, hsm]
    simp [onePart]
  clear ht hx ta tb hst hsu hna hnb hoa hob hsm
  cases na
  · cases sm
    · cases nb
      ·
        go_enter Try.func89, Try.ntmps89
        go_wp2
        go_quiet (fail)
        go_wp2_with fail
        refine Calls.mono (NA.out _ (BD.out _)) ?_
        rintro e w1 ⟨rfl, rfl⟩
        go_wp2_with fail
        refine Calls.mono (SM.out _ (BD.out _)) ?_
        rintro e w3 ⟨rfl, b3⟩
        have B3 : Hid (Below w.heap.size w w3) := Below.trans (BD.out _) (b3.mono (Below.size (BD.out _)))
        clear b3
        go_wp2_with fail
        refine Calls.mono (NB.out _ B3.out) ?_
        rintro e w2 ⟨rfl, rfl⟩
        go_wp2
        go_ret
        exact ⟨some ⟨x, 0, none⟩, rfl, by rw [HV.out]; simp only [Bool.false_eq_true, false_or, if_false]; exact TreeAt.keepB HT.out B3.out, B3.out⟩
      ·
        go_enter Try.func89, Try.ntmps89
        go_wp2
        go_quiet (fail)
        go_wp2_with fail
        refine Calls.mono (NA.out _ (BD.out _)) ?_
        rintro e w1 ⟨rfl, rfl⟩
        go_wp2_with fail
        refine Calls.mono (SM.out _ (BD.out _)) ?_
        rintro e w3 ⟨rfl, b3⟩
        have B3 : Hid (Below w.heap.size w w3) := Below.trans (BD.out _) (b3.mono (Below.size (BD.out _)))
        clear b3
        go_wp2_with fail
        refine Calls.mono (NB.out _ B3.out) ?_
        rintro e w2 ⟨rfl, rfl⟩
        go_wp2
        go_ret
        exact ⟨some ⟨xb, 0, none⟩, rfl, by rw [HV.out]; simp only [Bool.false_eq_true, false_or, if_false, if_true]; exact TreeAt.keepB TB.out B3.out, B3.out⟩
    ·
      go_enter Try.func89, Try.ntmps89
      go_wp2
      go_quiet (fail)
      go_wp2_with fail
      refine Calls.mono (NA.out _ (BD.out _)) ?_
      rintro e w1 ⟨rfl, rfl⟩
      go_wp2_with fail
      refine Calls.mono (SM.out _ (BD.out _)) ?_
      rintro e w3 ⟨rfl, b3⟩
      have B3 : Hid (Below w.heap.size w w3) := Below.trans (BD.out _) (b3.mono (Below.size (BD.out _)))
      clear b3
      go_wp2
      go_ret
      exact ⟨some ⟨xa, 0, none⟩, rfl, by rw [HV.out]; simp only [Bool.false_eq_true, false_or, if_true]; exact TreeAt.keepB TA.out B3.out, B3.out⟩
  ·
    go_enter Try.func89, Try.ntmps89
    go_wp2
    go_quiet (fail)
    go_wp2_with fail
    refine Calls.mono (NA.out _ (BD.out _)) ?_
    rintro e w1 ⟨rfl, rfl⟩
    go_wp2
    go_ret
    exact ⟨some ⟨xa, 0, none⟩, rfl, by rw [HV.out]; simp only [true_or, if_true]; exact TreeAt.keepB TA.out (BD.out _), (BD.out _)⟩
theorem ione_any (B U : Nat) (op : Int) (hop : op = 3 ∨ op = 4 ∨ op = 5) (s : List Int) (t u : Tr) (p : Option Addr) (w : World) (ht : TreeAt B U w (some ⟨op, s, some t, some u⟩) p) (hst : SetsOk (some t)) (hsu : SetsOk (some u)) :
    Calls Try.prog 89 #[.pointer p] w fun e w' => ∃ r, e = .returned (.pointer r) ∧ TreeAt B U w' (onePart op s (some t) (some u)) r ∧ Below w.heap.size w w' := by
  rcases hop with rfl | rfl | rfl
  · exact ione3_any B U s t u p w ht hst hsu
  · exact ione4_any B U s t u p w ht hst hsu
  · exact ione5_any B U s t u p w ht hst hsu
end Go.Proofs.Ytendikiflikobaa
