/-
  The program's trees: whether the empty list is matched, turned round.
-/
import Derived.Test.YtkbijnojmfplpaaT5F
import Derived.Test.YtkbijnojmfplpaaT5P
import Derived.Deep.RegionHeld
namespace Go.Proofs.Ytkbijnojmfplpaa
open Go.ChangeShapes Go.WideShapes Go.ChangeAt Go.WideMaps Go.WideElems Go.RowKit
theorem arity_zero {op : Int} (h : arity op = 0) : op = 1 ∨ op = 2 := by
  unfold arity at h
  split at h
  · assumption
  · split at h
    · cases h
    · split at h <;> cases h
theorem arity_one {op : Int} (h : arity op = 1) : op = 6 ∨ op = 7 := by
  unfold arity at h
  split at h
  · cases h
  · split at h
    · assumption
    · split at h <;> cases h
theorem arity_two {op : Int} (h : arity op = 2) : op = 3 ∨ op = 4 ∨ op = 5 := by
  unfold arity at h
  split at h
  · cases h
  · split at h
    · cases h
    · split at h
      · assumption
      · cases h
/-- A node's cells, as loads want them. -/
theorem node_cells {w : World} {x : Nat} {op : Int} {sa : Option Addr} {n sc : Nat} {pa pb : Option Addr} (h : w.heap[x]? = some (.cells #[.int .i64 op, .slice sa n sc, .pointer pa, .pointer pb] 94)) :
    w.cell? ⟨x, 0, none⟩ = some (.int .i64 op) ∧ w.cell? ⟨x, 1, none⟩ = some (.slice sa n sc) ∧ w.cell? ⟨x, 2, none⟩ = some (.pointer pa) ∧ w.cell? ⟨x, 3, none⟩ = some (.pointer pb) := ⟨cell_of h 0, cell_of h 1, cell_of h 2, cell_of h 3⟩
set_option maxRecDepth 100000 in
set_option maxHeartbeats 4000000 in
theorem inul_any (B U : Nat) : ∀ t : Option Tr, okT t → ∀ (p : Option Addr) (w : World), TreeAt B U w t p → Calls Try.prog 49 #[.pointer p] w fun e w' => e = .returned (.bool (nul t)) ∧ w' = w
  | none, h => by rw [okT] at h; exact h.elim
  | some ⟨op, s, a, b⟩, h => by
    intro p w ht
    have IA : Hid (okT a → ∀ (p : Option Addr) (w : World), TreeAt B U w a p → Calls Try.prog 49 #[.pointer p] w fun e w' => e = .returned (.bool (nul a)) ∧ w' = w) := inul_any B U a
    have IB : Hid (okT b → ∀ (p : Option Addr) (w : World), TreeAt B U w b p → Calls Try.prog 49 #[.pointer p] w fun e w' => e = .returned (.bool (nul b)) ∧ w' = w) := inul_any B U b
    obtain ⟨x, sa, sc, pa, pb, rfl, -, -, hx, -, ta, tb⟩ := ht.node
    obtain ⟨c0, c1, c2, c3⟩ := node_cells hx
    have TA : Hid _ := ta
    have TB : Hid _ := tb
    clear ht hx ta tb
    rw [okT] at h
    rcases h with ⟨h1, -, -, -⟩ | ⟨h1, -, ha, -⟩ | ⟨h1, -, ha, hb⟩
    · rcases arity_zero h1 with rfl | rfl
      · have HV : Hid (nul (some ⟨1, s, a, b⟩) = true) := by show nul _ = _; rw [nul]; rfl
        clear h1
        go_enter Try.func49, Try.ntmps49
        go_wp2
        go_ret
        exact ⟨by rw [HV.out] <;> rfl, rfl⟩
      · have HV : Hid (nul (some ⟨2, s, a, b⟩) = false) := by show nul _ = _; rw [nul]; rfl
        clear h1
        go_enter Try.func49, Try.ntmps49
        go_wp2
        go_ret
        exact ⟨by rw [HV.out] <;> rfl, rfl⟩
    · rcases arity_one h1 with rfl | rfl
      · have HV : Hid (nul (some ⟨6, s, a, b⟩) = true) := by show nul _ = _; rw [nul]; rfl
        clear h1
        go_enter Try.func49, Try.ntmps49
        go_wp2
        go_ret
        exact ⟨by rw [HV.out] <;> rfl, rfl⟩
      · have HV : Hid (nul (some ⟨7, s, a, b⟩) = !nul a) := by show nul _ = _; rw [nul]; rfl
        clear h1
        go_enter Try.func49, Try.ntmps49
        go_wp2_with fail
        refine (IA.out ha pa w TA.out).mono ?_
        rintro e w1 ⟨rfl, rfl⟩
        go_wp2
        go_ret
        exact ⟨by rw [HV.out] <;> rfl, rfl⟩
    · rcases arity_two h1 with rfl | rfl | rfl
      · have HV : Hid (nul (some ⟨3, s, a, b⟩) = (nul a && nul b)) := by show nul _ = _; rw [nul]; rfl
        clear h1
        go_enter Try.func49, Try.ntmps49
        go_wp2_with fail
        refine (IA.out ha pa w TA.out).mono ?_
        rintro e w1 ⟨rfl, rfl⟩
        cases hna : nul a
        · go_wp2
          go_ret
          exact ⟨by rw [HV.out, hna] <;> rfl, rfl⟩
        · go_wp2_with fail
          refine (IB.out hb pb _ TB.out).mono ?_
          rintro e w1 ⟨rfl, rfl⟩
          go_wp2
          go_ret
          exact ⟨by rw [HV.out, hna] <;> rfl, rfl⟩
      · have HV : Hid (nul (some ⟨4, s, a, b⟩) = (nul a || nul b)) := by show nul _ = _; rw [nul]; rfl
        clear h1
        go_enter Try.func49, Try.ntmps49
        go_wp2_with fail
        refine (IA.out ha pa w TA.out).mono ?_
        rintro e w1 ⟨rfl, rfl⟩
        cases hna : nul a
        · go_wp2_with fail
          refine (IB.out hb pb _ TB.out).mono ?_
          rintro e w1 ⟨rfl, rfl⟩
          go_wp2
          go_ret
          exact ⟨by rw [HV.out, hna] <;> rfl, rfl⟩
        · go_wp2
          go_ret
          exact ⟨by rw [HV.out, hna] <;> rfl, rfl⟩
      · have HV : Hid (nul (some ⟨5, s, a, b⟩) = (nul a && nul b)) := by show nul _ = _; rw [nul]; rfl
        clear h1
        go_enter Try.func49, Try.ntmps49
        go_wp2_with fail
        refine (IA.out ha pa w TA.out).mono ?_
        rintro e w1 ⟨rfl, rfl⟩
        cases hna : nul a
        · go_wp2
          go_ret
          exact ⟨by rw [HV.out, hna] <;> rfl, rfl⟩
        · go_wp2_with fail
          refine (IB.out hb pb _ TB.out).mono ?_
          rintro e w1 ⟨rfl, rfl⟩
          go_wp2
          go_ret
          exact ⟨by rw [HV.out, hna] <;> rfl, rfl⟩
theorem IntsB.low {B V : Nat} {w w' : World} {sa : Option Addr} {s : List Int} (h : IntsB B w sa s) (hb : Below V w w') (hB : B ≤ V) : IntsB B w' sa s := by
  refine ⟨fun j hj => ?_, h.2⟩
  obtain ⟨b, off, rfl, h2, h3⟩ := h.1 j hj
  obtain ⟨b', off', he, hlt⟩ := h.2 j hj
  cases he
  have hbl := hb.block b (by omega)
  exact ⟨b, off, rfl, Nat.lt_of_lt_of_le h2 hb.size, by simpa [World.cell?, hbl] using h3⟩
/-- A tree stays where all that lies below stays. -/
theorem TreeAt.low {B U V : Nat} {w w' : World} (hb : Below V w w') (hU : U ≤ V) (hB : B ≤ V) : ∀ (t : Option Tr) (p : Option Addr), TreeAt B U w t p → TreeAt B U w' t p
  | none, p, h => by rw [TreeAt] at h ⊢; exact h
  | some ⟨op, s, a, b⟩, p, h => by
    rw [TreeAt] at h ⊢
    obtain ⟨x, sa, sc, pa, pb, h1, h2, h3, h4, h5, h6, h7⟩ := h
    exact ⟨x, sa, sc, pa, pb, h1, h2, h3, (hb.block x (by omega)).trans h4, h5.low hb hB, TreeAt.low hb hU hB a pa h6, TreeAt.low hb hU hB b pb h7⟩
theorem al_T (w : World) (o : Obj) : Below w.heap.size w (w.alloc o) := (Below.refl _ _).alloc (Nat.le_refl _) o
set_option maxRecDepth 100000 in
set_option maxHeartbeats 2000000 in
theorem irev_any (B U : Nat) : ∀ (t : Option Tr) (p : Option Addr) (w : World), TreeAt B U w t p → Calls Try.prog 60 #[.pointer p] w fun e w' => ∃ r, e = .returned (.pointer r) ∧ TreeAt B w'.heap.size w' (revT t) r ∧ Below w.heap.size w w'
  | none, p, w, ht => by
    obtain rfl := ht.none_ptr
    clear ht
    go_enter Try.func60, Try.ntmps60
    go_wp2
    go_ret
    exact ⟨none, rfl, by rw [revT_none, TreeAt], Below.refl _ _⟩
  | some ⟨op, s, a, b⟩, p, w, ht => by
    have IA : Hid (∀ (p : Option Addr) (w : World), TreeAt B U w a p → Calls Try.prog 60 #[.pointer p] w fun e w' => ∃ r, e = .returned (.pointer r) ∧ TreeAt B w'.heap.size w' (revT a) r ∧ Below w.heap.size w w') := irev_any B U a
    have IB : Hid (∀ (p : Option Addr) (w : World), TreeAt B U w b p → Calls Try.prog 60 #[.pointer p] w fun e w' => ∃ r, e = .returned (.pointer r) ∧ TreeAt B w'.heap.size w' (revT b) r ∧ Below w.heap.size w w') := irev_any B U b
    obtain ⟨x, sa, sc, pa, pb, rfl, hBx, -, hx, hs, ta, tb⟩ := ht.node
    have hxl := lt_of_heap hx
    have HX : Hid _ := hx
    have TA : Hid _ := ta
    have TB : Hid _ := tb
    have SB : Hid _ := hs
    have HA : Hid (∀ w' : World, Below w.heap.size w w' → Calls Try.prog 60 #[.pointer pa] w' fun e w'' => ∃ r, e = .returned (.pointer r) ∧ TreeAt B w''.heap.size w'' (revT a) r ∧ Below w'.heap.size w' w'') := fun w' hb => IA.out pa w' (TA.out.keepB hb)
    have HB : Hid (∀ w' : World, Below w.heap.size w w' → Calls Try.prog 60 #[.pointer pb] w' fun e w'' => ∃ r, e = .returned (.pointer r) ∧ TreeAt B w''.heap.size w'' (revT b) r ∧ Below w'.heap.size w' w'') := fun w' hb => IB.out pb w' (TB.out.keepB hb)
    have BD : Hid (Below w.heap.size w w.drew) := (Below.refl _ _).drew
    clear ht hx ta tb hs IA IB
    go_enter Try.func60, Try.ntmps60
    go_wp2
    go_region_held (fun w' => (w'.cell? ⟨x, 0, none⟩ = some (.int .i64 op) ∧ w'.cell? ⟨x, 1, none⟩ = some (.slice sa s.length sc) ∧ w'.cell? ⟨x, 2, none⟩ = some (.pointer pa) ∧ w'.cell? ⟨x, 3, none⟩ = some (.pointer pb))) (first | exact node_cells ((BD.out.block x hxl).trans HX.out) | exact node_cells ((BWA.out.block x hxl).trans HX.out) | exact node_cells ((BWB.out.block x hxl).trans HX.out)) (first
      | (go_at_call 60; (with_reducible refine Calls.mono (HA.out _ (by first | exact BD.out | exact BWB.out)) ?_); rintro e wa ⟨ra, rfl, ta5, ba5⟩; have BWA : Hid (Below w.heap.size w wa) := (by first | exact BD.out.trans (ba5.mono BD.out.size) | exact BWB.out.trans (ba5.mono BWB.out.size)); have TA5 : Hid _ := ta5; have BA5 : Hid _ := ba5; clear ta5 ba5)
      | (go_at_call 60; (with_reducible refine Calls.mono (HB.out _ (by first | exact BD.out | exact BWA.out)) ?_); rintro e wb ⟨rb, rfl, tb5, bb5⟩; have BWB : Hid (Below w.heap.size w wb) := (by first | exact BD.out.trans (bb5.mono BD.out.size) | exact BWA.out.trans (bb5.mono BWA.out.size)); have TB5 : Hid _ := tb5; have BB5 : Hid _ := bb5; clear tb5 bb5))
    all_goals
      first
      | (have z : TreeAt B wb.heap.size wb (revT a) ra ∧ TreeAt B wb.heap.size wb (revT b) rb ∧ Below w.heap.size w wb := ⟨(TA5.out.keepB BB5.out).top, TB5.out, BWB.out⟩
         clear TA5 TB5 BA5 BB5 BWA BWB
         revert z
         generalize wb = w6
         intro z)
      | (have z : TreeAt B wa.heap.size wa (revT a) ra ∧ TreeAt B wa.heap.size wa (revT b) rb ∧ Below w.heap.size w wa := ⟨TA5.out, (TB5.out.keepB BA5.out).top, BWA.out⟩
         clear TA5 TB5 BA5 BB5 BWA BWB
         revert z
         generalize wa = w6
         intro z)
      obtain ⟨z1, z2, z3⟩ := z
      have Z1 : Hid _ := z1
      have Z2 : Hid _ := z2
      have Z3 : Hid _ := z3
      have hx6 := (z3.block x hxl).trans HX.out
      have hs6 := z3.size
      have HX6 : Hid _ := hx6
      have D6 : Hid (Below w6.heap.size w6 w6.drew) := (Below.refl _ _).drew
      obtain ⟨c0, c1, c2, c3⟩ := node_cells hx6
      have hxl6 := lt_of_heap hx6
      clear z1 z2 z3 hx6
      by_cases h3 : op = 3
      · have HT : Hid _ := revT_cat h3 s a b
        subst h3
        have FIN : Hid (∀ (W : World), W.heap[w6.heap.size]? = some (.cells #[.int .i64 3, .slice sa s.length sc, .pointer rb, .pointer ra] 94) → Below w6.heap.size w6 W → TreeAt B W.heap.size W (revT (some ⟨3, s, a, b⟩)) (some ⟨w6.heap.size, 0, none⟩) ∧ Below w.heap.size w W) := fun W hW bW => by
          refine ⟨?_, Z3.out.trans (bW.mono hs6)⟩
          rw [HT.out]
          exact TreeAt.mk' (by omega) (lt_of_heap hW) hW (IntsB.grown SB.out (grown_of_belowT (Z3.out.trans (bW.mono hs6)) none) (fun g e => by cases e)) (Z2.out.keepB bW).top (Z1.out.keepB bW).top
        go_wp2
        go_region_held (fun w' => (w'.cell? ⟨x, 0, none⟩ = some (.int .i64 3) ∧ w'.cell? ⟨x, 1, none⟩ = some (.slice sa s.length sc))) (first | exact ⟨cell_of ((D6.out.block x hxl6).trans HX6.out) 0, cell_of ((D6.out.block x hxl6).trans HX6.out) 1⟩ | exact ⟨cell_of ((heap_prev _ _ _ (by simpa using hxl6)).trans ((D6.out.block x hxl6).trans HX6.out)) 0, cell_of ((heap_prev _ _ _ (by simpa using hxl6)).trans ((D6.out.block x hxl6).trans HX6.out)) 1⟩) (fail)
        go_wp2
        go_ret
        have f := FIN.out (World.alloc w6 _).drew (heap_last2 _ _ _ rfl) (al_T _ _).drew
        exact ⟨_, rfl, f.1, f.2⟩
      · have HT : Hid _ := revT_else h3 s a b
        have FIN : Hid (∀ (W : World), W.heap[w6.heap.size]? = some (.cells #[.int .i64 op, .slice sa s.length sc, .pointer ra, .pointer rb] 94) → Below w6.heap.size w6 W → TreeAt B W.heap.size W (revT (some ⟨op, s, a, b⟩)) (some ⟨w6.heap.size, 0, none⟩) ∧ Below w.heap.size w W) := fun W hW bW => by
          refine ⟨?_, Z3.out.trans (bW.mono hs6)⟩
          rw [HT.out]
          exact TreeAt.mk' (by omega) (lt_of_heap hW) hW (IntsB.grown SB.out (grown_of_belowT (Z3.out.trans (bW.mono hs6)) none) (fun g e => by cases e)) (Z1.out.keepB bW).top (Z2.out.keepB bW).top
        go_wp2
        go_region_held (fun w' => (w'.cell? ⟨x, 0, none⟩ = some (.int .i64 op) ∧ w'.cell? ⟨x, 1, none⟩ = some (.slice sa s.length sc))) (first | exact ⟨cell_of ((D6.out.block x hxl6).trans HX6.out) 0, cell_of ((D6.out.block x hxl6).trans HX6.out) 1⟩ | exact ⟨cell_of ((heap_prev _ _ _ (by simpa using hxl6)).trans ((D6.out.block x hxl6).trans HX6.out)) 0, cell_of ((heap_prev _ _ _ (by simpa using hxl6)).trans ((D6.out.block x hxl6).trans HX6.out)) 1⟩) (fail)
        go_wp2
        go_ret
        have f := FIN.out (World.alloc w6 _).drew (heap_last2 _ _ _ rfl) (al_T _ _).drew
        exact ⟨_, rfl, f.1, f.2⟩
end Go.Proofs.Ytkbijnojmfplpaa
