/-
  For every list of nodes, laws.FnExactFoldRe returns true: impl.FoldRe answers as the specification's FoldRe, nodes and flag, in memory of its own that a second call leaves alone and that is no part of the list, which stays as it was. No conditions.
-/
import Derived.Test.YtkbijnojmfplpaaC4T
import Derived.Test.YtkbijnojmfplpaaT5A
import Derived.Test.YtkbijnojmfplpaaT5F
import Derived.Test.YtkbijnojmfplpaaT5P
import Derived.Deep.RegionHeld
import Derived.Test.YtkbijnojmfplpaaT5F2
import Derived.Maps.AppendAt
import Derived.Test.YtkbijnojmfplpaaR5L
import Derived.Deep.RegionHeldLaw
import Derived.Test.YtkbijnojmfplpaaC4Z
import Derived.Test.YtkbijnojmfplpaaN3E
import Derived.Test.YtkbijnojmfplpaaR5M
namespace Go.Proofs.Ytkbijnojmfplpaa
open Go.ChangeShapes Go.WideShapes Go.ChangeAt Go.WideMaps Go.WideElems Go.RowKit
theorem mem_first {C : List (Int × Int)} {x : Int} (h : Mem x C) (h' : ¬ Mem (x - 1) C) : ∃ q ∈ C, q.1 = x := by
  induction C with
  | nil => exact h.elim
  | cons q r ih =>
    rcases h with h | h
    · by_cases e : q.1 = x
      · exact ⟨q, by simp, e⟩
      · exact (h' (.inl ⟨by omega, by omega⟩)).elim
    · obtain ⟨p, hp, e⟩ := ih h (fun k => h' (.inr k))
      exact ⟨p, by simp [hp], e⟩
theorem mem_last {C : List (Int × Int)} {x : Int} (h : Mem x C) (h' : ¬ Mem (x + 1) C) : ∃ q ∈ C, q.2 - 1 = x := by
  induction C with
  | nil => exact h.elim
  | cons q r ih =>
    rcases h with h | h
    · by_cases e : q.2 - 1 = x
      · exact ⟨q, by simp, e⟩
      · exact (h' (.inl ⟨by omega, by omega⟩)).elim
    · obtain ⟨p, hp, e⟩ := ih h (fun k => h' (.inr k))
      exact ⟨p, by simp [hp], e⟩
theorem mem_of_in {C : List (Int × Int)} {p : Int × Int} (hp : p ∈ C) {x : Int} (h1 : p.1 ≤ x) (h2 : x < p.2) : Mem x C := by
  induction C with
  | nil => cases hp
  | cons q r ih =>
    rcases List.mem_cons.1 hp with rfl | hp
    · exact .inl ⟨h1, h2⟩
    · exact .inr (ih hp)
theorem can_first {c : Int} {C : List (Int × Int)} (h : Can c C) : ∀ p ∈ C, c < p.1 ∧ p.1 < p.2 ∧ ¬ Mem (p.1 - 1) C ∧ ¬ Mem p.2 C := by
  induction C generalizing c with
  | nil => intro p hp; cases hp
  | cons q r ih =>
    obtain ⟨h1, h2, h3⟩ := h
    intro p hp
    rcases List.mem_cons.1 hp with rfl | hp
    · refine ⟨h1, h2, fun k => ?_, fun k => ?_⟩
      · rcases k with k | k
        · omega
        · have := h3.lt k; omega
      · rcases k with k | k
        · omega
        · have := h3.lt k; omega
    · obtain ⟨i1, i2, i3, i4⟩ := ih h3 p hp
      refine ⟨by omega, i2, fun k => ?_, fun k => ?_⟩
      · rcases k with k | k
        · omega
        · exact i3 k
      · rcases k with k | k
        · omega
        · exact i4 k
theorem flS_all (C : List (Int × Int)) : allG (flS C) = true ↔ ∀ p ∈ C, goodB p.1 = true ∧ goodB (p.2 - 1) = true := by
  induction C with
  | nil => simp [flS, allG]
  | cons q r ih =>
    rw [flS]
    have e : allG (q.1 :: (q.2 - 1) :: flS r) = (goodB q.1 && (goodB (q.2 - 1) && allG (flS r))) := rfl
    rw [e, Bool.and_eq_true, Bool.and_eq_true, ih]
    constructor
    · rintro ⟨a, b, c⟩ p hp
      rcases List.mem_cons.1 hp with rfl | hp
      · exact ⟨a, b⟩
      · exact c p hp
    · intro h
      exact ⟨(h q (by simp)).1, (h q (by simp)).2, fun p hp => h p (by simp [hp])⟩
/-- The folded set. -/
def foldC (s : List Int) : List (Int × Int) := foldK (PR s (s.length / 2)) 26
def foldS (s : List Int) : List Int := flS (foldC s)
theorem fold_all {s : List Int} {C : List (Int × Int)} (h : Good4 s C) (hg : allG s = true) : allG (flS (foldK C 26)) = true := by
  obtain ⟨f1, f2, f3⟩ := foldK_facts ⟨h.can, h.top⟩ h.le 26 (Nat.le_refl _)
  rw [← h.fl] at hg
  rw [flS_all] at hg ⊢
  have hbd := f1.bd
  intro p hp
  obtain ⟨c1, c2, c3, c4⟩ := can_first f1.can p hp
  have hb := hbd p hp
  have m1 : Mem p.1 (foldK C 26) := mem_of_in hp (Int.le_refl _) c2
  have m2 : Mem (p.2 - 1) (foldK C 26) := mem_of_in hp (by omega) (by omega)
  constructor
  · by_cases e : 55296 ≤ p.1 ∧ p.1 ≤ 57343
    · rcases (f3 p.1).1 m1 with m | ⟨j, hj, -, hx⟩
      · obtain ⟨q, hq, e1⟩ := mem_first m (fun k => c3 ((f3 _).2 (.inl k)))
        rw [← e1]; exact (hg q hq).1
      · omega
    · exact (by simp only [goodB, decide_eq_true_eq]; omega)
  · by_cases e : 55296 ≤ p.2 - 1 ∧ p.2 - 1 ≤ 57343
    · rcases (f3 (p.2 - 1)).1 m2 with m | ⟨j, hj, -, hx⟩
      · obtain ⟨q, hq, e1⟩ := mem_last m (fun k => c4 (by have := (f3 _).2 (.inl k); rwa [Int.sub_add_cancel] at this))
        rw [← e1]; exact (hg q hq).2
      · omega
    · exact (by simp only [goodB, decide_eq_true_eq]; omega)
theorem fold_good {s : List Int} {C : List (Int × Int)} (h : Good4 s C) : goodS (flS (foldK C 26)) = decide ((foldK C 26).length ≤ 12) := by
  obtain ⟨f1, -, -⟩ := foldK_facts ⟨h.can, h.top⟩ h.le 26 (Nat.le_refl _)
  exact goodS_flS f1.can f1.top
theorem foldC_of {s : List Int} {C : List (Int × Int)} (h : Good4 s C) : foldC s = foldK C 26 := by rw [foldC, h.pr]
theorem foldC_nil : foldC [] = [] := by
  have h0 : PR ([] : List Int) (([] : List Int).length / 2) = [] := rfl
  rw [foldC, h0]
  have hct : CT ([] : List (Int × Int)) := ⟨trivial, fun p hp => by cases hp⟩
  obtain ⟨f1, -, f3⟩ := foldK_facts hct (by simp) 26 (Nat.le_refl _)
  refine can_ext f1.can trivial (fun x => ⟨fun h => ?_, fun h => h.elim⟩)
  rcases (f3 x).1 h with m | ⟨j, -, m, -⟩
  · exact m
  · rcases m with m | m <;> exact m
/-- Whether a folded node is one, and the folded list. -/
def okN (x : Nd) : Bool := decide ((foldC x.2).length ≤ 12)
def foldL (P : List Nd) : List Nd := P.map fun x => (x.1, foldS x.2)
theorem node_fold {x : Nd} (h : nodeB x = true) : nodeB (x.1, foldS x.2) = okN x := by
  obtain ⟨op, s⟩ := x
  have h0 := nodeB_nonneg h
  by_cases e : arity op = 0
  · simp only [nodeB, Bool.and_eq_true, Bool.or_eq_true, decide_eq_true_eq] at h
    obtain ⟨⟨-, h2⟩, h3, h4⟩ := h
    obtain ⟨C, hC⟩ := good4_of h3
    have h5 : goodS (foldS s) = okN (op, s) := by rw [foldS, okN, foldC_of hC]; exact fold_good hC
    have h6 : allG (foldS s) = true := by rw [foldS, foldC_of hC]; exact fold_all hC h4
    rcases h2 with h2 | h2
    · subst h2
      simp [nodeB, arity, h5, h6]
    · have hs : s = [] := by simpa using h2
      subst hs
      have e1 : foldS [] = [] := by rw [foldS, foldC_nil]; rfl
      rw [e1, nodeB_of_empty h0]
      simp [okN, foldC_nil]
  · have hs := nodeB_empty h e
    simp only at hs
    subst hs
    have e1 : foldS [] = [] := by rw [foldS, foldC_nil]; rfl
    rw [e1, nodeB_of_empty h0]
    simp [okN, foldC_nil]
end Go.Proofs.Ytkbijnojmfplpaa
namespace Go.Proofs.Ytkbijnojmfplpaa
open Go.ChangeShapes Go.WideShapes Go.ChangeAt Go.WideMaps Go.WideElems Go.RowKit
theorem arity_zero {op : Int} (h : arity op = 0) : op = 1 ∨ op = 2 := by
  unfold arity at h
  split at h
  · assumption
  · split at h
    · cases h
    · split at h <;> cases h
theorem arity_one {op : Int} (h : arity op = 1) : op = 6 ∨ op = 7 := by
  unfold arity at h
  split at h
  · cases h
  · split at h
    · assumption
    · split at h <;> cases h
theorem arity_two {op : Int} (h : arity op = 2) : op = 3 ∨ op = 4 ∨ op = 5 := by
  unfold arity at h
  split at h
  · cases h
  · split at h
    · cases h
    · split at h
      · assumption
      · cases h
/-- A node's cells, as loads want them. -/
theorem node_cells {w : World} {x : Nat} {op : Int} {sa : Option Addr} {n sc : Nat} {pa pb : Option Addr} (h : w.heap[x]? = some (.cells #[.int .i64 op, .slice sa n sc, .pointer pa, .pointer pb] 94)) :
    w.cell? ⟨x, 0, none⟩ = some (.int .i64 op) ∧ w.cell? ⟨x, 1, none⟩ = some (.slice sa n sc) ∧ w.cell? ⟨x, 2, none⟩ = some (.pointer pa) ∧ w.cell? ⟨x, 3, none⟩ = some (.pointer pb) := ⟨cell_of h 0, cell_of h 1, cell_of h 2, cell_of h 3⟩
set_option maxRecDepth 100000 in
set_option maxHeartbeats 4000000 in
theorem inul_any (B U : Nat) : ∀ t : Option Tr, okT t → ∀ (p : Option Addr) (w : World), TreeAt B U w t p → Calls Try.prog 49 #[.pointer p] w fun e w' => e = .returned (.bool (nul t)) ∧ w' = w
  | none, h => by rw [okT] at h; exact h.elim
  | some ⟨op, s, a, b⟩, h => by
    intro p w ht
    have IA : Hid (okT a → ∀ (p : Option Addr) (w : World), TreeAt B U w a p → Calls Try.prog 49 #[.pointer p] w fun e w' => e = .returned (.bool (nul a)) ∧ w' = w) := inul_any B U a
    have IB : Hid (okT b → ∀ (p : Option Addr) (w : World), TreeAt B U w b p → Calls Try.prog 49 #[.pointer p] w fun e w' => e = .returned (.bool (nul b)) ∧ w' = w) := inul_any B U b
    obtain ⟨x, sa, sc, pa, pb, rfl, -, -, hx, -, ta, tb⟩ := ht.node
    obtain ⟨c0, c1, c2, c3⟩ := node_cells hx
    have TA : Hid _ := ta
    have TB : Hid _ := tb
    clear ht hx ta tb
    rw [okT] at h
    rcases h with ⟨h1, -, -, -⟩ | ⟨h1, -, ha, -⟩ | ⟨h1, -, ha, hb⟩
    · rcases arity_zero h1 with rfl | rfl
      · have HV : Hid (nul (some ⟨1, s, a, b⟩) = true) := by show nul _ = _; rw [nul]; rfl
        clear h1
        go_enter Try.func49, Try.ntmps49
        go_wp2
        go_ret
        exact ⟨by rw [HV.out] <;> rfl, rfl⟩
      · have HV : Hid (nul (some ⟨2, s, a, b⟩) = false) := by show nul _ = _; rw [nul]; rfl
        clear h1
        go_enter Try.func49, Try.ntmps49
        go_wp2
        go_ret
        exact ⟨by rw [HV.out] <;> rfl, rfl⟩
    · rcases arity_one h1 with rfl | rfl
      · have HV : Hid (nul (some ⟨6, s, a, b⟩) = true) := by show nul _ = _; rw [nul]; rfl
        clear h1
        go_enter Try.func49, Try.ntmps49
        go_wp2
        go_ret
        exact ⟨by rw [HV.out] <;> rfl, rfl⟩
      · have HV : Hid (nul (some ⟨7, s, a, b⟩) = !nul a) := by show nul _ = _; rw [nul]; rfl
        clear h1
        go_enter Try.func49, Try.ntmps49
        go_wp2_with fail
        refine (IA.out ha pa w TA.out).mono ?_
        rintro e w1 ⟨rfl, rfl⟩
        go_wp2
        go_ret
        exact ⟨by rw [HV.out] <;> rfl, rfl⟩
    · rcases arity_two h1 with rfl | rfl | rfl
      · have HV : Hid (nul (some ⟨3, s, a, b⟩) = (nul a && nul b)) := by show nul _ = _; rw [nul]; rfl
        clear h1
        go_enter Try.func49, Try.ntmps49
        go_wp2_with fail
        refine (IA.out ha pa w TA.out).mono ?_
        rintro e w1 ⟨rfl, rfl⟩
        cases hna : nul a
        · go_wp2
          go_ret
          exact ⟨by rw [HV.out, hna] <;> rfl, rfl⟩
        · go_wp2_with fail
          refine (IB.out hb pb _ TB.out).mono ?_
          rintro e w1 ⟨rfl, rfl⟩
          go_wp2
          go_ret
          exact ⟨by rw [HV.out, hna] <;> rfl, rfl⟩
      · have HV : Hid (nul (some ⟨4, s, a, b⟩) = (nul a || nul b)) := by show nul _ = _; rw [nul]; rfl
        clear h1
        go_enter Try.func49, Try.ntmps49
        go_wp2_with fail
        refine (IA.out ha pa w TA.out).mono ?_
        rintro e w1 ⟨rfl, rfl⟩
        cases hna : nul a
        · go_wp2_with fail
          refine (IB.out hb pb _ TB.out).mono ?_
          rintro e w1 ⟨rfl, rfl⟩
          go_wp2
          go_ret
          exact ⟨by rw [HV.out, hna] <;> rfl, rfl⟩
        · go_wp2
          go_ret
          exact ⟨by rw [HV.out, hna] <;> rfl, rfl⟩
      · have HV : Hid (nul (some ⟨5, s, a, b⟩) = (nul a && nul b)) := by show nul _ = _; rw [nul]; rfl
        clear h1
        go_enter Try.func49, Try.ntmps49
        go_wp2_with fail
        refine (IA.out ha pa w TA.out).mono ?_
        rintro e w1 ⟨rfl, rfl⟩
        cases hna : nul a
        · go_wp2
          go_ret
          exact ⟨by rw [HV.out, hna] <;> rfl, rfl⟩
        · go_wp2_with fail
          refine (IB.out hb pb _ TB.out).mono ?_
          rintro e w1 ⟨rfl, rfl⟩
          go_wp2
          go_ret
          exact ⟨by rw [HV.out, hna] <;> rfl, rfl⟩
theorem IntsB.low {B V : Nat} {w w' : World} {sa : Option Addr} {s : List Int} (h : IntsB B w sa s) (hb : Below V w w') (hB : B ≤ V) : IntsB B w' sa s := by
  refine ⟨fun j hj => ?_, h.2⟩
  obtain ⟨b, off, rfl, h2, h3⟩ := h.1 j hj
  obtain ⟨b', off', he, hlt⟩ := h.2 j hj
  cases he
  have hbl := hb.block b (by omega)
  exact ⟨b, off, rfl, Nat.lt_of_lt_of_le h2 hb.size, by simpa [World.cell?, hbl] using h3⟩
/-- A tree stays where all that lies below stays. -/
theorem TreeAt.low {B U V : Nat} {w w' : World} (hb : Below V w w') (hU : U ≤ V) (hB : B ≤ V) : ∀ (t : Option Tr) (p : Option Addr), TreeAt B U w t p → TreeAt B U w' t p
  | none, p, h => by rw [TreeAt] at h ⊢; exact h
  | some ⟨op, s, a, b⟩, p, h => by
    rw [TreeAt] at h ⊢
    obtain ⟨x, sa, sc, pa, pb, h1, h2, h3, h4, h5, h6, h7⟩ := h
    exact ⟨x, sa, sc, pa, pb, h1, h2, h3, (hb.block x (by omega)).trans h4, h5.low hb hB, TreeAt.low hb hU hB a pa h6, TreeAt.low hb hU hB b pb h7⟩
theorem al_T (w : World) (o : Obj) : Below w.heap.size w (w.alloc o) := (Below.refl _ _).alloc (Nat.le_refl _) o
set_option maxRecDepth 100000 in
set_option maxHeartbeats 2000000 in
theorem irev_any (B U : Nat) : ∀ (t : Option Tr) (p : Option Addr) (w : World), TreeAt B U w t p → Calls Try.prog 60 #[.pointer p] w fun e w' => ∃ r, e = .returned (.pointer r) ∧ TreeAt B w'.heap.size w' (revT t) r ∧ Below w.heap.size w w'
  | none, p, w, ht => by
    obtain rfl := ht.none_ptr
    clear ht
    go_enter Try.func60, Try.ntmps60
    go_wp2
    go_ret
    exact ⟨none, rfl, by rw [revT_none, TreeAt], Below.refl _ _⟩
  | some ⟨op, s, a, b⟩, p, w, ht => by
    have IA : Hid (∀ (p : Option Addr) (w : World), TreeAt B U w a p → Calls Try.prog 60 #[.pointer p] w fun e w' => ∃ r, e = .returned (.pointer r) ∧ TreeAt B w'.heap.size w' (revT a) r ∧ Below w.heap.size w w') := irev_any B U a
    have IB : Hid (∀ (p : Option Addr) (w : World), TreeAt B U w b p → Calls Try.prog 60 #[.pointer p] w fun e w' => ∃ r, e = .returned (.pointer r) ∧ TreeAt B w'.heap.size w' (revT b) r ∧ Below w.heap.size w w') := irev_any B U b
    obtain ⟨x, sa, sc, pa, pb, rfl, hBx, -, hx, hs, ta, tb⟩ := ht.node
    have hxl := lt_of_heap hx
    have HX : Hid _ := hx
    have TA : Hid _ := ta
    have TB : Hid _ := tb
    have SB : Hid _ := hs
    have HA : Hid (∀ w' : World, Below w.heap.size w w' → Calls Try.prog 60 #[.pointer pa] w' fun e w'' => ∃ r, e = .returned (.pointer r) ∧ TreeAt B w''.heap.size w'' (revT a) r ∧ Below w'.heap.size w' w'') := fun w' hb => IA.out pa w' (TA.out.keepB hb)
    have HB : Hid (∀ w' : World, Below w.heap.size w w' → Calls Try.prog 60 #[.pointer pb] w' fun e w'' => ∃ r, e = .returned (.pointer r) ∧ TreeAt B w''.heap.size w'' (revT b) r ∧ Below w'.heap.size w' w'') := fun w' hb => IB.out pb w' (TB.out.keepB hb)
    have BD : Hid (Below w.heap.size w w.drew) := (Below.refl _ _).drew
    clear ht hx ta tb hs IA IB
    go_enter Try.func60, Try.ntmps60
    go_wp2
    go_region_held (fun w' => (w'.cell? ⟨x, 0, none⟩ = some (.int .i64 op) ∧ w'.cell? ⟨x, 1, none⟩ = some (.slice sa s.length sc) ∧ w'.cell? ⟨x, 2, none⟩ = some (.pointer pa) ∧ w'.cell? ⟨x, 3, none⟩ = some (.pointer pb))) (first | exact node_cells ((BD.out.block x hxl).trans HX.out) | exact node_cells ((BWA.out.block x hxl).trans HX.out) | exact node_cells ((BWB.out.block x hxl).trans HX.out)) (first
      | (go_at_call 60; (with_reducible refine Calls.mono (HA.out _ (by first | exact BD.out | exact BWB.out)) ?_); rintro e wa ⟨ra, rfl, ta5, ba5⟩; have BWA : Hid (Below w.heap.size w wa) := (by first | exact BD.out.trans (ba5.mono BD.out.size) | exact BWB.out.trans (ba5.mono BWB.out.size)); have TA5 : Hid _ := ta5; have BA5 : Hid _ := ba5; clear ta5 ba5)
      | (go_at_call 60; (with_reducible refine Calls.mono (HB.out _ (by first | exact BD.out | exact BWA.out)) ?_); rintro e wb ⟨rb, rfl, tb5, bb5⟩; have BWB : Hid (Below w.heap.size w wb) := (by first | exact BD.out.trans (bb5.mono BD.out.size) | exact BWA.out.trans (bb5.mono BWA.out.size)); have TB5 : Hid _ := tb5; have BB5 : Hid _ := bb5; clear tb5 bb5))
    all_goals
      first
      | (have z : TreeAt B wb.heap.size wb (revT a) ra ∧ TreeAt B wb.heap.size wb (revT b) rb ∧ Below w.heap.size w wb := ⟨(TA5.out.keepB BB5.out).top, TB5.out, BWB.out⟩
         clear TA5 TB5 BA5 BB5 BWA BWB
         revert z
         generalize wb = w6
         intro z)
      | (have z : TreeAt B wa.heap.size wa (revT a) ra ∧ TreeAt B wa.heap.size wa (revT b) rb ∧ Below w.heap.size w wa := ⟨TA5.out, (TB5.out.keepB BA5.out).top, BWA.out⟩
         clear TA5 TB5 BA5 BB5 BWA BWB
         revert z
         generalize wa = w6
         intro z)
      obtain ⟨z1, z2, z3⟩ := z
      have Z1 : Hid _ := z1
      have Z2 : Hid _ := z2
      have Z3 : Hid _ := z3
      have hx6 := (z3.block x hxl).trans HX.out
      have hs6 := z3.size
      have HX6 : Hid _ := hx6
      have D6 : Hid (Below w6.heap.size w6 w6.drew) := (Below.refl _ _).drew
      obtain ⟨c0, c1, c2, c3⟩ := node_cells hx6
      have hxl6 := lt_of_heap hx6
      clear z1 z2 z3 hx6
      by_cases h3 : op = 3
      · have HT : Hid _ := revT_cat h3 s a b
        subst h3
        have FIN : Hid (∀ (W : World), W.heap[w6.heap.size]? = some (.cells #[.int .i64 3, .slice sa s.length sc, .pointer rb, .pointer ra] 94) → Below w6.heap.size w6 W → TreeAt B W.heap.size W (revT (some ⟨3, s, a, b⟩)) (some ⟨w6.heap.size, 0, none⟩) ∧ Below w.heap.size w W) := fun W hW bW => by
          refine ⟨?_, Z3.out.trans (bW.mono hs6)⟩
          rw [HT.out]
          exact TreeAt.mk' (by omega) (lt_of_heap hW) hW (IntsB.grown SB.out (grown_of_belowT (Z3.out.trans (bW.mono hs6)) none) (fun g e => by cases e)) (Z2.out.keepB bW).top (Z1.out.keepB bW).top
        go_wp2
        go_region_held (fun w' => (w'.cell? ⟨x, 0, none⟩ = some (.int .i64 3) ∧ w'.cell? ⟨x, 1, none⟩ = some (.slice sa s.length sc))) (first | exact ⟨cell_of ((D6.out.block x hxl6).trans HX6.out) 0, cell_of ((D6.out.block x hxl6).trans HX6.out) 1⟩ | exact ⟨cell_of ((heap_prev _ _ _ (by simpa using hxl6)).trans ((D6.out.block x hxl6).trans HX6.out)) 0, cell_of ((heap_prev _ _ _ (by simpa using hxl6)).trans ((D6.out.block x hxl6).trans HX6.out)) 1⟩) (fail)
        go_wp2
        go_ret
        have f := FIN.out (World.alloc w6 _).drew (heap_last2 _ _ _ rfl) (al_T _ _).drew
        exact ⟨_, rfl, f.1, f.2⟩
      · have HT : Hid _ := revT_else h3 s a b
        have FIN : Hid (∀ (W : World), W.heap[w6.heap.size]? = some (.cells #[.int .i64 op, .slice sa s.length sc, .pointer ra, .pointer rb] 94) → Below w6.heap.size w6 W → TreeAt B W.heap.size W (revT (some ⟨op, s, a, b⟩)) (some ⟨w6.heap.size, 0, none⟩) ∧ Below w.heap.size w W) := fun W hW bW => by
          refine ⟨?_, Z3.out.trans (bW.mono hs6)⟩
          rw [HT.out]
          exact TreeAt.mk' (by omega) (lt_of_heap hW) hW (IntsB.grown SB.out (grown_of_belowT (Z3.out.trans (bW.mono hs6)) none) (fun g e => by cases e)) (Z1.out.keepB bW).top (Z2.out.keepB bW).top
        go_wp2
        go_region_held (fun w' => (w'.cell? ⟨x, 0, none⟩ = some (.int .i64 op) ∧ w'.cell? ⟨x, 1, none⟩ = some (.slice sa s.length sc))) (first | exact ⟨cell_of ((D6.out.block x hxl6).trans HX6.out) 0, cell_of ((D6.out.block x hxl6).trans HX6.out) 1⟩ | exact ⟨cell_of ((heap_prev _ _ _ (by simpa using hxl6)).trans ((D6.out.block x hxl6).trans HX6.out)) 0, cell_of ((heap_prev _ _ _ (by simpa using hxl6)).trans ((D6.out.block x hxl6).trans HX6.out)) 1⟩) (fail)
        go_wp2
        go_ret
        have f := FIN.out (World.alloc w6 _).drew (heap_last2 _ _ _ rfl) (al_T _ _).drew
        exact ⟨_, rfl, f.1, f.2⟩
end Go.Proofs.Ytkbijnojmfplpaa
namespace Go.Proofs.Ytkbijnojmfplpaa
open Go.ChangeShapes Go.WideShapes Go.ChangeAt Go.RowKit
theorem infoPtr : ∃ i, Try.prog.info? 62 = some i ∧ i.zero = some (.pointer none) ∧ i.size = 1 ∧ i.bytes = 8 := by
  have h : (Try.prog.info? 62).map (fun i => (i.zero, i.size, i.bytes)) = some (some (.pointer none), 1, 8) := by kernel_rfl
  cases hi : Try.prog.info? 62 with
  | none => rw [hi] at h; cases h
  | some i =>
    rw [hi] at h
    simp only [Option.map_some, Option.some.injEq, Prod.mk.injEq] at h
    exact ⟨i, rfl, h.1, h.2.1, h.2.2⟩
theorem run_append_ptr (w : World) (base : Nat) (ty : TypeId) (v : Value) (n : Nat) (xs : List Value) (hown : w.ownsRow base 62 1 v n xs) (B cap : Nat) (x : Addr) (hc : w.cell? ⟨B, 0, none⟩ = some (.pointer (some x))) (hlen : n ≤ 100000) (hbase : base ≤ w.heap.size) :
    ∃ v' w', (Builtin.append_ #[91, 91] ty #[v, .slice (some ⟨B, 0, none⟩) 1 cap]).run Try.prog w = .ok v' w' ∧ w'.ownsRow base 62 1 v' (n + 1) (xs ++ [.pointer (some x)]) ∧ w.grownBy w' v.ownBlock ∧ (v'.ownBlock = v.ownBlock ∨ v'.ownBlock = some w.heap.size) := by
  obtain ⟨i0, hi, hz0, hz1, hz2⟩ := infoPtr
  obtain ⟨v', w', h1', h2', h3', -, h5'⟩ := run_append_own_at (P := Try.prog) w base 91 ty 62 i0 (.pointer none) 1 8 Try.underlying91 hi hz0 hz1 hz2 rfl (by decide) v n xs hown ⟨B, 0, none⟩ 1 cap [.pointer (some x)] rfl (fun j u hj => by
    rcases j with _ | j
    · simp at hj; subst hj; simpa [Addr.add] using hc
    · simp at hj) (fun u hu => by simp at hu; subst hu; rfl) (by unfold maxLen; omega) (by omega) hbase
  exact ⟨v', w', h1', h2', h3', h5'⟩
theorem wpP (w : World) {ops : Array Oper} {rest : List Oper} {o : Oper} {a : Act} {Q : Exit → Act → World → Prop} (hgd : o.guard = none) (s x : Operand)
    (ho : o.op = .call { callee := .builtin .append, args := #[s, x], argTypes := #[91, 91] })
    (base : Nat) (v : Value) (n : Nat) (xs : List Value) (hs : a.eval s = v) (hown : w.ownsRow base 62 1 v n xs)
    (B cap : Nat) (y : Addr) (hx : a.eval x = .slice (some ⟨B, 0, none⟩) 1 cap) (hc : w.cell? ⟨B, 0, none⟩ = some (.pointer (some y)))
    (hlen : n ≤ 100000) (hbase : base ≤ w.heap.size)
    (h : ∀ v' w', w'.ownsRow base 62 1 v' (n + 1) (xs ++ [.pointer (some y)]) → w.grownBy w' v.ownBlock → (v'.ownBlock = v.ownBlock ∨ v'.ownBlock = some w.heap.size) → wpList Try.prog ops Q rest (a.put o.dst v') w') :
    wpList Try.prog ops Q (o :: rest) a w := by
  refine wpList_plain hgd fun K hK => ?_
  obtain ⟨v', w', hr, h2, h3, h5⟩ := run_append_ptr w base o.type v n xs hown B cap y hc hlen hbase
  unfold Oper.wp execOp
  simp only [ho, resolve, invoke, builtin, Sem.run_bind, Sem.run_pure, Result.andThen_ok, List.map_toArray, List.map_cons, List.map_nil, hs, hx, hr]
  exact hK _ _ (h v' w' h2 h3 h5)
theorem pileT_new (w : World) : PileT (w.alloc (.cells #[.slice none 0 0] 91)) w.heap.size (w.heap.size + 1) [] :=
  ⟨⟨none, 0, [], rfl, by simp, World.ownsRow_nil _ _ _ _, (fun j t hj => by simp at hj), (fun g hg => by simp [Value.ownBlock] at hg)⟩, by simp, Nat.lt_succ_self _, by simp⟩
/-- What treeOf answers. -/
def TreeE (P : List Nd) (w w' : World) (e : Ending) : Prop :=
  (goodP P = true ∧ ∃ t x, pileT P P.length = some [t] ∧ e = .returned (.tuple #[.pointer (some ⟨x, 0, none⟩), .bool true]) ∧ TreeAt w.heap.size w'.heap.size w' (some t) (some ⟨x, 0, none⟩) ∧ Below w.heap.size w w') ∨
  (goodP P = false ∧ ∃ p, e = .returned (.tuple #[p, .bool false]) ∧ Below w.heap.size w w')
/-- The argument's sets lie below. -/
theorem ints_below {B : Nat} {w w' : World} {sa : Option Addr} {s : List Int} (h : IntsAt w sa s) (hB : w.heap.size = B) (hb : Below B w w') : IntsB B w' sa s := by
  subst hB
  refine ⟨IntsAt.keepB h hb, fun j hj => ?_⟩
  obtain ⟨b, off, h1, h2, -⟩ := h j hj
  exact ⟨b, off, h1, h2⟩
set_option maxRecDepth 100000 in
set_option maxHeartbeats 4000000 in
theorem treeT_any (P : List Nd) (ao : Option Addr) (cap : Nat) (w : World) (hl : szP P ≤ 1048576) (hA : ResAt w ao P) :
    Calls Try.prog 45 #[.slice ao P.length cap] w fun e w' => TreeE P w w' e := by
  have HA : Hid _ := hA
  have HL : Hid _ := hl
  clear hA hl
  by_cases h40 : P.length ≤ 40
  · have h40I : ¬ (40 : Int) < (P.length : Int) := by omega
    have HGO : Hid (goodP P = oneP P) := by show goodP P = oneP P; simp [goodP, h40]
    go_enter Try.func45, Try.ntmps45
    go_wp2
    go_loopw [14] (fun i wr => ∃ (k : Nat) (ts : List Tr) (U : Nat), k ≤ P.length ∧ i = .int .i64 k ∧ pileT P k = some ts ∧ PileT wr w.heap.size U ts ∧ Below w.heap.size w wr) (fun i _ => P.length - (intOf i).toNat)
    case atStart => exact ⟨0, [], _, Nat.zero_le _, rfl, rfl, pileT_new w, (Below.refl _ _).alloc (Nat.le_refl _) _⟩
    case round =>
      obtain ⟨k, ts, U, hk, rfl, hp, hpl, hbw⟩ := hrel
      have HP : Hid _ := hp
      have HPL : Hid _ := hpl
      have hmk := pileT_bd hp
      have hm40 : ts.length ≤ 40 := by omega
      have BW0 : Hid _ := hbw
      have hwr : w.heap.size < wr.heap.size := Nat.lt_of_lt_of_le hpl.lt hpl.le
      clear hp hpl hbw
      by_cases hlt : k < P.length
      · have hltI : (k : Int) < (P.length : Int) := by omega
        obtain ⟨b1, o1, sa, sc, rfl, l1, h0, h1, iS⟩ := HA.out k hlt
        have hls : (nd P k).2.length ≤ 1048576 := Nat.le_trans (nd_len P k hlt) HL.out
        have g0 : wr.cell? ⟨b1, o1 + k * 2, none⟩ = some (.int .i64 (nd P k).1) := (BW0.out.cell (p := ⟨b1, o1 + k * 2, none⟩) l1).trans h0
        have g1 : wr.cell? ⟨b1, o1 + k * 2 + 1, none⟩ = some (.slice sa (nd P k).2.length sc) := (BW0.out.cell (p := ⟨b1, o1 + k * 2 + 1, none⟩) l1).trans h1
        have AL : ∀ o, Below wr.heap.size wr (wr.alloc o) := fun o => (Below.refl _ _).alloc (Nat.le_refl _) o
        have IS : Hid (∀ o, IntsB w.heap.size (wr.alloc o) sa (nd P k).2) := fun o => ints_below iS rfl (BW0.out.trans ((AL o).mono BW0.out.size))
        clear h0 h1 iS
        go_wp2_with fail
        refine (nodeT_any (nd P k) sa sc w.heap.size U ts _ (by omega) hls (IS.out _) (HPL.out.below (AL _))).mono ?_
        rintro e w2 hE
        rcases hE with ⟨t, r, hst, y, U', rfl, p2, tt, g2⟩ | ⟨hno, p, rfl, g2⟩
        · have HS : Hid _ := pileT_yes HP.out hst
          have hr40 : (t :: r).length ≤ k + 1 := pileT_bd HS.out
          have hr40' : r.length ≤ 40 := by simp at hr40; omega
          have P2 : Hid _ := p2
          have T2 : Hid _ := tt
          have B2 : Hid (Below w.heap.size w w2) := Below.grown (BW0.out.trans ((AL _).mono BW0.out.size)) g2 (by simp; omega) (fun g e => by have := Option.some.inj e; omega)
          obtain ⟨a, c, xs, hxl, c0, own, hps, hU⟩ := p2.ex
          obtain ⟨n', hn'⟩ : ∃ n', n' = r.length := ⟨_, rfl⟩
          rw [← hn'] at hxl c0 own hU
          have hn40 : n' ≤ 40 := by omega
          have fz := p2.fz
          have OW : Hid _ := own
          have HPS : Hid _ := hps
          have HXL : Hid _ := hxl
          have HN' : Hid _ := hn'
          have hw2 : w.heap.size < w2.heap.size := Nat.lt_of_lt_of_le p2.lt p2.le
          have hne2 : ¬ w.heap.size = w2.heap.size := by omega
          clear g2 p2 tt own hps hU g0 g1 hst hr40 hr40' hxl hn'
          have A2 : ∀ o, Below w2.heap.size w2 (w2.alloc o) := fun o => (Below.refl _ _).alloc (Nat.le_refl _) o
          go_wp2_with (at_builtin; refine wpP _ rfl _ _ rfl (w.heap.size + 1) _ n' (xs.reverse.map ptrV) rfl (World.ownsRow.keepB OW.out (A2 _)) w2.heap.size 1 ⟨y, 0, none⟩ rfl (by simp) ?c1 ?c2 ?_)
          case c1 => omega
          case c2 => simp; omega
          intro v5 w5 hown5 hgrow hob
          have HOW : Hid _ := hown5
          have hs5 : w2.heap.size + 1 ≤ w5.heap.size := Nat.le_trans (by simp) hgrow.size
          have hnr : (Value.slice a n' c).ownBlock ≠ some w.heap.size := by
            rcases own_ne OW.out (Nat.lt_succ_self _) with h | h
            · rw [h]; exact fun h => by cases h
            · exact h
          have blk : w5.heap[w.heap.size]? = (w2.alloc (.cells #[.pointer (some ⟨y, 0, none⟩)] 62)).heap[w.heap.size]? := hgrow.block _ (by simp; omega) (fun e => hnr e.symm)
          have c5 : w5.cell? ⟨w.heap.size, 0, none⟩ = some (.slice a n' c) := (World.cell?_of_block (a := ⟨w.heap.size, 0, none⟩) blk).trans (((A2 _).cell (p := ⟨w.heap.size, 0, none⟩) hw2).trans c0)
          have f5 : w5.frozen? ⟨w.heap.size, 0, none⟩ = false := (World.frozen?_of_block (a := ⟨w.heap.size, 0, none⟩) blk).trans ((World.frozen?_of_block (a := ⟨w.heap.size, 0, none⟩) ((A2 _).block _ hw2)).trans fz)
          have B5 : Hid (Below w.heap.size w w5) := Below.grown (B2.out.trans ((A2 _).mono B2.out.size)) hgrow (by simp; omega) (fun g e => by have := (World.ownsRow.lt OW.out g e).1; omega)
          have HRW : Hid (∀ g, (Value.slice a n' c).ownBlock = some g → g = w.heap.size ∨ (w.heap.size < g ∧ (w2.heap.size ≤ g ∨ ∀ cs, (w2.alloc (.cells #[.pointer (some ⟨y, 0, none⟩)] 62)).heap[g]? ≠ some (.cells cs 94)))) := fun g hg => by
            have h1 := (World.ownsRow.lt OW.out g hg).1
            refine .inr ⟨by omega, .inr fun cs hcs => ?_⟩
            rcases OW.out.2 with ⟨e, -⟩ | ⟨g', cap', cur, e, -, e3, -⟩
            · rw [e] at hg; simp [Value.ownBlock] at hg
            · rw [e] at hg
              simp only [Value.ownBlock, Option.some.injEq] at hg
              subst hg
              rw [heap_prev _ _ _ (lt_of_heap e3), e3] at hcs
              cases hcs
          have TK : Hid (∀ (t : Tr) (x : Nat) (V : Nat), V ≤ w2.heap.size → TreeAt w.heap.size V w2 (some t) (some ⟨x, 0, none⟩) → TreeAt w.heap.size w5.heap.size w5 (some t) (some ⟨x, 0, none⟩)) := fun t x V hV h => by
            have h1 := TreeAt.mono hV _ _ h
            have h2 := TreeAt.keepB h1 (A2 (.cells #[.pointer (some ⟨y, 0, none⟩)] 62))
            exact (TreeAt.grown hgrow HRW.out _ _ h2).top
          obtain ⟨a5, q5, hv5⟩ : ∃ a5 q5, v5 = .slice a5 (n' + 1) q5 := by
            rcases hown5.2 with ⟨-, h⟩ | ⟨g, cap, cur, h, _⟩
            · omega
            · exact ⟨_, _, h⟩
          subst hv5
          have PLE : Hid (U' ≤ w2.heap.size) := P2.out.le
          clear hgrow hob hown5 blk
          go_wp2
          go_roundw
          case rel =>
            have e1 : (t :: r).length = n' + 1 := by rw [HN'.out]; rfl
            have hrow : (y :: xs).reverse.map ptrV = (xs.map ptrV).reverse ++ [.pointer (some ⟨y, 0, none⟩)] := by simp [ptrV]
            have SB : World.grownBy w5 (w5.setCell ⟨w.heap.size, 0, none⟩ (.slice a5 (n' + 1) q5)) (some w.heap.size) := grown_set _ _ _ _
            refine ⟨k + 1, t :: r, w5.heap.size, by omega, by go_num, HS.out, ⟨⟨a5, q5, y :: xs, by simp [HXL.out, e1], by rw [e1]; exact set_same _ _ _ _ _ c5, by rw [e1, hrow]; exact own_set HOW.out (Nat.lt_succ_self _) _ _, fun j u hj => ?_, fun g hg => (World.ownsRow.lt HOW.out g (by rw [e1] at hg; exact hg)).2⟩, by rw [World.frozen?_setCell]; exact f5, by omega, by simp [World.setCell]⟩, Below.grown B5.out (grown_set _ _ _ _) B5.out.size (fun g e => by have := Option.some.inj e; omega)⟩
            rcases j with _ | j
            · simp only [List.getElem?_cons_zero, Option.some.injEq] at hj
              subst hj
              exact ⟨y, rfl, TreeAt.grown SB (fun g e => .inl (Option.some.inj e).symm) _ _ (TK.out _ _ _ (Nat.le_refl _) T2.out)⟩
            · obtain ⟨x, hx, ht⟩ := HPS.out j u (by simpa using hj)
              exact ⟨x, by simpa using hx, TreeAt.grown SB (fun g e => .inl (Option.some.inj e).symm) _ _ (TK.out _ _ _ PLE.out ht)⟩
          case measure => simp [intOf]; omega
        · have HF : Hid (goodP P = false) := by
            show goodP P = false
            rw [HGO.out]
            cases h : oneP P with
            | false => rfl
            | true =>
              obtain ⟨t, ht⟩ := (oneP_tree P).1 h
              rw [pileT_no hlt HP.out hno] at ht
              cases ht
          have B2 : Hid (Below w.heap.size w w2) := Below.grown (BW0.out.trans ((AL _).mono BW0.out.size)) g2 (by simp; omega) (fun g e => by have := Option.some.inj e; omega)
          clear g2 g0 g1 hno
          go_wp2
          go_ret2
          exact .inr ⟨HF.out, _, rfl, B2.out⟩
      · obtain rfl : k = P.length := by omega
        obtain ⟨a, c, xs, hxl, c0, own, hps, hU⟩ := HPL.out.ex
        by_cases h1 : ∃ t, ts = [t]
        · obtain ⟨t, rfl⟩ := h1
          have HF : Hid (goodP P = true) := by show goodP P = true; rw [HGO.out]; exact (oneP_tree P).2 ⟨t, HP.out⟩
          rcases xs with _ | ⟨x, _ | ⟨x', xs⟩⟩
          · simp at hxl
          · obtain ⟨x1, hx1, ht⟩ := hps 0 t rfl
            simp only [List.getElem?_cons_zero, Option.some.injEq] at hx1
            subst hx1
            have TT : Hid _ := ht.top
            simp only [List.length_singleton] at c0 own
            rcases own.2 with ⟨-, h⟩ | ⟨g, cap', cur, h, h3⟩
            · omega
            simp only [Value.slice.injEq] at h
            obtain ⟨rfl, -, rfl⟩ := h
            have hcell := own.cellAt 0 (by omega)
            simp only [List.reverse_singleton, List.map_cons, List.map_nil, List.getElem?_cons_zero, ptrV] at hcell
            clear own hps hU h3 hxl ht
            go_wp2
            go_ret2
            exact .inl ⟨HF.out, t, _, HP.out, rfl, TT.out, BW0.out⟩
          · simp at hxl
        · have hl1 : ts.length ≠ 1 := fun e => h1 (by
            rcases ts with _ | ⟨t, _ | ⟨u, r⟩⟩
            · simp at e
            · exact ⟨t, rfl⟩
            · simp at e)
          have HF : Hid (goodP P = false) := by
            show goodP P = false
            rw [HGO.out]
            cases h : oneP P with
            | false => rfl
            | true =>
              obtain ⟨t, ht⟩ := (oneP_tree P).1 h
              rw [HP.out] at ht
              exact absurd ⟨t, Option.some.inj ht⟩ h1
          have h1I : ¬ (ts.length : Int) = 1 := by omega
          clear own hps hU
          go_wp2
          go_ret2
          exact .inr ⟨HF.out, _, rfl, BW0.out⟩
  · have h40I : (40 : Int) < (P.length : Int) := by omega
    have HF : Hid (goodP P = false) := by show goodP P = false; simp [goodP, h40]
    go_enter Try.func45, Try.ntmps45
    go_wp2
    go_ret2
    exact .inr ⟨HF.out, _, rfl, Below.refl _ _⟩
end Go.Proofs.Ytkbijnojmfplpaa
namespace Go.Proofs.Ytkbijnojmfplpaa
open Go.ChangeShapes Go.WideShapes Go.ChangeAt Go.WideMaps Go.WideElems Go.RowKit
/-- An append of ints in a region that draws its order. -/
theorem stepI {ops : Array Oper} {o : Oper} {a : Act} {w : World} {K : Act → World → Prop} {Q : Exit → Act → World → Prop} {E : Prop} (hg : o.guard = none) (s x : Operand)
    (hop : o.op = .call { callee := .builtin .append, args := #[s, x], argTypes := #[23, 23] })
    (base : Nat) (v : Value) (n : Nat) (xs : List Value) (hs : a.eval s = v) (hown : w.ownsRow base 3 1 v n xs)
    (ao : Option Addr) (L : List Int) (m cap : Nat) (hx : a.eval x = .slice ao m cap) (hm : m = L.length) (hA : IntsAt w ao L) (hlen : n + m ≤ 4000000) (hbase : base ≤ w.heap.size)
    (h : ∀ v' w', w'.ownsRow base 3 1 v' (n + m) (xs ++ ints L) → w.grownBy w' v.ownBlock → K (a.put o.dst v') w') :
    if Region.wanted o (yielded ops a.tmps) = true then Oper.wp Try.prog o a w K Q else E := by
  have hw : Region.wanted o (yielded ops a.tmps) = true := by simp [Region.wanted, hg]
  rw [if_pos hw]
  obtain ⟨v', w', hr, h2, h3, _⟩ := run_append_ints w base o.type v n xs hown ao L m cap hm hA hlen hbase
  unfold Oper.wp execOp
  simp only [hop, resolve, invoke, builtin, Sem.run_bind, Sem.run_pure, Result.andThen_ok, List.map_toArray, List.map_cons, List.map_nil, hs, hx, hr]
  exact h v' w' h2 h3
/-- One node more behind a row of nodes, in such a region. -/
theorem stepR {ops : Array Oper} {o : Oper} {a : Act} {K : Act → World → Prop} {Q' : Exit → Act → World → Prop} {E : Prop} (w : World) (hg : o.guard = none) (s x : Operand)
    (hop : o.op = .call { callee := .builtin .append, args := #[s, x], argTypes := #[27, 27] })
    (base : Nat) (v : Value) (n : Nat) (Q : List (Int × Value)) (hs : a.eval s = v) (hown : w.ownsRow base 60 2 v n (fl2 Q)) (B cap : Nat) (op : Int) (sa : Option Addr) (sn sc : Nat) (hx : a.eval x = .slice (some ⟨B, 0, none⟩) 1 cap) (hc0 : w.cell? ⟨B, 0, none⟩ = some (.int .i64 op)) (hc1 : w.cell? ⟨B, 1, none⟩ = some (.slice sa sn sc)) (hlen : n ≤ 100000) (hbase : base ≤ w.heap.size)
    (h : ∀ v' w', w'.ownsRow base 60 2 v' (n + 1) (fl2 (Q ++ [(op, .slice sa sn sc)])) → w.grownBy w' v.ownBlock → K (a.put o.dst v') w') :
    if Region.wanted o (yielded ops a.tmps) = true then Oper.wp Try.prog o a w K Q' else E := by
  have hw : Region.wanted o (yielded ops a.tmps) = true := by simp [Region.wanted, hg]
  rw [if_pos hw]
  obtain ⟨v', w', hr, h2, h3⟩ := run_append_re w base o.type v n Q hown B cap op sa sn sc hc0 hc1 hlen hbase
  unfold Oper.wp execOp
  simp only [hop, resolve, invoke, builtin, Sem.run_bind, Sem.run_pure, Result.andThen_ok, List.map_toArray, List.map_cons, List.map_nil, hs, hx, hr]
  exact h v' w' h2 h3
theorem cell2_new (w : World) (op : Int) (sv : Value) (T : TypeId) : (w.alloc (.cells #[.int .i64 op, sv] T)).cell? ⟨w.heap.size, 0, none⟩ = some (.int .i64 op) ∧ (w.alloc (.cells #[.int .i64 op, sv] T)).cell? ⟨w.heap.size, 1, none⟩ = some sv := ⟨cell_of (heap_last2 _ _ _ rfl) 0, cell_of (heap_last2 _ _ _ rfl) 1⟩
theorem own_ne_lt {w : World} {base : Nat} {e : TypeId} {size : Nat} {v : Value} {n : Nat} {xs : List Value} (h : w.ownsRow base e size v n xs) {x : Nat} (hx : x < base) : some x ≠ v.ownBlock := fun e' => by
  have := (World.ownsRow.lt h x e'.symm).1
  omega
set_option maxRecDepth 100000 in
set_option maxHeartbeats 4000000 in
theorem inodes_any (B U base : Nat) (hB : B ≤ base) (hU : U ≤ base) : ∀ (t : Option Tr) (p : Option Addr) (w : World) (v : Value) (P : List Nd), TreeAt B U w t p → base ≤ w.heap.size → OwnF w base v P.length (nd P) → (P ++ post t).length ≤ 10000 → (∀ y ∈ post t, y.2.length ≤ 1048576) →
    Calls Try.prog 93 #[.pointer p, v] w fun e w' => ∃ v', e = .returned v' ∧ OwnF w' base v' (P ++ post t).length (nd (P ++ post t)) ∧ Below base w w'
  | none, p, w, v, P, ht, _, ho, _, _ => by
    obtain rfl := ht.none_ptr
    have HO : Hid (OwnF w base v P.length (nd P)) := ho
    clear ht ho
    go_enter Try.func93, Try.ntmps93
    go_wp2
    go_ret
    exact ⟨_, rfl, by rw [post_none, List.append_nil]; exact HO.out, Below.refl _ _⟩
  | some ⟨op, s, a, b⟩, p, w, v, P, ht, hbw, ho, hlen, hset => by
    have IA : Hid (∀ (p : Option Addr) (w : World) (v : Value) (P : List Nd), TreeAt B U w a p → base ≤ w.heap.size → OwnF w base v P.length (nd P) → (P ++ post a).length ≤ 10000 → (∀ y ∈ post a, y.2.length ≤ 1048576) → Calls Try.prog 93 #[.pointer p, v] w fun e w' => ∃ v', e = .returned v' ∧ OwnF w' base v' (P ++ post a).length (nd (P ++ post a)) ∧ Below base w w') := inodes_any B U base hB hU a
    have IB : Hid (∀ (p : Option Addr) (w : World) (v : Value) (P : List Nd), TreeAt B U w b p → base ≤ w.heap.size → OwnF w base v P.length (nd P) → (P ++ post b).length ≤ 10000 → (∀ y ∈ post b, y.2.length ≤ 1048576) → Calls Try.prog 93 #[.pointer p, v] w fun e w' => ∃ v', e = .returned v' ∧ OwnF w' base v' (P ++ post b).length (nd (P ++ post b)) ∧ Below base w w') := inodes_any B U base hB hU b
    obtain ⟨x, sa, sc, pa, pb, rfl, -, hxU, hx, hs, ta, tb⟩ := ht.node
    rw [post_some] at hlen hset
    simp only [List.length_append, List.length_singleton] at hlen
    have hla : (P ++ post a).length ≤ 10000 := by rw [List.length_append]; omega
    have hlb : ((P ++ post a) ++ post b).length ≤ 10000 := by rw [List.length_append, List.length_append]; omega
    have hsa : ∀ y ∈ post a, y.2.length ≤ 1048576 := fun y hy => hset y (by simp [hy])
    have hsb : ∀ y ∈ post b, y.2.length ≤ 1048576 := fun y hy => hset y (by simp [hy])
    have hsl : s.length ≤ 1048576 := hset (op, s) (by simp)
    have hxb : x < base := by omega
    have HX : Hid _ := hx
    have TB : Hid _ := tb
    have SB : Hid (IntsB B w sa s) := hs
    have D0 : Hid (Below w.heap.size w w.drew) := (Below.refl _ _).drew
    have HA : Hid (Calls Try.prog 93 #[.pointer pa, v] w.drew fun e w' => ∃ v', e = .returned v' ∧ OwnF w' base v' (P ++ post a).length (nd (P ++ post a)) ∧ Below base w.drew w') := IA.out pa w.drew v P (ta.keepB D0.out) hbw (OwnF.keepB ho D0.out) hla hsa
    have HB : Hid (∀ (v' : Value) (w' : World), Below base w w' → base ≤ w'.heap.size → OwnF w' base v' (P ++ post a).length (nd (P ++ post a)) → Calls Try.prog 93 #[.pointer pb, v'] w' fun e w'' => ∃ v'', e = .returned v'' ∧ OwnF w'' base v'' ((P ++ post a) ++ post b).length (nd ((P ++ post a) ++ post b)) ∧ Below base w' w'') := fun v' w' hb hsz hO => IB.out pb w' v' (P ++ post a) (TreeAt.low hb hU hB b pb TB.out) hsz hO hlb hsb
    clear ht hx ta tb hs IA IB ho hlen hset hla hsa hsb
    go_enter Try.func93, Try.ntmps93
    go_wp2
    go_region_held (fun w' => (w'.cell? ⟨x, 2, none⟩ = some (.pointer pa) ∧ w'.cell? ⟨x, 3, none⟩ = some (.pointer pb))) (first | exact ⟨cell_of ((D0.out.block x (by omega)).trans HX.out) 2, cell_of ((D0.out.block x (by omega)).trans HX.out) 3⟩ | exact ⟨cell_of ((BWA.out.block x hxb).trans HX.out) 2, cell_of ((BWA.out.block x hxb).trans HX.out) 3⟩ | exact ⟨cell_of ((BWB.out.block x hxb).trans HX.out) 2, cell_of ((BWB.out.block x hxb).trans HX.out) 3⟩) (first
      | (go_at_call 93; (with_reducible refine Calls.mono HA.out ?_); rintro e wa ⟨va, rfl, oa, ba⟩; have OA : Hid (OwnF wa base va (P ++ post a).length (nd (P ++ post a))) := oa; have BWA : Hid (Below base w wa) := (D0.out.mono hbw).trans ba; clear oa ba)
      | (go_at_call 93; (with_reducible refine Calls.mono (HB.out _ _ BWA.out (Nat.le_trans hbw BWA.out.size) OA.out) ?_); rintro e wb ⟨vb, rfl, ob, bb⟩; have OB : Hid (OwnF wb base vb ((P ++ post a) ++ post b).length (nd ((P ++ post a) ++ post b))) := ob; have BWB : Hid (Below base w wb) := BWA.out.trans bb; clear ob bb))
    have hszb : base ≤ wb.heap.size := Nat.le_trans hbw BWB.out.size
    have NX : Hid (wb.heap[x]? = some (.cells #[.int .i64 op, .slice sa s.length sc, .pointer pa, .pointer pb] 94)) := (BWB.out.block x hxb).trans HX.out
    have SI : Hid (IntsAt wb.drew sa s) := IntsAt.keepB (IntsB.low SB.out BWB.out hB).1 (Below.refl _ _).drew
    have NI0 : Hid (wb.drew.heap[x]? = some (.cells #[.int .i64 op, .slice sa s.length sc, .pointer pa, .pointer pb] 94)) := NX.out
    obtain ⟨n, hn⟩ : ∃ n, n = ((P ++ post a) ++ post b).length := ⟨_, rfl⟩
    have hn4 : n ≤ 10000 := by omega
    have hO := OB.out
    rw [← hn] at hO
    obtain ⟨Q, hQ, hr, hs, ha⟩ := hO
    have HR : Hid (wb.ownsRow base 60 2 vb n (fl2 Q)) := hr
    have HS : Hid _ := hs
    have HAp : Hid _ := ha
    have HQ : Hid _ := hQ
    have HN : Hid _ := hn
    have hbl : Below wb.heap.size wb wb.drew := (Below.refl _ _).drew
    clear hr hs ha hQ hn OA BWA HA HB
    go_wp2
    go_region_held_law (fun w' => (w'.cell? ⟨x, 0, none⟩ = some (.int .i64 op) ∧ w'.cell? ⟨x, 1, none⟩ = some (.slice sa s.length sc))) (first | exact ⟨cell_of NI0.out 0, cell_of NI0.out 1⟩ | exact ⟨cell_of NI.out 0, cell_of NI.out 1⟩ | exact ⟨cell_of (NIA.out _) 0, cell_of (NIA.out _) 1⟩ | exact ⟨cell_of N5.out 0, cell_of N5.out 1⟩) (first
      | (refine stepI rfl (.const (.slice none 0 0)) (.tmp 27) rfl wb.heap.size (.slice none 0 0) 0 [] rfl (World.ownsRow_nil _ _ _ _) sa s s.length sc (by simp [Act.eval]) rfl SI.out (by omega) (Nat.le_refl _) ?_
         intro v3 w3 hown3 hgrow3
         have hown3' : w3.ownsRow wb.heap.size 3 1 v3 s.length (ints s) := by simpa using hown3
         have O3 : Hid (w3.ownsRow wb.heap.size 3 1 v3 s.length (ints s)) := hown3'
         have B3 : Hid (Below wb.heap.size wb w3) := Below.grown hbl hgrow3 (Nat.le_refl _) (fun g hg => by simp [Value.ownBlock] at hg)
         obtain ⟨-, a3, c3, hv3, -⟩ := ints_of_own hown3'
         subst hv3
         have NI : Hid (w3.heap[x]? = some (.cells #[.int .i64 op, .slice sa s.length sc, .pointer pa, .pointer pb] 94)) := (B3.out.block x (by omega)).trans NX.out
         have NIA : Hid (∀ o, (w3.alloc o).heap[x]? = some (.cells #[.int .i64 op, .slice sa s.length sc, .pointer pa, .pointer pb] 94)) := fun o => (heap_prev _ _ _ (lt_of_heap NI.out)).trans NI.out
         clear hown3 hown3' hgrow3)
      | (refine stepR (w3.alloc (.cells #[.int .i64 op, .slice a3 s.length c3] 60)) rfl (.tmp 19) (.tmp 30) rfl base vb n Q (by simp [Act.eval]) (World.ownsRow.keepB HR.out (B3.out.trans ((al_T _ _).mono B3.out.size))) w3.heap.size 1 op a3 s.length c3 (by simp [Act.eval]) (cell2_new _ _ _ _).1 (cell2_new _ _ _ _).2 (by omega) (Nat.le_trans (Nat.le_trans hszb B3.out.size) (al_T _ _).size) ?_
         intro v5 w5 hown5 hgrow5
         have O5 : Hid _ := hown5
         have G5 : Hid _ := hgrow5
         have N5 : Hid (w5.heap[x]? = some (.cells #[.int .i64 op, .slice sa s.length sc, .pointer pa, .pointer pb] 94)) := (hgrow5.block x (lt_of_heap (NIA.out _)) (own_ne_lt HR.out hxb)).trans (NIA.out _)
         clear hown5 hgrow5))
    all_goals
      go_wp2
      go_ret
      have e : n = _ := HN.out
      subst e
      have bA : Below wb.heap.size wb (w3.alloc (.cells #[.int .i64 op, .slice a3 s.length c3] 60)) := B3.out.trans ((al_T _ _).mono B3.out.size)
      have hL : P ++ post (some ⟨op, s, a, b⟩) = P ++ post a ++ post b ++ [(op, s)] := by rw [post_some, ← List.append_assoc, ← List.append_assoc]
      have hLn : P.length + (post (some ⟨op, s, a, b⟩)).length = (P ++ post a ++ post b ++ [(op, s)]).length := by rw [← hL, List.length_append]
      refine ⟨v5, by first | rfl | simp, ?_, ?_⟩
      · rw [hLn, hL]
        exact own_push_list Q HQ.out HR.out HS.out HAp.out bA (own_mono (World.ownsRow.keepB O3.out (al_T _ _)) hszb) (fun g hg => (World.ownsRow.lt O3.out g hg).1) O5.out G5.out
      · exact BWB.out.trans (Below.grown (bA.mono hszb) G5.out (Nat.le_trans hszb bA.size) (fun g hg => (World.ownsRow.lt HR.out g hg).1))
set_option maxRecDepth 100000 in
set_option maxHeartbeats 1000000 in
theorem ilist_any (B U : Nat) (t : Option Tr) (p : Option Addr) (w : World) (ht : TreeAt B U w t p) (hB : B ≤ w.heap.size) (hU : U ≤ w.heap.size) (hl : (post t).length ≤ 10000) (hs : ∀ y ∈ post t, y.2.length ≤ 1048576) :
    Calls Try.prog 57 #[.pointer p] w fun e w' => ∃ v', e = .returned v' ∧ OwnF w' w.heap.size v' (post t).length (nd (post t)) ∧ Below w.heap.size w w' := by
  have H : Hid (Calls Try.prog 93 #[.pointer p, .slice none 0 0] w fun e w' => ∃ v', e = .returned v' ∧ OwnF w' w.heap.size v' ([] ++ post t).length (nd ([] ++ post t)) ∧ Below w.heap.size w w') := inodes_any B U w.heap.size hB hU t p w (.slice none 0 0) [] ht (Nat.le_refl _) (own_none _ _ _) (by simpa using hl) hs
  clear ht hs
  go_enter Try.func57, Try.ntmps57
  go_wp2_with fail
  refine Calls.mono H.out ?_
  rintro e w1 ⟨v1, rfl, o1, b1⟩
  simp only [List.nil_append] at o1
  go_wp2
  go_ret
  exact ⟨_, rfl, o1, b1⟩
/-- The tree of a pattern, and what is made of it. -/
def treeP (P : List Nd) : Option Tr := match pileT P P.length with
  | some [t] => some t
  | _ => none
def ansT (f : Option Tr → Option Tr) (P : List Nd) : List Nd := if goodP P = true then post (f (treeP P)) else []
theorem ansT_yes {f : Option Tr → Option Tr} {P : List Nd} {t : Tr} (hg : goodP P = true) (ht : pileT P P.length = some [t]) : ansT f P = post (f (some t)) := by
  rw [ansT, if_pos hg, treeP, ht]
theorem ansT_no {f : Option Tr → Option Tr} {P : List Nd} (hg : goodP P = false) : ansT f P = [] := by rw [ansT, hg]; rfl
theorem revT_mem : ∀ (t : Option Tr) (y : Nd), y ∈ post (revT t) → y ∈ post t
  | none, y, h => by rw [revT_none] at h; exact h
  | some ⟨op, s, a, b⟩, y, h => by
    have h1 := revT_mem a y
    have h2 := revT_mem b y
    by_cases e : op = 3
    · rw [revT_cat e, post_some] at h
      rw [post_some]
      simp only [List.mem_append, List.mem_singleton] at h ⊢
      rcases h with (h | h) | h
      · exact .inl (.inr (h2 h))
      · exact .inl (.inl (h1 h))
      · exact .inr h
    · rw [revT_else e, post_some] at h
      rw [post_some]
      simp only [List.mem_append, List.mem_singleton] at h ⊢
      rcases h with (h | h) | h
      · exact .inl (.inl (h1 h))
      · exact .inl (.inr (h2 h))
      · exact .inr h
theorem mem_len (P : List Nd) (y : Nd) (h : y ∈ P) : y.2.length ≤ szP P := by
  have : ∀ P : List Nd, y ∈ P → y.2.length ≤ (P.map fun x => x.2.length).sum := fun P => by
    induction P with
    | nil => intro h; cases h
    | cons x r ih =>
      intro h
      rcases List.mem_cons.1 h with rfl | h
      · simp
      · have := ih h; simp; omega
  have := this P h
  unfold szP
  omega
set_option maxRecDepth 100000 in
set_option maxHeartbeats 1000000 in
theorem irevRe_any (P : List Nd) (ao : Option Addr) (cap : Nat) (w : World) (hl : szP P ≤ 1048576) (hA : ResAt w ao P) :
    Calls Try.prog 27 #[.slice ao P.length cap] w fun e w' => ∃ v, e = .returned (.tuple #[v, .bool (goodP P)]) ∧ OwnF w' w.heap.size v (ansT revT P).length (nd (ansT revT P)) ∧ Below w.heap.size w w' := by
  have HT : Hid (Calls Try.prog 45 #[.slice ao P.length cap] w fun e w' => TreeE P w w' e) := treeT_any P ao cap w hl hA
  clear hA
  go_enter Try.func27, Try.ntmps27
  go_wp2_with fail
  refine Calls.mono HT.out ?_
  rintro e w1 hE
  rcases hE with ⟨hg, t, x, hp, rfl, tt, b1⟩ | ⟨hg, p, rfl, b1⟩
  · have HG : Hid (goodP P = true) := hg
    have HP : Hid _ := hp
    obtain ⟨ok, hpost⟩ := tree_of hp
    have hlen : (post (some t)).length ≤ 40 := by
      rw [hpost]
      unfold goodP at hg
      simp only [Bool.and_eq_true, decide_eq_true_eq] at hg
      exact hg.1
    have HLEN : Hid ((post (some t)).length ≤ 40) := hlen
    have HMEM : Hid (∀ y ∈ post (revT (some t)), y.2.length ≤ 1048576) := fun y hy => by
      have := mem_len P y (by rw [← hpost]; exact revT_mem _ _ hy)
      omega
    have B1 : Hid (Below w.heap.size w w1) := b1
    have TT : Hid _ := tt
    clear hg hp ok hpost hlen b1 tt HT
    go_wp2_with fail
    refine (irev_any _ _ (some t) (some ⟨x, 0, none⟩) w1 TT.out).mono ?_
    rintro e w2 ⟨r, rfl, t2, b2⟩
    have B2 : Hid (Below w.heap.size w w2) := B1.out.trans (b2.mono B1.out.size)
    have T2 : Hid _ := t2
    clear b2 t2
    go_wp2_with fail
    refine (ilist_any _ _ _ r w2 T2.out B2.out.size (Nat.le_refl _) (by rw [revT_len]; have := HLEN.out; omega) HMEM.out).mono ?_
    rintro e w3 ⟨v3, rfl, o3, b3⟩
    have O3 : Hid _ := o3
    have B3 : Hid (Below w.heap.size w w3) := B2.out.trans (b3.mono B2.out.size)
    have hsz := B2.out.size
    clear o3 b3
    go_wp2
    go_ret2
    rw [ansT_yes HG.out HP.out, HG.out]
    exact ⟨_, rfl, OwnF.mono O3.out hsz, B3.out⟩
  · have HG : Hid (goodP P = false) := hg
    have B1 : Hid (Below w.heap.size w w1) := b1
    clear hg b1 HT
    go_wp2
    go_ret2
    rw [ansT_no HG.out, HG.out]
    exact ⟨_, rfl, own_none _ _ _, B1.out⟩
end Go.Proofs.Ytkbijnojmfplpaa
namespace Go.Proofs.Ytkbijnojmfplpaa
open Go.ChangeShapes Go.WideShapes Go.ChangeAt Go.RowKit
def a12 (A : List (Int × Int)) : List (Int × Int) := A ++ List.replicate (12 - A.length) (0, 0)
theorem a12_len {A : List (Int × Int)} (h : A.length ≤ 12) : (a12 A).length = 12 := by simp [a12]; omega
theorem a12_mem (A : List (Int × Int)) (x : Int) : Mem x (a12 A) ↔ Mem x A := by
  unfold a12
  rw [mem_append]
  constructor
  · rintro (h | h)
    · exact h
    · obtain ⟨p, hp, h1⟩ := mem_iff.1 h
      rw [(List.mem_replicate.1 hp).2] at h1
      simp only at h1
      omega
  · exact .inl
theorem a12_bd {C : List (Int × Int)} (h : CT C) : ∀ p ∈ a12 C, 0 ≤ p.1 ∧ p.1 ≤ 1114112 ∧ 0 ≤ p.2 ∧ p.2 ≤ 1114112 := fun p hp => by
  rcases List.mem_append.1 hp with hp | hp
  · exact h.bd p hp
  · rw [(List.mem_replicate.1 hp).2]; simp only; omega
theorem joinSp_yes (S C : List (Int × Int)) (ao : Option Addr) (cap : Nat) (w : World) (n : Nat) (hn : n = S.length) (hl : S.length ≤ 1048576) (hbd : ∀ p ∈ S, -4000000 ≤ p.1 ∧ p.1 ≤ 4000000 ∧ -4000000 ≤ p.2 ∧ p.2 ≤ 4000000) (h0 : ∀ p ∈ S, p.1 < p.2 → -1 < p.1) (hC : Can (-1) C) (hM : ∀ x, Mem x C ↔ Mem x S) (h12 : C.length ≤ 12) (hA : SpansAt w ao S) :
    Calls Try.prog 100 #[.slice ao n cap] w fun e w' => ∃ v, e = .returned (.tuple #[v, .bool true]) ∧ w'.ownsRow w.heap.size 3 1 v (flS C).length (ints (flS C)) ∧ Below w.heap.size w w' := by
  refine (joinSp' S C ao cap w n hn hl hbd h0 hC hM hA).mono ?_
  rintro e w' ⟨⟨_, v, he, ho⟩ | ⟨h, _⟩, hb⟩
  · exact ⟨v, he, ho, hb⟩
  · omega
theorem joinSp_no (S C : List (Int × Int)) (ao : Option Addr) (cap : Nat) (w : World) (n : Nat) (hn : n = S.length) (hl : S.length ≤ 1048576) (hbd : ∀ p ∈ S, -4000000 ≤ p.1 ∧ p.1 ≤ 4000000 ∧ -4000000 ≤ p.2 ∧ p.2 ≤ 4000000) (h0 : ∀ p ∈ S, p.1 < p.2 → -1 < p.1) (hC : Can (-1) C) (hM : ∀ x, Mem x C ↔ Mem x S) (h12 : ¬ C.length ≤ 12) (hA : SpansAt w ao S) :
    Calls Try.prog 100 #[.slice ao n cap] w fun e w' => e = .returned (.tuple #[.slice none 0 0, .bool false]) ∧ Below w.heap.size w w' := by
  refine (joinSp' S C ao cap w n hn hl hbd h0 hC hM hA).mono ?_
  rintro e w' ⟨⟨h, _⟩ | ⟨_, he⟩, hb⟩
  · omega
  · exact ⟨he, hb⟩
end Go.Proofs.Ytkbijnojmfplpaa
namespace Go.Proofs.Ytkbijnojmfplpaa
open Go.ChangeShapes Go.WideShapes Go.ChangeAt Go.RowKit
/-- The cells that a round reads. -/
def C6 (X U V : Nat) (a b : Int) (w : World) : Prop := (w.cell? ⟨X, 0, none⟩ = some (.int .i64 a) ∧ w.cell? ⟨X, 1, none⟩ = some (.int .i64 b) ∧ w.cell? ⟨U, 0, none⟩ = some (.int .i64 65) ∧ w.cell? ⟨U, 1, none⟩ = some (.int .i64 91) ∧ w.cell? ⟨V, 0, none⟩ = some (.int .i64 97) ∧ w.cell? ⟨V, 1, none⟩ = some (.int .i64 123))
theorem c6_keep {X U V : Nat} {a b : Int} {w w' : World} (h : C6 X U V a b w) (hX : X < w.heap.size) (hU : U < w.heap.size) (hV : V < w.heap.size) (hb : Below w.heap.size w w') : C6 X U V a b w' :=
  ⟨(hb.cell (p := ⟨X, 0, none⟩) hX).trans h.1, (hb.cell (p := ⟨X, 1, none⟩) hX).trans h.2.1, (hb.cell (p := ⟨U, 0, none⟩) hU).trans h.2.2.1, (hb.cell (p := ⟨U, 1, none⟩) hU).trans h.2.2.2.1, (hb.cell (p := ⟨V, 0, none⟩) hV).trans h.2.2.2.2.1, (hb.cell (p := ⟨V, 1, none⟩) hV).trans h.2.2.2.2.2⟩
theorem c6_grown {X U V : Nat} {a b : Int} {w w' : World} {row : Option Nat} (h : C6 X U V a b w) (hX : X < w.heap.size) (hU : U < w.heap.size) (hV : V < w.heap.size) (hg : w.grownBy w' row) (nX : some X ≠ row) (nU : some U ≠ row) (nV : some V ≠ row) : C6 X U V a b w' := by
  have bX := hg.block X hX nX
  have bU := hg.block U hU nU
  have bV := hg.block V hV nV
  refine ⟨?_, ?_, ?_, ?_, ?_, ?_⟩
  · rw [World.cell?_of_block (a := ⟨X, 0, none⟩) bX]; exact h.1
  · rw [World.cell?_of_block (a := ⟨X, 1, none⟩) bX]; exact h.2.1
  · rw [World.cell?_of_block (a := ⟨U, 0, none⟩) bU]; exact h.2.2.1
  · rw [World.cell?_of_block (a := ⟨U, 1, none⟩) bU]; exact h.2.2.2.1
  · rw [World.cell?_of_block (a := ⟨V, 0, none⟩) bV]; exact h.2.2.2.2.1
  · rw [World.cell?_of_block (a := ⟨V, 1, none⟩) bV]; exact h.2.2.2.2.2
/-- An append of spans in a region that draws its order. -/
theorem step_append_spans {ops : Array Oper} {o : Oper} {a : Act} {w : World} {K : Act → World → Prop} {Q : Exit → Act → World → Prop} {E : Prop} (hg : o.guard = none) (s x : Operand)
    (hop : o.op = .call { callee := .builtin .append, args := #[s, x], argTypes := #[109, 109] })
    (base : Nat) (v : Value) (A : List (Int × Int)) (hs : a.eval s = v) (hown : ownS w base v A)
    (ao : Option Addr) (S : List (Int × Int)) (m cap : Nat) (hx : a.eval x = .slice ao m cap) (hm : m = S.length) (hA : SpansAt w ao S) (hlen : A.length + m ≤ 4000000) (hbase : base ≤ w.heap.size)
    (h : ∀ v' w', ownS w' base v' (A ++ S) → w.grownBy w' v.ownBlock → K (a.put o.dst v') w') :
    if Region.wanted o (yielded ops a.tmps) = true then Oper.wp Try.prog o a w K Q else E := by
  have hw : Region.wanted o (yielded ops a.tmps) = true := by simp [Region.wanted, hg]
  rw [if_pos hw]
  obtain ⟨v', w', hr, h2, h3, _⟩ := run_append_spans w base o.type v A.length (ints (fl A)) hown ao S m cap hm hA hlen hbase
  unfold Oper.wp execOp
  simp only [hop, resolve, invoke, builtin, Sem.run_bind, Sem.run_pure, Result.andThen_ok, List.map_toArray, List.map_cons, List.map_nil, hs, hx, hr]
  refine h v' w' ?_ h3
  unfold ownS
  rw [fl_append, List.length_append, ← hm]
  simpa [ints] using h2
theorem spans_new3 (w : World) (x y z u s r : Int) (t : TypeId) (B : Nat) (hB : B = w.heap.size) : SpansAt (w.alloc (.cells #[.int .i64 x, .int .i64 y, .int .i64 z, .int .i64 u, .int .i64 s, .int .i64 r] t)) (some ⟨B, 0, none⟩) [(x, y), (z, u), (s, r)] := fun j hj => by
  subst hB
  refine ⟨w.heap.size, 0, rfl, by simp, ?_⟩
  rw [World.cell?_alloc_new, World.cell?_alloc_new]
  rcases (by simp at hj; omega : j = 0 ∨ j = 1 ∨ j = 2) with e | e | e <;> subst e <;> exact ⟨rfl, rfl⟩
theorem step_fold {ops : Array Oper} {o : Oper} {a : Act} {K : Act → World → Prop} {Q : Exit → Act → World → Prop} {E : Prop} (wn W0 W5 wo : World) (U V : Nat) (pa pb x y z u s r : Int) (v : Value) (S : List (Int × Int)) (hg : o.guard = none)
    (hop : o.op = .call { callee := .builtin .append, args := #[.tmp 25, .tmp 35], argTypes := #[109, 109] })
    (hs : a.eval (.tmp 25) = v) (hx : a.eval (.tmp 35) = .slice (some ⟨wn.heap.size, 0, none⟩) 3 3) (how : ownS W0 W5.heap.size v S) (hS : S.length ≤ 100) (bc : Below W0.heap.size W0 wn) (hb0 : Below W5.heap.size W5 W0)
    (keep : ∀ q, Below W0.heap.size W0 q → C6 wo.heap.size U V pa pb q) (g8 : wo.heap.size < W0.heap.size ∧ U < W0.heap.size ∧ V < W0.heap.size) (nb : ∀ g, v.ownBlock = some g → W5.heap.size ≤ g ∧ g < wo.heap.size) (hU : U < W5.heap.size) (hV : V < W5.heap.size)
    (h : ∀ v9 w9, ownS w9 W5.heap.size v9 (S ++ [(x, y), (z, u), (s, r)]) → C6 wo.heap.size U V pa pb w9 → Below W5.heap.size W5 w9 → K (a.put o.dst v9) w9) :
    if Region.wanted o (yielded ops a.tmps) = true then Oper.wp Try.prog o a (wn.alloc (.cells #[.int .i64 x, .int .i64 y, .int .i64 z, .int .i64 u, .int .i64 s, .int .i64 r] 103)) K Q else E := by
  have al : Below wn.heap.size wn (wn.alloc (.cells #[.int .i64 x, .int .i64 y, .int .i64 z, .int .i64 u, .int .i64 s, .int .i64 r] 103)) := (Below.refl _ _).alloc (Nat.le_refl _) _
  have bq : Below W0.heap.size W0 (wn.alloc (.cells #[.int .i64 x, .int .i64 y, .int .i64 z, .int .i64 u, .int .i64 s, .int .i64 r] 103)) := bc.trans (al.mono bc.size)
  refine step_append_spans hg (.tmp 25) (.tmp 35) hop W5.heap.size v S hs (World.ownsRow.keepB how bq) (some ⟨wn.heap.size, 0, none⟩) [(x, y), (z, u), (s, r)] 3 3 hx rfl (spans_new3 wn x y z u s r _ _ rfl) (by omega) (Nat.le_trans hb0.size bq.size) ?_
  intro v9 w9 hown hgrow
  refine h v9 w9 hown (c6_grown (keep _ bq) (Nat.lt_of_lt_of_le g8.1 bq.size) (Nat.lt_of_lt_of_le g8.2.1 bq.size) (Nat.lt_of_lt_of_le g8.2.2 bq.size) hgrow (fun e => by have := (nb _ e.symm).2; omega) (fun e => by have := (nb _ e.symm).1; omega) (fun e => by have := (nb _ e.symm).1; omega)) ?_
  exact Below.grown (hb0.trans (bq.mono hb0.size)) hgrow (Below.size (hb0.trans (bq.mono hb0.size))) (fun g hg' => (nb g hg').1)
/-- What is added for one span. -/
def tri (p : Int × Int) : List (Int × Int) := [p, (max p.1 65 + 32, min p.2 91 + 32), (max p.1 97 + -32, min p.2 123 + -32)]
def triS (C : List (Int × Int)) : List (Int × Int) := C.flatMap tri
theorem triS_take (A : List (Int × Int)) (k : Nat) (h : k < A.length) : triS (A.take (k + 1)) = triS (A.take k) ++ tri (A.getD k (0, 0)) := by
  rw [take_snocS A k h]
  simp [triS]
theorem triS_len (A : List (Int × Int)) : (triS A).length = 3 * A.length := by
  induction A with
  | nil => rfl
  | cons p r ih =>
    have : triS (p :: r) = tri p ++ triS r := rfl
    rw [this, List.length_append, ih]
    simp [tri]
    omega
theorem triS_mem {C : List (Int × Int)} (x : Int) : Mem x (triS C) ↔ Mem x C ∨ (Mem (x - 32) C ∧ 65 ≤ x - 32 ∧ x - 32 < 91) ∨ (Mem (x + 32) C ∧ 97 ≤ x + 32 ∧ x + 32 < 123) := by
  induction C with
  | nil => simp [triS, Mem]
  | cons p r ih =>
    have : triS (p :: r) = tri p ++ triS r := rfl
    rw [this, mem_append, ih]
    simp only [tri, Mem, or_false]
    constructor
    · rintro ((h | h | h) | (h | h | h))
      · exact .inl (.inl h)
      · exact .inr (.inl ⟨.inl (by omega), by omega⟩)
      · exact .inr (.inr ⟨.inl (by omega), by omega⟩)
      · exact .inl (.inr h)
      · exact .inr (.inl ⟨.inr h.1, h.2⟩)
      · exact .inr (.inr ⟨.inr h.1, h.2⟩)
    · rintro ((h | h) | (⟨h | h, h2⟩ | ⟨h | h, h2⟩))
      · exact .inl (.inl h)
      · exact .inr (.inl h)
      · exact .inl (.inr (.inl (by omega)))
      · exact .inr (.inr (.inl ⟨h, h2⟩))
      · exact .inl (.inr (.inr (by omega)))
      · exact .inr (.inr (.inr ⟨h, h2⟩))
theorem fold_mem {C : List (Int × Int)} (h : CT C) (hl : C.length ≤ 12) (x : Int) : Mem x (foldK C 26) ↔ Mem x (triS C) := by
  rw [(foldK_facts h hl 26 (Nat.le_refl _)).2.2 x, triS_mem]
  constructor
  · rintro (q | ⟨j, hj, q1, q2⟩)
    · exact .inl q
    · rcases q1 with q1 | q1 <;> rcases q2 with q2 | q2
      · subst q2; exact .inl q1
      · exact .inr (.inl ⟨by rw [show x - 32 = 65 + (j : Int) by omega]; exact q1, by omega⟩)
      · exact .inr (.inr ⟨by rw [show x + 32 = 97 + (j : Int) by omega]; exact q1, by omega⟩)
      · subst q2; exact .inl q1
  · rintro (q | ⟨q, q2⟩ | ⟨q, q2⟩)
    · exact .inl q
    · exact .inr ⟨(x - 97).toNat, by omega, .inl (by rw [show 65 + ((x - 97).toNat : Int) = x - 32 by omega]; exact q), .inr (by omega)⟩
    · exact .inr ⟨(x - 65).toNat, by omega, .inr (by rw [show 97 + ((x - 65).toNat : Int) = x + 32 by omega]; exact q), .inl (by omega)⟩
theorem triS_bd {C : List (Int × Int)} (h : ∀ p ∈ C, 0 ≤ p.1 ∧ p.1 ≤ 1114112 ∧ 0 ≤ p.2 ∧ p.2 ≤ 1114112) : ∀ p ∈ triS C, -32 ≤ p.1 ∧ p.1 ≤ 1114200 ∧ -32 ≤ p.2 ∧ p.2 ≤ 1114200 ∧ (p.1 < p.2 → -1 < p.1) := fun p hp => by
  simp only [triS, List.mem_flatMap] at hp
  obtain ⟨q, hq, hp⟩ := hp
  have := h q hq
  simp only [tri, List.mem_cons, List.not_mem_nil, or_false] at hp
  rcases hp with rfl | rfl | rfl
  · omega
  · simp only; omega
  · simp only; omega
set_option maxRecDepth 100000 in
set_option maxHeartbeats 1000000 in
theorem ifoldT_no (L : List Int) (ao : Option Addr) (cap : Nat) (w : World) (hl : L.length ≤ 1048576) (hg : goodS L = false) (hA : IntsAt w ao L) :
    Calls Try.prog 62 #[.slice ao L.length cap] w fun e w' => e = .returned (.tuple #[.slice none 0 0, .bool false]) ∧ Below w.heap.size w w' := by
  have HA : Hid _ := hA
  have HG : Hid _ := hg
  clear hA hg
  go_enter Try.func62, Try.ntmps62
  go_wp2_with fail
  refine (read_no L ao cap _ hl HG.out HA.out).mono ?_
  rintro e w2 ⟨rfl, b2⟩
  obtain ⟨w3, hst, s3, b3⟩ := new_set w2 [] (by simp)
  have HST : Hid _ := hst
  clear hst s3
  go_wp2_with (refine wpList_store_set rfl (.tmp 4) (.tmp 14) rfl w2.heap.size rfl rfl HST.out ?_)
  go_ret2
  exact ⟨rfl, b2.trans (b3.mono b2.size)⟩
set_option maxRecDepth 100000 in
set_option maxHeartbeats 4000000 in
theorem ifoldT_yes (L : List Int) (C : List (Int × Int)) (ao : Option Addr) (cap : Nat) (w : World) (hg : Good4 L C) (hA : IntsAt w ao L) :
    Calls Try.prog 62 #[.slice ao L.length cap] w fun e w' => SetE w w' (foldK C 26) e ∧ Below w.heap.size w w' := by
  have HA : Hid _ := hA
  have HG : Hid _ := hg
  have hcl := hg.le
  have HFL : Hid ((pad C).length = 24) := pad_len hg.le
  have hix := index64 (pad C) HFL.out
  have HPR : Hid _ := hg.pr
  have N1 : Hid _ := (foldK_facts hg.ct hg.le 26 (Nat.le_refl _)).1
  have TB : Hid _ := tw_bd hg.ct
  have HMM : Hid (∀ x, Mem x (foldK C 26) ↔ Mem x (triS (tw C))) := fun x => by rw [fold_mem hg.ct hg.le, triS_mem, triS_mem, tw_mem hg.le, tw_mem hg.le, tw_mem hg.le]
  clear hA hg
  go_enter Try.func62, Try.ntmps62
  go_wp2_with fail
  refine (read_yes L ao cap _ HG.out.good HA.out).mono ?_
  rintro e w2 ⟨rfl, b2⟩
  rw [HPR.out]
  obtain ⟨w3, hst, s3, b3⟩ := new_set w2 C HG.out.le
  have HST : Hid _ := hst
  have S3 : Hid _ := s3
  have B3 : Hid (Below w.heap.size w w3) := b2.trans (b3.mono b2.size)
  clear hst s3 b2 b3 HA
  go_wp2_with (refine wpList_store_set rfl (.tmp 4) (.tmp 14) rfl w2.heap.size rfl rfl HST.out ?_)
  refine (moved_any 65 91 32 _ (by omega)).mono ?_
  rintro e w4 ⟨rfl, b4⟩
  have S4 : Hid (SetAt w4 w2.heap.size C) := (S3.out.keep ((Below.refl _ _).alloc (Nat.le_refl _) _)).keep b4
  have c0 : w4.cell? ⟨w3.heap.size, 0, none⟩ = some (.int .i64 65) := (b4.cell (p := ⟨w3.heap.size, 0, none⟩) (by simp)).trans (by simp)
  have c1 : w4.cell? ⟨w3.heap.size, 1, none⟩ = some (.int .i64 91) := (b4.cell (p := ⟨w3.heap.size, 1, none⟩) (by simp)).trans (by simp)
  have hl4 : w3.heap.size < w4.heap.size := Nat.lt_of_lt_of_le (by simp) b4.size
  have B4 : Hid (Below w.heap.size w w4) := (B3.out.trans (((Below.refl _ _).alloc (Nat.le_refl _) _).mono B3.out.size)).trans (b4.mono (B3.out.trans (((Below.refl _ _).alloc (Nat.le_refl _) _).mono B3.out.size)).size)
  clear b4
  have S5 : Hid (SetAt (w4.alloc (.cells #[.int .i64 (65 + 32), .int .i64 (91 + 32)] 103)) w2.heap.size C) := S4.out.keep ((Below.refl _ _).alloc (Nat.le_refl _) _)
  go_wp2_with (refine wpList_load_mid rfl 105 (.tmp 4) rfl w2.heap.size 0 rfl (ints (pad C)) _ S5.out.ra Try.underlying105 rfl (by rw [info64, ints_len, HFL.out]) ?_)
  obtain ⟨W5, hW5⟩ : ∃ W5, W5 = w4.alloc (.cells #[.int .i64 (65 + 32), .int .i64 (91 + 32)] 103) := ⟨_, rfl⟩
  have B5 : Hid (Below w.heap.size w W5) := by rw [hW5]; exact B4.out.trans (((Below.refl _ _).alloc (Nat.le_refl _) _).mono B4.out.size)
  have Z5 : Hid (C6 w3.heap.size w3.heap.size w4.heap.size 65 91 W5 ∧ w3.heap.size < W5.heap.size ∧ w4.heap.size < W5.heap.size) := by
    rw [hW5]
    exact ⟨⟨((Below.alloc (Below.refl _ _) (Nat.le_refl _) _ : Below w4.heap.size w4 _).cell (p := ⟨w3.heap.size, 0, none⟩) hl4).trans c0, ((Below.alloc (Below.refl _ _) (Nat.le_refl _) _ : Below w4.heap.size w4 _).cell (p := ⟨w3.heap.size, 1, none⟩) hl4).trans c1, ((Below.alloc (Below.refl _ _) (Nat.le_refl _) _ : Below w4.heap.size w4 _).cell (p := ⟨w3.heap.size, 0, none⟩) hl4).trans c0, ((Below.alloc (Below.refl _ _) (Nat.le_refl _) _ : Below w4.heap.size w4 _).cell (p := ⟨w3.heap.size, 1, none⟩) hl4).trans c1, by simp, by simp⟩, by simp; omega, by simp⟩
  go_loopw [8, 22] (fun v i wr => ∃ k : Nat, k ≤ 12 ∧ i = .int .i64 k ∧ ownS wr W5.heap.size v (triS ((tw C).take k)) ∧ Below W5.heap.size W5 wr) (fun _ i _ => 12 - (intOf i).toNat)
  case atStart => exact ⟨0, Nat.zero_le _, rfl, World.ownsRow_nil _ _ _ _, by rw [hW5]; exact Below.refl _ _⟩
  case round =>
    obtain ⟨k, hk, rfl, hown, hbw⟩ := hrel
    obtain ⟨wo, hwo⟩ : ∃ wo, wo = wr := ⟨_, rfl⟩
    subst hwo
    have OWN : Hid _ := hown
    have HB : Hid _ := hbw
    by_cases hlt : k < 12
    · have hltI : (k : Int) < 12 := by omega
      have hik := fun w => hix k hlt w
      have hp := pad_get C k
      rw [hp.1, hp.2] at hik
      have HTK : Hid (triS ((tw C).take (k + 1)) = triS ((tw C).take k) ++ tri (C.getD k (0, 0))) := by
        show triS ((tw C).take (k + 1)) = _
        rw [triS_take _ k (by rw [tw_len]; exact hlt), tw_get C k hlt]
      have hbd := TB.out (C.getD k (0, 0)) (by rw [← tw_get C k hlt]; simp [List.getD, tw_len, hlt])
      have hcl : (triS ((tw C).take k)).length ≤ 36 := by rw [triS_len]; simp; omega
      clear hp hix hown hbw
      generalize C.getD k (0, 0) = p at *
      obtain ⟨a, b⟩ := p
      simp only at hik hbd
      generalize triS ((tw C).take k) = S at *
      have Z6 : Hid (C6 w3.heap.size w3.heap.size w4.heap.size 65 91 wo ∧ w3.heap.size < wo.heap.size ∧ w4.heap.size < wo.heap.size) := ⟨c6_keep Z5.out.1 Z5.out.2.1 Z5.out.2.1 Z5.out.2.2 HB.out, Nat.lt_of_lt_of_le Z5.out.2.1 HB.out.size, Nat.lt_of_lt_of_le Z5.out.2.2 HB.out.size⟩
      have AL : ∀ q : World, ∀ o, Below q.heap.size q (q.alloc o) := fun q o => (Below.refl _ _).alloc (Nat.le_refl _) o
      have NB : Hid _ := World.ownsRow.lt OWN.out
      go_upto_region 10 with fail
      refine gen_world (fun W => C6 wo.heap.size w3.heap.size w4.heap.size a b W ∧ Below wo.heap.size wo W ∧ wo.heap.size < W.heap.size) ⟨?_, AL _ _, by simp⟩ ?_
      · have q := c6_keep Z6.out.1 Z6.out.2.1 Z6.out.2.1 Z6.out.2.2 (AL wo (.cells #[.int .i64 a, .int .i64 b] 103))
        exact ⟨by simp, by simp, q.2.2.1, q.2.2.2.1, q.2.2.2.2.1, q.2.2.2.2.2⟩
      rintro W0 ⟨g6, g7, g8⟩
      have G8 : Hid (wo.heap.size < W0.heap.size ∧ w3.heap.size < W0.heap.size ∧ w4.heap.size < W0.heap.size) := ⟨g8, by have := Z6.out.2.1; omega, by have := Z6.out.2.2; omega⟩
      have KEEP : Hid (∀ q, Below W0.heap.size W0 q → C6 wo.heap.size w3.heap.size w4.heap.size a b q) := fun q h => c6_keep g6 G8.out.1 G8.out.2.1 G8.out.2.2 h
      have OW0 : Hid _ := World.ownsRow.keepB OWN.out g7
      have HB0 : Hid (Below W5.heap.size W5 W0) := HB.out.trans (g7.mono HB.out.size)
      have BC : Hid (Below W0.heap.size W0 W0.drew) := (Below.refl _ _).drew
      clear g6 g7 g8
      go_region_held_law (fun w' => (w'.cell? ⟨wo.heap.size, 0, none⟩ = some (.int .i64 a) ∧ w'.cell? ⟨wo.heap.size, 1, none⟩ = some (.int .i64 b) ∧ w'.cell? ⟨w3.heap.size, 0, none⟩ = some (.int .i64 65) ∧ w'.cell? ⟨w3.heap.size, 1, none⟩ = some (.int .i64 91) ∧ w'.cell? ⟨w4.heap.size, 0, none⟩ = some (.int .i64 97) ∧ w'.cell? ⟨w4.heap.size, 1, none⟩ = some (.int .i64 123))) (first | assumption | exact KEEP.out _ BC.out | exact KEEP.out _ (BC.out.trans ((AL _ _).mono BC.out.size)) | exact KAP.out) (first
        | (go_at_call 99; refine (meet_any _ _ _ _ _).mono ?_; rintro e wn ⟨rfl, bn⟩; have BC : Hid (Below W0.heap.size W0 wn) := BC.out.trans (bn.mono BC.out.size); clear bn)
        | (go_at_call 98; refine (moved_any _ _ _ _ (by omega)).mono ?_; rintro e wn ⟨rfl, bn⟩; have BC : Hid (Below W0.heap.size W0 wn) := BC.out.trans (bn.mono BC.out.size); clear bn)
        | (refine step_fold wn W0 W5 wo w3.heap.size w4.heap.size a b _ _ _ _ _ _ _ S rfl rfl (by simp [Act.eval]) (by simp [Act.eval]) OW0.out (by omega) BC.out HB0.out KEEP.out G8.out NB.out Z5.out.2.1 Z5.out.2.2 ?_; intro v9 w9 hown9 kap9 b9; have O9 : Hid _ := hown9; have KAP : Hid _ := kap9; have B9 : Hid _ := b9; clear hown9 kap9 b9))
      all_goals
        go_wp2
        go_roundw
        case rel => exact ⟨k + 1, by omega, by go_num, by rw [HTK.out]; exact O9.out, B9.out⟩
        case measure => simp [intOf]; omega
    · have hk12 : k = 12 := by omega
      subst hk12
      have HTT : Hid ((tw C).take 12 = tw C) := List.take_of_length_le (by rw [tw_len]; exact Nat.le_refl _)
      rw [HTT.out] at hown
      obtain ⟨ao3, cap3, rfl, sp3⟩ := spans_of_own hown
      have SP3 : Hid _ := sp3
      have HCL : Hid ((triS (tw C)).length = 36) := by show (triS (tw C)).length = 36; rw [triS_len, tw_len]
      have HSB : Hid (∀ p ∈ triS (tw C), -4000000 ≤ p.1 ∧ p.1 ≤ 4000000 ∧ -4000000 ≤ p.2 ∧ p.2 ≤ 4000000) := fun p hp => by have := triS_bd TB.out p hp; omega
      have HSG : Hid (∀ p ∈ triS (tw C), p.1 < p.2 → -1 < p.1) := fun p hp => (triS_bd TB.out p hp).2.2.2.2
      have BW : Hid (Below w.heap.size w wo) := B5.out.trans (HB.out.mono B5.out.size)
      clear hown sp3 hbw OWN hix
      go_wp2_with fail
      refine (joinSp' (triS (tw C)) (foldK C 26) ao3 cap3 _ _ (by simp) (by rw [HCL.out]; omega) HSB.out HSG.out N1.out.can HMM.out SP3.out).mono ?_
      rintro e w9 ⟨hor, b9⟩
      have B9 : Hid (Below w.heap.size w w9) := BW.out.trans (b9.mono BW.out.size)
      clear b9
      obtain ⟨h12, v9, rfl, o9⟩ | ⟨h12, rfl⟩ := hor
      · have O9 : Hid (w9.ownsRow w.heap.size 3 1 v9 (flS (foldK C 26)).length (ints (flS (foldK C 26)))) := own_mono o9 BW.out.size
        clear o9
        go_wp2
        go_ret2
        exact ⟨.inl ⟨h12, v9, rfl, O9.out⟩, B9.out⟩
      · go_wp2
        go_ret2
        exact ⟨.inr ⟨h12, rfl⟩, B9.out⟩
end Go.Proofs.Ytkbijnojmfplpaa
namespace Go.Proofs.Ytkbijnojmfplpaa
open Go.ChangeShapes Go.WideShapes Go.ChangeAt Go.WideMaps Go.WideElems Go.RowKit
theorem foldL_len (P : List Nd) : (foldL P).length = P.length := by simp [foldL]
theorem nd_foldL (P : List Nd) (j : Nat) (h : j < P.length) : nd (foldL P) j = ((nd P j).1, foldS (nd P j).2) := by simp [nd, foldL, List.getD, h]
theorem pile_nodes {P : List Nd} : ∀ {k : Nat} {n : Int}, pileK P k = some n → ∀ j, j < k → nodeB (nd P j) = true
  | 0, n, _, j, hj => absurd hj (by omega)
  | k + 1, n, h, j, hj => by
    rw [pileK] at h
    obtain ⟨m, hm, h2⟩ := Option.bind_eq_some_iff.1 h
    by_cases e : j = k
    · subst e
      split at h2
      · rename_i hc; exact hc.1
      · cases h2
    · exact pile_nodes hm j (by omega)
theorem fold_pile {P : List Nd} : ∀ (k : Nat) (m : Int), k ≤ P.length → pileK P k = some m → (∀ j, j < k → okN (nd P j) = true) → pileK (foldL P) k = some m
  | 0, m, _, h, _ => h
  | k + 1, m, hk, h, ho => by
    have hn := pile_nodes h k (by omega)
    rw [pileK] at h
    obtain ⟨q, hq, h2⟩ := Option.bind_eq_some_iff.1 h
    rw [pileK, fold_pile k q (by omega) hq (fun j hj => ho j (by omega)), nd_foldL P k (by omega)]
    rw [hn] at h2
    show (if nodeB ((nd P k).1, foldS (nd P k).2) = true ∧ arity (nd P k).1 ≤ q then some (q + 1 - arity (nd P k).1) else none) = some m
    rw [node_fold hn, ho k (by omega)]
    exact h2
theorem goodP_parts {P : List Nd} (h : goodP P = true) : P.length ≤ 40 ∧ pileK P P.length = some 1 := by
  unfold goodP oneP at h
  simp only [Bool.and_eq_true, decide_eq_true_eq] at h
  exact h
theorem goodP_nodes {P : List Nd} (h : goodP P = true) (j : Nat) (hj : j < P.length) : nodeB (nd P j) = true := pile_nodes (goodP_parts h).2 j hj
theorem fold_goodP_yes {P : List Nd} (h : goodP P = true) (ho : ∀ j, j < P.length → okN (nd P j) = true) : goodP (foldL P) = true := by
  obtain ⟨h1, h2⟩ := goodP_parts h
  unfold goodP oneP
  rw [foldL_len, fold_pile P.length 1 (Nat.le_refl _) h2 ho]
  simp [h1]
theorem fold_goodP_no {P : List Nd} (h : goodP P = true) {j : Nat} (hj : j < P.length) (ho : okN (nd P j) = false) : goodP (foldL P) = false := by
  cases e : goodP (foldL P) with
  | false => rfl
  | true =>
    have h1 := goodP_nodes e j (by rw [foldL_len]; exact hj)
    rw [nd_foldL P j hj, node_fold (goodP_nodes h j hj), ho] at h1
    cases h1
/-- Whether all folded nodes are nodes. -/
def allN (P : List Nd) : Bool := decide (∀ j, j < P.length → okN (nd P j) = true)
def foldF (P : List Nd) : Bool := goodP P && allN P
def foldA (P : List Nd) : List Nd := if foldF P = true then foldL P else []
theorem foldF_bad {P : List Nd} (h : goodP P = false) : foldF P = false := by rw [foldF, h]; rfl
theorem foldF_no {P : List Nd} {j : Nat} (hj : j < P.length) (h : okN (nd P j) = false) : foldF P = false := by
  have : allN P = false := decide_eq_false fun k => by rw [k j hj] at h; cases h
  rw [foldF, this, Bool.and_false]
theorem foldF_yes {P : List Nd} (h : goodP P = true) (ho : ∀ j, j < P.length → okN (nd P j) = true) : foldF P = true := by
  rw [foldF, h, allN, decide_eq_true ho]; rfl
theorem foldA_yes {P : List Nd} (h : foldF P = true) : foldA P = foldL P := by rw [foldA, if_pos h]
theorem foldA_no {P : List Nd} (h : foldF P = false) : foldA P = [] := by rw [foldA, h]; rfl
theorem node_set_good {x : Nd} (h : nodeB x = true) : goodS x.2 = true := by
  simp only [nodeB, Bool.and_eq_true] at h
  exact h.2.1
set_option maxRecDepth 100000 in
theorem make_cap (w : World) (n : Nat) (hn : n ≤ 1048576) (f : Nat → Nd) : ∃ w', (Instr.makeSlice 27 (.int .i64 0) (.int .i64 (n : Int))).run Try.prog w = .ok (.slice (some ⟨w.heap.size, 0, none⟩) 0 n) w' ∧ OwnF w' w.heap.size (.slice (some ⟨w.heap.size, 0, none⟩) 0 n) 0 f ∧ Below w.heap.size w w' := by
  obtain ⟨i0, hi, hz0, hz1, hz2⟩ := infoRe
  have h := run_make (P := Try.prog) w 27 60 i0 (.agg #[.int .i64 0, .slice none 0 0]) Try.underlying27 hi hz0 .i64 .i64 0 (n : Int) (by omega) (by omega) (by rw [hz2]; omega) (by omega)
  rw [show Int.toNat (0 : Int) = 0 from rfl, Int.toNat_natCast, hz1] at h
  refine ⟨_, h, ⟨[], rfl, ⟨rfl, .inr ⟨w.heap.size, n, _, rfl, Nat.le_refl _, heap_last2 _ _ _ rfl, Nat.zero_le _, by unfold maxLen; omega, by rw [size_madeCells], by simp [fl2]⟩⟩, fun j hj => by omega, fun i j hi => by omega⟩, al_T _ _⟩
set_option maxRecDepth 100000 in
set_option maxHeartbeats 4000000 in
theorem ifoldRe_any (P : List Nd) (ao : Option Addr) (cap : Nat) (w : World) (hl : szP P ≤ 1048576) (hA : ResAt w ao P) :
    Calls Try.prog 29 #[.slice ao P.length cap] w fun e w' => ∃ v, e = .returned (.tuple #[v, .bool (foldF P)]) ∧ OwnF w' w.heap.size v (foldA P).length (nd (foldA P)) ∧ Below w.heap.size w w' := by
  have HG0 : Hid (Calls Try.prog 56 #[.slice ao P.length cap] w fun e w' => e = .returned (.bool (goodP P)) ∧ Below w.heap.size w w') := by
    have HT : Hid (Calls Try.prog 45 #[.slice ao P.length cap] w fun e w' => TreeE P w w' e) := treeT_any P ao cap w hl hA
    show Calls _ _ _ _ _
    go_enter Try.func56, Try.ntmps56
    go_wp2_with fail
    refine Calls.mono HT.out ?_
    rintro e w1 hE
    rcases hE with ⟨hg, t, x, hp, rfl, tt, b1⟩ | ⟨hg, p, rfl, b1⟩
    · have HG : Hid (goodP P = true) := hg
      clear hg hp tt
      go_wp2
      go_ret
      exact ⟨by rw [HG.out] <;> rfl, b1⟩
    · have HG : Hid (goodP P = false) := hg
      clear hg
      go_wp2
      go_ret
      exact ⟨by rw [HG.out] <;> rfl, b1⟩
  have HA : Hid (ResAt w ao P) := hA
  have HL : Hid (szP P ≤ 1048576) := hl
  clear hA hl
  cases hg : goodP P
  · have HG : Hid (goodP P = false) := hg
    clear hg
    rw [HG.out] at HG0
    go_enter Try.func29, Try.ntmps29
    go_wp2_with fail
    refine Calls.mono HG0.out ?_
    rintro e w1 ⟨rfl, b1⟩
    have B1 : Hid (Below w.heap.size w w1) := b1
    clear b1
    go_wp2
    go_ret2
    have hf := foldF_bad HG.out
    rw [foldA_no hf, hf]
    exact ⟨_, rfl, own_none _ _ _, B1.out⟩
  · have HG : Hid (goodP P = true) := hg
    have h40 := (goodP_parts hg).1
    have MK : Hid (∀ w : World, ∃ w', (Instr.makeSlice 27 (.int .i64 0) (.int .i64 (P.length : Int))).run Try.prog w = .ok (.slice (some ⟨w.heap.size, 0, none⟩) 0 P.length) w' ∧ OwnF w' w.heap.size (.slice (some ⟨w.heap.size, 0, none⟩) 0 P.length) 0 (nd (foldL P)) ∧ Below w.heap.size w w') := fun w => make_cap w P.length (by omega) _
    clear hg
    rw [HG.out] at HG0
    go_enter Try.func29, Try.ntmps29
    go_wp2_with fail
    refine Calls.mono HG0.out ?_
    rintro e w1 ⟨rfl, b1⟩
    have B1 : Hid (Below w.heap.size w w1) := b1
    have hs1 := b1.size
    clear b1 HG0
    obtain ⟨w2, hmk, ow2, b2⟩ := MK.out w1
    have O2 : Hid (OwnF w2 w.heap.size (.slice (some ⟨w1.heap.size, 0, none⟩) 0 P.length) 0 (nd (foldL P))) := OwnF.mono ow2 hs1
    have B2 : Hid (Below w.heap.size w w2) := B1.out.trans (b2.mono hs1)
    clear ow2 b2 MK
    go_wp2
    go_loopw [4, 17] (fun v i wr => ∃ k : Nat, k ≤ P.length ∧ i = .int .i64 k ∧ OwnF wr w.heap.size v k (nd (foldL P)) ∧ (∀ j, j < k → okN (nd P j) = true) ∧ Below w.heap.size w wr) (fun _ i _ => P.length - (intOf i).toNat)
    case atStart => exact ⟨0, Nat.zero_le _, rfl, O2.out, fun j hj => absurd hj (by omega), B2.out⟩
    case round =>
      obtain ⟨k, hk, rfl, hO, hok, hbw⟩ := hrel
      have BW0 : Hid (Below w.heap.size w wr) := hbw
      have HOK : Hid (∀ j, j < k → okN (nd P j) = true) := hok
      have hsz := hbw.size
      by_cases hlt : k < P.length
      · have hltI : (k : Int) < (P.length : Int) := by omega
        obtain ⟨Q, hQ, hr, hs, ha⟩ := hO
        have HR : Hid (wr.ownsRow w.heap.size 60 2 u4 k (fl2 Q)) := hr
        have HS : Hid _ := hs
        have HAp : Hid _ := ha
        have HQ : Hid _ := hQ
        obtain ⟨b1, o1, sa, sc, rfl, l1, h0, h1, iS⟩ := HA.out k hlt
        have hls : (nd P k).2.length ≤ 1048576 := Nat.le_trans (nd_len P k hlt) HL.out
        have g0 : wr.cell? ⟨b1, o1 + k * 2, none⟩ = some (.int .i64 (nd P k).1) := (hbw.cell (p := ⟨b1, o1 + k * 2, none⟩) l1).trans h0
        have g1 : wr.cell? ⟨b1, o1 + k * 2 + 1, none⟩ = some (.slice sa (nd P k).2.length sc) := (hbw.cell (p := ⟨b1, o1 + k * 2 + 1, none⟩) l1).trans h1
        have hnb := goodP_nodes HG.out k hlt
        have hgs := node_set_good hnb
        have HND : Hid _ := nd_foldL P k hlt
        have HOKN : Hid (okN (nd P k) = decide ((foldC (nd P k).2).length ≤ 12)) := rfl
        obtain ⟨op, hop⟩ : ∃ op, op = (nd P k).1 := ⟨_, rfl⟩
        obtain ⟨s, hss⟩ : ∃ s, s = (nd P k).2 := ⟨_, rfl⟩
        rw [← hss] at g1 hls hgs iS HND HOKN
        rw [← hop] at g0 HND
        obtain ⟨C, hC⟩ := good4_of hgs
        have hfc := foldC_of hC
        have CALL : Hid (∀ o, Calls Try.prog 62 #[.slice sa s.length sc] (wr.alloc o) fun e w' => SetE (wr.alloc o) w' (foldC s) e ∧ Below (wr.alloc o).heap.size (wr.alloc o) w') := fun o => by
          rw [hfc]
          exact ifoldT_yes s C sa sc (wr.alloc o) hC (IntsAt.keepB iS (hbw.trans ((al_T wr o).mono hsz)))
        have A1 : Hid (∀ o, Below wr.heap.size wr (wr.alloc o)) := al_T wr
        have N0 : Hid (∀ o : Obj, (wr.alloc o).heap[wr.heap.size]? = some o) := fun o => heap_last2 _ _ _ rfl
        clear hr hs ha hQ h0 h1 iS hbw hop hss hC hfc hnb hgs hok
        go_wp2_with fail
        refine Calls.mono (CALL.out _) ?_
        rintro e w3 ⟨hor, b3⟩
        have B3 : Hid (Below wr.heap.size wr w3) := (A1.out _).trans (b3.mono (A1.out _).size)
        rcases hor with ⟨h12, v3, rfl, o3⟩ | ⟨h12, rfl⟩
        · have O3 : Hid (w3.ownsRow wr.heap.size 3 1 v3 (foldS s).length (ints (foldS s))) := own_mono o3 (A1.out _).size
          have HK1 : Hid (okN (nd P k) = true) := by show okN (nd P k) = true; rw [HOKN.out]; exact decide_eq_true h12
          obtain ⟨-, a3, c3, hv3, -⟩ := ints_of_own O3.out
          subst hv3
          have x3 := (b3.block wr.heap.size (by simp)).trans (N0.out _)
          have y0 : w3.cell? ⟨wr.heap.size, 0, none⟩ = some (.int .i64 op) := cell_of x3 0
          clear o3 b3 h12 x3 HOKN CALL g0 g1
          go_wp2_with (at_builtin; refine wpR _ rfl _ _ rfl w.heap.size _ k Q rfl (World.ownsRow.keepB HR.out (B3.out.trans ((al_T _ _).mono B3.out.size))) w3.heap.size 1 op a3 (foldS s).length c3 rfl (cell2_new _ _ _ _).1 (cell2_new _ _ _ _).2 (by omega) (Nat.le_trans (Nat.le_trans hsz B3.out.size) (al_T _ _).size) ?_; intro v5 w5 o5 g5; have O5 : Hid _ := o5; have G5 : Hid _ := g5; clear o5 g5)
          have bA : Hid (Below wr.heap.size wr (w3.alloc (.cells #[.int .i64 op, .slice a3 (foldS s).length c3] 60))) := B3.out.trans ((al_T _ _).mono B3.out.size)
          have FIN : Hid (OwnF w5 w.heap.size v5 (k + 1) (nd (foldL P))) := by
            have h := own_push (f := nd (foldL P)) (op := op) (s := foldS s) Q HQ.out HR.out HS.out HAp.out bA.out (own_mono (World.ownsRow.keepB O3.out (al_T _ _)) hsz) (fun g hg => (World.ownsRow.lt O3.out g hg).1) O5.out G5.out
            exact OwnF.cast h (fun j _ => by
              split
              · rename_i e; subst e; rw [HND.out]
              · rfl)
          have B5 : Hid (Below w.heap.size w w5) := BW0.out.trans (Below.grown (bA.out.mono hsz) G5.out (Nat.le_trans hsz bA.out.size) (fun g hg => (World.ownsRow.lt HR.out g hg).1))
          go_wp2
          go_roundw
          case rel =>
            refine ⟨k + 1, by omega, by go_num, FIN.out, fun j hj => ?_, B5.out⟩
            by_cases e : j = k
            · subst e; exact HK1.out
            · exact HOK.out j (by omega)
          case measure => simp [intOf]; omega
        · have HK0 : Hid (okN (nd P k) = false) := by show okN (nd P k) = false; rw [HOKN.out]; exact decide_eq_false (by omega)
          clear b3 h12 HOKN CALL g0 g1
          go_wp2
          go_ret2
          have hf := foldF_no hlt HK0.out
          rw [foldA_no hf, hf]
          exact ⟨_, rfl, own_none _ _ _, BW0.out.trans (B3.out.mono hsz)⟩
      · obtain rfl : k = P.length := by omega
        have HO : Hid (OwnF wr w.heap.size u4 P.length (nd (foldL P))) := hO
        clear hO hbw hok
        go_wp2
        go_ret2
        have hf := foldF_yes HG.out HOK.out
        rw [foldA_yes hf, hf, foldL_len]
        exact ⟨_, rfl, HO.out, BW0.out⟩
end Go.Proofs.Ytkbijnojmfplpaa
namespace Go.Proofs.Ytkbijnojmfplpaa
open Go.ChangeShapes Go.WideShapes Go.ChangeAt Go.WideMaps Go.WideElems Go.RowKit
set_option maxRecDepth 100000 in
set_option maxHeartbeats 4000000 in
theorem sown5_any (P : List Nd) (ao : Option Addr) (n cap : Nat) (hn : n = P.length) (w : World) (hp : P.length ≤ 10000) (hl : ∀ y ∈ P, y.2.length ≤ 1048576) (hA : ResAt w ao P) :
    Calls Try.prog 52 #[.slice ao n cap] w fun e w' => ∃ v, e = .returned v ∧ OwnF w' w.heap.size v P.length (nd P) ∧ Below w.heap.size w w' := by
  subst hn
  have HA : Hid (ResAt w ao P) := hA
  have HL : Hid _ := hl
  clear hA hl
  go_enter Try.func52, Try.ntmps52
  go_wp2
  go_loopw [3, 8] (fun v i wr => ∃ k : Nat, k ≤ P.length ∧ i = .int .i64 k ∧ OwnF wr w.heap.size v k (nd P) ∧ Below w.heap.size w wr) (fun _ i _ => P.length - (intOf i).toNat)
  case atStart => exact ⟨0, Nat.zero_le _, rfl, own_none _ _ _, Below.refl _ _⟩
  case round =>
    obtain ⟨k, hk, rfl, hO, hbw⟩ := hrel
    have BW0 : Hid (Below w.heap.size w wr) := hbw
    have hsz := hbw.size
    by_cases hlt : k < P.length
    · have hltI : (k : Int) < (P.length : Int) := by omega
      obtain ⟨Q, hQ, hr, hs, ha⟩ := hO
      have HR : Hid _ := hr
      have HS : Hid _ := hs
      have HAp : Hid _ := ha
      have HQ : Hid _ := hQ
      obtain ⟨b1, o1, sa, sc, rfl, l1, h0, h1, iS⟩ := HA.out k hlt
      have hls : (nd P k).2.length ≤ 1048576 := HL.out _ (by simp [nd, List.getD, hlt])
      have g0 : wr.cell? ⟨b1, o1 + k * 2, none⟩ = some (.int .i64 (nd P k).1) := (hbw.cell (p := ⟨b1, o1 + k * 2, none⟩) l1).trans h0
      have g1 : wr.cell? ⟨b1, o1 + k * 2 + 1, none⟩ = some (.slice sa (nd P k).2.length sc) := (hbw.cell (p := ⟨b1, o1 + k * 2 + 1, none⟩) l1).trans h1
      obtain ⟨op, hop⟩ : ∃ op, op = (nd P k).1 := ⟨_, rfl⟩
      obtain ⟨s, hss⟩ : ∃ s, s = (nd P k).2 := ⟨_, rfl⟩
      rw [← hop] at g0
      rw [← hss] at g1 hls
      have HOP : Hid _ := hop
      have HSS : Hid _ := hss
      have IS : Hid (∀ o, IntsAt (wr.alloc o).drew sa s) := fun o => by rw [hss]; exact IntsAt.keepB iS (hbw.trans (((al_T wr o).drew).mono hsz))
      have W1 : Hid (∀ o, Below wr.heap.size wr (wr.alloc o).drew) := fun o => (al_T wr o).drew
      have N0 : Hid (∀ o : Obj, (wr.alloc o).drew.heap[wr.heap.size]? = some o) := fun o => heap_last2 _ _ _ rfl
      clear hr hs ha hQ h0 h1 iS hbw hop hss
      go_wp2
      go_region_held_law (fun w' => (w'.cell? ⟨wr.heap.size, 0, none⟩ = some (.int .i64 op) ∧ w'.cell? ⟨wr.heap.size, 1, none⟩ = some (.slice sa s.length sc))) (first | exact ⟨cell_of (N0.out _) 0, cell_of (N0.out _) 1⟩ | exact ⟨cell_of NI.out 0, cell_of NI.out 1⟩ | exact ⟨cell_of (NIA.out _) 0, cell_of (NIA.out _) 1⟩ | exact ⟨cell_of N5.out 0, cell_of N5.out 1⟩) (first
        | (refine stepR (w3.alloc (.cells #[.int .i64 op, .slice a3 s.length c3] 60)) rfl (.tmp 12) (.tmp 19) rfl w.heap.size u3 k Q (by simp [Act.eval]) (World.ownsRow.keepB HR.out (B3.out.trans ((al_T _ _).mono B3.out.size))) w3.heap.size 1 op a3 s.length c3 (by simp [Act.eval]) (cell2_new _ _ _ _).1 (cell2_new _ _ _ _).2 (by omega) (Nat.le_trans (Nat.le_trans hsz B3.out.size) (al_T _ _).size) ?_
           intro v5 w5 hown5 hgrow5
           have O5 : Hid _ := hown5
           have G5 : Hid _ := hgrow5
           have N5 : Hid (w5.heap[wr.heap.size]? = some (.cells #[.int .i64 op, .slice sa s.length sc] 60)) := (hgrow5.block _ (lt_of_heap (NIA.out _)) (fun e' => by have := (World.ownsRow.lt HR.out _ e'.symm).2; omega)).trans (NIA.out _)
           clear hown5 hgrow5)
        | (go_at_call 87
           refine (sown_any s sa _ sc _ rfl hls (IS.out _)).mono ?_
           rintro e w3 ⟨v3, rfl, o3, b3⟩
           have O3 : Hid (w3.ownsRow wr.heap.size 3 1 v3 s.length (ints s)) := own_mono o3 (W1.out _).size
           have B3 : Hid (Below wr.heap.size wr w3) := (W1.out _).trans (b3.mono (W1.out _).size)
           obtain ⟨-, a3, c3, hv3, -⟩ := ints_of_own o3
           subst hv3
           have NI : Hid (w3.heap[wr.heap.size]? = some (.cells #[.int .i64 op, .slice sa s.length sc] 60)) := (b3.block wr.heap.size (by simp)).trans (N0.out _)
           have NIA : Hid (∀ o, (w3.alloc o).heap[wr.heap.size]? = some (.cells #[.int .i64 op, .slice sa s.length sc] 60)) := fun o => (heap_prev _ _ _ (lt_of_heap NI.out)).trans NI.out
           clear o3 b3))
      all_goals
        go_wp2
        have bA : Hid (Below wr.heap.size wr (w3.alloc (.cells #[.int .i64 op, .slice a3 s.length c3] 60))) := B3.out.trans ((al_T _ _).mono B3.out.size)
        have FIN : Hid (OwnF w5 w.heap.size v5 (k + 1) (nd P)) := by
          have h := own_push (f := nd P) (op := op) (s := s) Q HQ.out HR.out HS.out HAp.out bA.out (own_mono (World.ownsRow.keepB O3.out (al_T _ _)) hsz) (fun g hg => (World.ownsRow.lt O3.out g hg).1) O5.out G5.out
          exact OwnF.cast h (fun j _ => by
            split
            · rename_i e; subst e; rw [HOP.out, HSS.out]
            · rfl)
        have B5 : Hid (Below w.heap.size w w5) := BW0.out.trans (Below.grown (bA.out.mono hsz) G5.out (Nat.le_trans hsz bA.out.size) (fun g hg => (World.ownsRow.lt HR.out g hg).1))
        go_roundw
        case rel => exact ⟨k + 1, by omega, by go_num, FIN.out, B5.out⟩
        case measure => simp [intOf]; omega
    · obtain rfl : k = P.length := by omega
      have HO : Hid (OwnF wr w.heap.size u3 P.length (nd P)) := hO
      clear hO hbw
      go_wp2
      go_ret
      exact ⟨_, rfl, HO.out, BW0.out⟩
set_option maxRecDepth 100000 in
set_option maxHeartbeats 4000000 in
theorem sfirst_any (P : List Nd) (k : Nat) (op : Int) (s : List Int) (a b : Option Tr) (ha : okT a) (hb : okT b) (hS : Sub P k (some ⟨op, s, a, b⟩)) (ao : Option Addr) (cap : Nat) (w : World) (hp : P.length ≤ 10000) (hA : ResAt w ao P) :
    Calls Try.prog 86 #[.slice ao P.length cap, .int .i64 k] w fun e w' => e = .returned (.int .i64 ((k - 1 - (post b).length : Nat) : Int)) ∧ w' = w := by
  have HA : Hid (ResAt w ao P) := hA
  obtain ⟨t1, t2, t3, t4⟩ := hS.two ha hb
  have hk := hS.2.1
  have hpa : 0 < (post a).length := by
    cases a with
    | none => rw [okT] at ha; exact ha.elim
    | some t => exact post_pos t
  obtain ⟨m, hm⟩ : ∃ m, m = (post b).length := ⟨_, rfl⟩
  have HNE : Hid (∀ j, j ≤ m → (j < m → 0 ≤ bal ((P.take k).drop (k - j))) ∧ (j = m → bal ((P.take k).drop (k - j)) = -1)) := fun j hj => by
    have := t3.need j (by omega)
    rw [show k - 1 + 1 = k by omega, ← hm] at this
    exact this
  have HST : Hid (∀ j, j < m → bal ((P.take k).drop (k - (j + 1))) = bal ((P.take k).drop (k - j)) + (arity (nd P (k - 1 - j)).1 - 1)) := fun j hj => by
    have hlt : k - (j + 1) < (P.take k).length := by rw [List.length_take]; omega
    have e := List.drop_eq_getElem_cons hlt
    rw [show k - (j + 1) + 1 = k - j by omega] at e
    rw [e]
    have e2 : (P.take k)[k - (j + 1)] = nd P (k - 1 - j) := by
      rw [List.getElem_take]
      simp [nd, List.getD, show k - 1 - j < P.length by omega, show k - (j + 1) = k - 1 - j by omega]
    rw [e2]
    simp [bal]
    omega
  have hz : bal ((P.take k).drop (k - 0)) = 0 := by rw [Nat.sub_zero, List.drop_eq_nil_of_le (by rw [List.length_take]; omega)]; rfl
  have HZ : Hid _ := hz
  rw [← hm]
  rw [← hm] at t1 t2
  have hmk : m + 1 ≤ k := by omega
  clear hA t3 t4 hS hm hz
  go_enter Try.func86, Try.ntmps86
  go_wp2
  go_loopw [5, 6] (fun need at_ wr => ∃ (j i : Nat) (q : Int), j ≤ m ∧ i + j + 1 = k ∧ q = bal ((P.take k).drop (k - j)) ∧ -1 ≤ q ∧ q ≤ j ∧ need = .int .i64 (q + 1) ∧ at_ = .int .i64 i ∧ wr = w) (fun _ i _ => (intOf i).toNat)
  case atStart => exact ⟨0, k - 1, 0, Nat.zero_le _, by omega, HZ.out.symm, by omega, by omega, rfl, congrArg (Value.int .i64) (by omega), rfl⟩
  case round =>
    obtain ⟨j, i, q, hj, hij, hq, q0, q1, rfl, rfl, rfl⟩ := hrel
    have HQ : Hid _ := hq
    clear hq
    by_cases hlt : j < m
    · have hq0 : 0 ≤ q := by have := (HNE.out j hj).1 hlt; rw [HQ.out]; exact this
      have hpos : 0 < q + 1 := by omega
      have hilt : i < P.length := by omega
      have hiltI : (i : Int) < (P.length : Int) := by omega
      obtain ⟨b1, o1, sa, sc, rfl, l1, h0, h1, -⟩ := HA.out i hilt
      obtain ⟨ar, har⟩ : ∃ ar, ar = arity (nd P i).1 := ⟨_, rfl⟩
      have hbd := arity_bd (nd P i).1
      rw [← har] at hbd
      have HNX : Hid (q + ar - 1 = bal ((P.take k).drop (k - (j + 1)))) := by
        show q + ar - 1 = _
        rw [HST.out j hlt, ← HQ.out, show k - 1 - j = i by omega, ← har]
        omega
      have HNB : Hid (-1 ≤ q + ar - 1) := by
        show -1 ≤ q + ar - 1
        by_cases h2 : j + 1 < m
        · have := (HNE.out (j + 1) (by omega)).1 h2; rw [HNX.out]; omega
        · have := (HNE.out (j + 1) (by omega)).2 (by omega); rw [HNX.out]; omega
      have HAR : Hid _ := har
      clear har h1
      go_wp2_with fail
      refine (sar_any (nd P i).1 _).mono ?_
      rintro e w1 ⟨rfl, rfl⟩
      rw [← HAR.out]
      go_wp2
      go_roundw
      case rel => exact ⟨j + 1, i - 1, q + ar - 1, by omega, by omega, HNX.out, HNB.out, by omega, by first | rfl | (exact congrArg (Value.int .i64) (by omega)) | go_num, by first | (exact congrArg (Value.int .i64) (by omega)) | go_num, by first | rfl | trivial⟩
      case measure => simp [intOf]; omega
    · have hjm : j = m := by omega
      have hq1 : q = -1 := by rw [HQ.out]; exact (HNE.out j hj).2 hjm
      subst hq1
      go_wp2
      go_ret
      exact ⟨by first | rfl | (exact congrArg (fun z => Ending.returned (Value.int .i64 z)) (by omega)), rfl⟩
end Go.Proofs.Ytkbijnojmfplpaa
namespace Go.Proofs.Ytkbijnojmfplpaa
open Go.ChangeShapes Go.WideShapes Go.ChangeAt Go.RowKit
theorem fl2_set2 : ∀ (Q : List (Int × Value)) (j : Nat) (u : Value), (fl2 Q).set (j * 2 + 1) u = fl2 (Q.set j ((qd Q j).1, u))
  | [], j, u => by simp [fl2]
  | q :: r, 0, u => by simp [fl2, qd]
  | q :: r, j + 1, u => by
    have := fl2_set2 r j u
    rw [show (j + 1) * 2 + 1 = (j * 2 + 1) + 1 + 1 by omega]
    simpa [fl2, qd] using this
theorem made_fl2 (n : Nat) : (madeCells #[.int .i64 0, .slice none 0 0] (n * 2)).toList = fl2 (List.replicate n (0, .slice none 0 0)) := by
  apply List.ext_getElem?
  intro i
  by_cases h : i < n * 2
  · have hl : i < (madeCells #[.int .i64 0, .slice none 0 0] (n * 2)).size := by rw [size_madeCells]; exact h
    rw [Array.getElem?_toList, Array.getElem?_eq_getElem hl]
    have hq : qd (List.replicate n ((0 : Int), Value.slice none 0 0)) (i / 2) = (0, .slice none 0 0) := by
      simp [qd, List.getD, show i / 2 < n by omega]
    have h2 := fl2_at (List.replicate n ((0 : Int), Value.slice none 0 0)) (i / 2) (by simp; omega)
    rw [hq] at h2
    rcases Nat.mod_two_eq_zero_or_one i with e | e
    · have e' : i / 2 * 2 = i := by omega
      rw [e'] at h2
      rw [h2.1]
      simp [madeCells, e]
    · have e' : i / 2 * 2 + 1 = i := by omega
      rw [e'] at h2
      rw [h2.2]
      simp [madeCells, e]
  · rw [List.getElem?_eq_none (by simp [size_madeCells]; omega), List.getElem?_eq_none (by rw [fl2_len]; simp; omega)]
/-- Nothing below base and nothing from top on has turned. -/
def MidT (base top : Nat) (w w' : World) : Prop := Below base w w' ∧ ∀ g, top ≤ g → g < w.heap.size → w'.heap[g]? = w.heap[g]?
theorem MidT.refl (base top : Nat) (w : World) : MidT base top w w := ⟨Below.refl _ _, fun _ _ _ => rfl⟩
theorem MidT.trans {base top : Nat} {a b c : World} (h : MidT base top a b) (k : MidT base top b c) : MidT base top a c :=
  ⟨h.1.trans k.1, fun g hg hl => (k.2 g hg (Nat.lt_of_lt_of_le hl h.1.size)).trans (h.2 g hg hl)⟩
theorem MidT.grown {base top : Nat} {w w' : World} {row : Option Nat} (hg : w.grownBy w' row) (hb : base ≤ w.heap.size) (hr : ∀ g, row = some g → base ≤ g ∧ g < top) : MidT base top w w' :=
  ⟨Below.grown (Below.refl _ _) hg hb (fun g e => (hr g e).1), fun g ht hl => hg.block g hl (fun e => by have := hr g e.symm; omega)⟩
theorem own_midT {base top b : Nat} {w w' : World} (h : MidT base top w w') {e : TypeId} {size : Nat} {v : Value} {n : Nat} {xs : List Value} (ho : w.ownsRow b e size v n xs) (hb : top ≤ b) : w'.ownsRow b e size v n xs := by
  refine ⟨ho.1, ?_⟩
  rcases ho.2 with h2 | ⟨g, cap, cur, h1, h2, h3, h4⟩
  · exact .inl h2
  · exact .inr ⟨g, cap, cur, h1, h2, by rw [h.2 g (by omega) (Array.getElem?_eq_some_iff.1 h3).1]; exact h3, h4⟩
/-- Nodes that lie behind. -/
theorem OwnF.mid {w w' : World} {base top b : Nat} {v : Value} {n : Nat} {f : Nat → Nd} (h : OwnF w b v n f) (hm : MidT base top w w') (hb : top ≤ b) : OwnF w' b v n f := by
  obtain ⟨Q, hQ, hr, hs, ha⟩ := h
  exact ⟨Q, hQ, own_midT hm hr hb, fun j hj => ⟨(hs j hj).1, own_midT hm (hs j hj).2 hb⟩, ha⟩
/-- Nodes in memory of their own that ends ahead of top. -/
def OwnT (w : World) (base top : Nat) (v : Value) (n : Nat) (f : Nat → Nd) : Prop :=
  ∃ Q : List (Int × Value), Q.length = n ∧ w.ownsRow base 60 2 v n (fl2 Q) ∧ (∀ j, j < n → (qd Q j).1 = (f j).1 ∧ w.ownsRow base 3 1 (qd Q j).2 (f j).2.length (ints (f j).2)) ∧
    (∀ i j, i < n → j < n → i ≠ j → (qd Q i).2.ownBlock = none ∨ (qd Q i).2.ownBlock ≠ (qd Q j).2.ownBlock) ∧ (∀ g, v.ownBlock = some g → g < top) ∧ ∀ j, j < n → ∀ g, (qd Q j).2.ownBlock = some g → g < top
theorem OwnF.top {w : World} {base : Nat} {v : Value} {n : Nat} {f : Nat → Nd} (h : OwnF w base v n f) : OwnT w base w.heap.size v n f := by
  obtain ⟨Q, hQ, hr, hs, ha⟩ := h
  exact ⟨Q, hQ, hr, hs, ha, fun g hg => (World.ownsRow.lt hr g hg).2, fun j hj g hg => (World.ownsRow.lt (hs j hj).2 g hg).2⟩
theorem OwnT.f {w : World} {base top : Nat} {v : Value} {n : Nat} {f : Nat → Nd} (h : OwnT w base top v n f) : OwnF w base v n f := by
  obtain ⟨Q, hQ, hr, hs, ha, -, -⟩ := h
  exact ⟨Q, hQ, hr, hs, ha⟩
theorem OwnT.keepB {w w' : World} {base top : Nat} {v : Value} {n : Nat} {f : Nat → Nd} (h : OwnT w base top v n f) (hb : Below w.heap.size w w') : OwnT w' base top v n f := by
  obtain ⟨Q, hQ, hr, hs, ha, r⟩ := h
  exact ⟨Q, hQ, World.ownsRow.keepB hr hb, fun j hj => ⟨(hs j hj).1, World.ownsRow.keepB (hs j hj).2 hb⟩, ha, r⟩
theorem OwnT.cast {w : World} {base top : Nat} {v : Value} {n : Nat} {f f' : Nat → Nd} (h : OwnT w base top v n f) (he : ∀ j, j < n → f j = f' j) : OwnT w base top v n f' := by
  obtain ⟨Q, hQ, hr, hs, r⟩ := h
  exact ⟨Q, hQ, hr, fun j hj => by rw [← he j hj]; exact hs j hj, r⟩
/-- Node i is turned. -/
theorem OwnT.mark {w w2 : World} {base top g cap : Nat} {n : Nat} {f : Nat → Nd} (i : Nat) (hi : i < n) (x : Int) (s : List Int) (Q : List (Int × Value)) (hQ : Q.length = n) (hr : w.ownsRow base 60 2 (.slice (some ⟨g, 0, none⟩) n cap) n (fl2 Q))
    (hs : ∀ j, j < n → (qd Q j).1 = (f j).1 ∧ w.ownsRow base 3 1 (qd Q j).2 (f j).2.length (ints (f j).2)) (ha : ∀ i j, i < n → j < n → i ≠ j → (qd Q i).2.ownBlock = none ∨ (qd Q i).2.ownBlock ≠ (qd Q j).2.ownBlock)
    (hv : g < top) (hq : ∀ j, j < n → ∀ g, (qd Q j).2.ownBlock = some g → g < top)
    (ho : w2.ownsRow base 3 1 (qd Q i).2 s.length (ints s)) (hg : (w.setCell ⟨g, i * 2, none⟩ (.int .i64 x)).grownBy w2 (qd Q i).2.ownBlock) : OwnT w2 base top (.slice (some ⟨g, 0, none⟩) n cap) n (fun j => if j = i then (x, s) else f j) := by
  have st := World.ownsRow.stored hr (i * 2) (.int .i64 x)
  rw [fl2_set] at st
  have set1 : ∀ j, j < n → (w.setCell ⟨g, i * 2, none⟩ (.int .i64 x)).ownsRow base 3 1 (qd Q j).2 (f j).2.length (ints (f j).2) := fun j hj => World.ownsRow.kept (hs j hj).2 st.2 (kinds_apart' hr (hs j hj).2)
  have sec : ∀ j, (qd (Q.set i (x, (qd Q i).2)) j).2 = (qd Q j).2 := fun j => by
    rw [qd_set Q i j _ (by omega)]
    split
    · rename_i e; subst e; rfl
    · rfl
  refine ⟨Q.set i (x, (qd Q i).2), by simp [hQ], World.ownsRow.kept st.1 hg (kinds_apart st.1 (set1 i hi)), fun j hj => ?_, fun a b ha' hb' hab => ?_, fun g' hg' => by simp [Value.ownBlock] at hg'; omega, fun j hj g' hg' => ?_⟩
  · rw [qd_set Q i j _ (by omega)]
    dsimp only
    by_cases e : j = i
    · subst e
      rw [if_pos rfl, if_pos rfl]
      exact ⟨rfl, ho⟩
    · rw [if_neg (fun h => e h.symm), if_neg e]
      exact ⟨(hs j hj).1, World.ownsRow.kept (set1 j hj) hg (ha j i hj hi e)⟩
  · rw [sec a, sec b]
    exact ha a b ha' hb' hab
  · rw [sec j] at hg'
    exact hq j hj g' hg'
/-- Node k is laid. -/
theorem OwnF.lay {w : World} {base g cap : Nat} {n : Nat} {f : Nat → Nd} (k : Nat) (hk : k < n) (x : Nd) (u : Value) (Q : List (Int × Value)) (hQ : Q.length = n) (hr : w.ownsRow base 60 2 (.slice (some ⟨g, 0, none⟩) n cap) n (fl2 Q))
    (hs : ∀ j, j < n → (qd Q j).1 = (f j).1 ∧ w.ownsRow base 3 1 (qd Q j).2 (f j).2.length (ints (f j).2)) (ha : ∀ i j, i < n → j < n → i ≠ j → (qd Q i).2.ownBlock = none ∨ (qd Q i).2.ownBlock ≠ (qd Q j).2.ownBlock)
    (hu : w.ownsRow base 3 1 u x.2.length (ints x.2)) (hn : ∀ j, j < n → (qd Q j).2.ownBlock = none ∨ (qd Q j).2.ownBlock ≠ u.ownBlock) :
    OwnF ((w.setCell ⟨g, k * 2, none⟩ (.int .i64 x.1)).setCell ⟨g, k * 2 + 1, none⟩ u) base (.slice (some ⟨g, 0, none⟩) n cap) n (fun j => if j = k then x else f j) := by
  have st := World.ownsRow.stored hr (k * 2) (.int .i64 x.1)
  rw [fl2_set] at st
  have st2 := World.ownsRow.stored st.1 (k * 2 + 1) u
  rw [fl2_set2] at st2
  have hq1 : (qd (Q.set k (x.1, (qd Q k).2)) k).1 = x.1 := by rw [qd_set Q k k _ (by omega), if_pos rfl]
  rw [hq1, List.set_set] at st2
  have keep : ∀ {v' : Value} {m : Nat} {xs : List Value}, w.ownsRow base 3 1 v' m xs → ((w.setCell ⟨g, k * 2, none⟩ (.int .i64 x.1)).setCell ⟨g, k * 2 + 1, none⟩ u).ownsRow base 3 1 v' m xs := fun {v' m xs} h => by
    have h1 := World.ownsRow.kept h st.2 (kinds_apart' hr h)
    exact World.ownsRow.kept h1 st2.2 (kinds_apart' st.1 h1)
  refine ⟨Q.set k (x.1, u), by simp [hQ], st2.1, fun j hj => ?_, fun a b ha' hb' hab => ?_⟩
  · rw [qd_set Q k j _ (by omega)]
    dsimp only
    by_cases e : j = k
    · subst e
      rw [if_pos rfl, if_pos rfl]
      exact ⟨rfl, keep hu⟩
    · rw [if_neg (fun h => e h.symm), if_neg e]
      exact ⟨(hs j hj).1, keep (hs j hj).2⟩
  · rw [qd_set Q k a _ (by omega), qd_set Q k b _ (by omega)]
    by_cases e1 : k = a
    · subst e1
      rw [if_pos rfl, if_neg hab]
      show u.ownBlock = none ∨ u.ownBlock ≠ (qd Q b).2.ownBlock
      by_cases hub : u.ownBlock = none
      · exact .inl hub
      · rcases hn b hb' with h | h
        · exact .inr (fun e => hub (e.trans h))
        · exact .inr (fun e => h e.symm)
    · rw [if_neg e1]
      by_cases e2 : k = b
      · subst e2
        rw [if_pos rfl]
        exact hn a ha'
      · rw [if_neg e2]
        exact ha a b ha' hb' hab
theorem make_resF (w : World) (n : Nat) (hn : n ≤ 1048576) : ∃ w', (Instr.makeSlice 27 (.int .i64 (n : Int)) (.int .i64 (n : Int))).run Try.prog w = .ok (.slice (some ⟨w.heap.size, 0, none⟩) n n) w' ∧
    OwnF w' w.heap.size (.slice (some ⟨w.heap.size, 0, none⟩) n n) n (fun _ => (0, [])) ∧ Below w.heap.size w w' := by
  have hinfo : ∃ i, Try.prog.info? 60 = some i ∧ i.zero = some (.agg #[.int .i64 0, .slice none 0 0]) ∧ i.size = 2 ∧ i.bytes = 32 := by
    have h : (Try.prog.info? 60).map (fun i => (i.zero, i.size, i.bytes)) = some (some (.agg #[.int .i64 0, .slice none 0 0]), 2, 32) := by kernel_rfl
    cases hi : Try.prog.info? 60 with
    | none => rw [hi] at h; cases h
    | some i =>
      rw [hi] at h
      simp only [Option.map_some, Option.some.injEq, Prod.mk.injEq] at h
      exact ⟨i, rfl, h.1, h.2.1, h.2.2⟩
  obtain ⟨i0, hi, hz0, hz1, hz2⟩ := hinfo
  obtain ⟨w1, h1, h2, h3⟩ := run_make_full (P := Try.prog) w w.heap.size 27 60 i0 (.agg #[.int .i64 0, .slice none 0 0]) 2 Try.underlying27 hi hz0 hz1 .i64 .i64 n (by rw [hz2]; omega) (by unfold maxLen; omega) (Nat.le_refl _)
  have hb : Below w.heap.size w w1 := Below.grown (Below.refl _ _) h3 (Nat.le_refl _) (fun g hg => by cases hg)
  rw [show (Value.agg #[Value.int .i64 0, Value.slice none 0 0]).cells = #[Value.int .i64 0, Value.slice none 0 0] from rfl, made_fl2] at h2
  have hq : ∀ j, j < n → qd (List.replicate n ((0 : Int), Value.slice none 0 0)) j = (0, .slice none 0 0) := fun j hj => by simp [qd, List.getD, hj]
  exact ⟨w1, h1, ⟨_, by simp, h2, fun j hj => by rw [hq j hj]; exact ⟨rfl, World.ownsRow_nil _ _ _ _⟩, fun i j hi hj _ => by rw [hq i hi]; exact .inl rfl⟩, hb⟩
set_option maxRecDepth 100000 in
set_option maxHeartbeats 2000000 in
theorem toReT_any (P : List Nd) (ao : Option Addr) (cap : Nat) (w : World) (hl : szP P ≤ 1048576) (hA : ResAt w ao P) :
    Calls Try.prog 13 #[.slice ao P.length cap] w fun e w' => ∃ v, e = .returned v ∧ OwnF w' w.heap.size v P.length (nd P) ∧ Below w.heap.size w w' := by
  have hpl : P.length ≤ 1048576 := by unfold szP at hl; omega
  obtain ⟨w1, hmk, how, hb1⟩ := make_resF w P.length hpl
  have HA : Hid _ := hA
  have HL : Hid _ := hl
  have HO : Hid (OwnF w1 w.heap.size (.slice (some ⟨w.heap.size, 0, none⟩) P.length P.length) P.length (fun _ => (0, []))) := how
  have HB : Hid _ := hb1
  clear hA hl how hb1
  go_enter Try.func13, Try.ntmps13
  go_wp2
  go_loopw [4] (fun i wr => ∃ k : Nat, k ≤ P.length ∧ i = .int .i64 k ∧ OwnF wr w.heap.size (.slice (some ⟨w.heap.size, 0, none⟩) P.length P.length) P.length (fun j => if j < k then nd P j else (0, [])) ∧ Below w.heap.size w wr) (fun i _ => P.length - (intOf i).toNat)
  case atStart => exact ⟨0, Nat.zero_le _, rfl, OwnF.cast HO.out (fun j _ => by simp), HB.out⟩
  case round =>
    obtain ⟨k, hk, rfl, hrow, hbw⟩ := hrel
    have HR : Hid (OwnF wr w.heap.size (.slice (some ⟨w.heap.size, 0, none⟩) P.length P.length) P.length (fun j => if j < k then nd P j else (0, []))) := hrow
    have BW0 : Hid _ := hbw
    clear hrow hbw
    by_cases hlt : k < P.length
    · have hltI : (k : Int) < (P.length : Int) := by omega
      obtain ⟨b1, o1, sa, sc, rfl, l1, h0, h1, iS⟩ := HA.out k hlt
      have hls : (nd P k).2.length ≤ 1048576 := Nat.le_trans (nd_len P k hlt) HL.out
      have g0 : wr.cell? ⟨b1, o1 + k * 2, none⟩ = some (.int .i64 (nd P k).1) := (BW0.out.cell (p := ⟨b1, o1 + k * 2, none⟩) l1).trans h0
      have g1 : wr.cell? ⟨b1, o1 + k * 2 + 1, none⟩ = some (.slice sa (nd P k).2.length sc) := (BW0.out.cell (p := ⟨b1, o1 + k * 2 + 1, none⟩) l1).trans h1
      have IS : Hid _ := IntsAt.keepB iS BW0.out
      clear h0 h1 iS
      go_wp2_with fail
      refine (toRe_any (nd P k) sa sc _ hls IS.out).mono ?_
      rintro e w2 ⟨v, rfl, ox, b2⟩
      obtain ⟨Q, hQ, hr, hs, ha⟩ := HR.out
      have hnew : ∀ j, j < P.length → (qd Q j).2.ownBlock = none ∨ (qd Q j).2.ownBlock ≠ v.ownBlock := fun j hj => by
        cases hv : (qd Q j).2.ownBlock with
        | none => exact .inl rfl
        | some g =>
          have h1 := (World.ownsRow.lt (hs j hj).2 g hv).2
          exact .inr fun e => by have h2 := (World.ownsRow.lt ox g e.symm).1; omega
      have hr2 := World.ownsRow.keepB hr b2
      have hlt2 : w.heap.size ≤ wr.heap.size := BW0.out.size
      have OX : w2.ownsRow w.heap.size 3 1 v (nd P k).2.length (ints (nd P k).2) := own_mono ox hlt2
      have B2 : Hid (Below w.heap.size w w2) := BW0.out.trans (b2.mono hlt2)
      have HPUT : Hid (OwnF ((w2.setCell ⟨w.heap.size, k * 2, none⟩ (.int .i64 (nd P k).1)).setCell ⟨w.heap.size, k * 2 + 1, none⟩ v) w.heap.size (.slice (some ⟨w.heap.size, 0, none⟩) P.length P.length) P.length (fun j => if j = k then nd P k else if j < k then nd P j else (0, []))) := OwnF.lay k hlt (nd P k) v Q hQ hr2 (fun j hj => ⟨(hs j hj).1, World.ownsRow.keepB (hs j hj).2 b2⟩) ha OX hnew
      have hf := fl2_at Q k (by omega)
      have d1 := (World.ownsRow.cellAt hr2 (k * 2) (by omega)).trans hf.1
      have d2 := (World.ownsRow.cellAt hr2 (k * 2 + 1) (by omega)).trans hf.2
      have z1 := hr2.frozenAt (k * 2)
      have z2 := hr2.frozenAt (k * 2 + 1)
      have d2' : (w2.setCell ⟨w.heap.size, k * 2, none⟩ (.int .i64 (nd P k).1)).cell? ⟨w.heap.size, k * 2 + 1, none⟩ = some (qd Q k).2 := (set_other _ _ _ _ _ _ (by omega)).trans d2
      have z2' : (w2.setCell ⟨w.heap.size, k * 2, none⟩ (.int .i64 (nd P k).1)).frozen? ⟨w.heap.size, k * 2 + 1, none⟩ = false := (World.frozen?_setCell _ _ _ _).trans z2
      obtain ⟨-, va, vc, rfl, -⟩ := ints_of_own ox
      clear b2 ox g0 g1 hr hs ha hr2 hnew hQ hf OX
      generalize (qd Q k).2 = uu at d2 d2'
      generalize (qd Q k).1 = uo at d1
      go_wp2
      go_roundw
      case rel =>
        refine ⟨k + 1, by omega, by go_num, OwnF.cast HPUT.out (fun j _ => ?_), Below.grown (Below.grown B2.out (grown_set w2 w.heap.size (k * 2) _) B2.out.size (fun g e => by have := Option.some.inj e; omega)) (grown_set _ w.heap.size (k * 2 + 1) _) (by have := B2.out.size; simpa [World.setCell] using this) (fun g e => by have := Option.some.inj e; omega)⟩
        by_cases e : j = k
        · subst e; simp
        · simp only [e, if_false]
          by_cases h : j < k
          · rw [if_pos h, if_pos (by omega)]
          · rw [if_neg h, if_neg (by omega)]
      case measure => simp [intOf]; omega
    · obtain rfl : k = P.length := by omega
      go_wp2
      go_ret
      exact ⟨_, rfl, OwnF.cast HR.out (fun j hj => by rw [if_pos hj]), BW0.out⟩
set_option maxRecDepth 100000 in
set_option maxHeartbeats 2000000 in
theorem markT_any (P : List Nd) (v : Value) (base top : Nat) (w : World) (hl : szP P ≤ 1048576) (h : OwnT w base top v P.length (nd P)) :
    Calls Try.prog 22 #[v, .int .i64 1] w fun e w' => e = .returned (.int .i64 (1 + szP P)) ∧ OwnT w' base top v P.length (mkR P) ∧ MidT base top w w' := by
  have hpl : P.length ≤ 1048576 := by unfold szP at hl; omega
  obtain ⟨ao, cap, rfl, -⟩ := h.f.form
  have HO : Hid (OwnT w base top (.slice ao P.length cap) P.length (nd P)) := h
  have HL : Hid _ := hl
  clear h hl
  go_enter Try.func22, Try.ntmps22
  go_wp2
  go_loopw [1, 5] (fun c i wr => ∃ k : Nat, k ≤ P.length ∧ i = .int .i64 k ∧ c = .int .i64 (cntR P k) ∧ OwnT wr base top (.slice ao P.length cap) P.length (fun j => if j < k then mkR P j else nd P j) ∧ MidT base top w wr) (fun _ i _ => P.length - (intOf i).toNat)
  case atStart => exact ⟨0, Nat.zero_le _, rfl, by simp [cntR, szK], HO.out.cast (fun j _ => by simp), MidT.refl _ _ _⟩
  case round =>
    obtain ⟨k, hk, rfl, rfl, hown, hbw⟩ := hrel
    obtain ⟨hc0, hc1⟩ := cntR_bd P k hk
    have BW0 : Hid _ := hbw
    have hc2 : cntR P k ≤ 1048577 := by have := HL.out; omega
    clear hc1 hbw
    by_cases hlt : k < P.length
    · have hltI : (k : Int) < (P.length : Int) := by omega
      have hls : (nd P k).2.length ≤ 1048576 := Nat.le_trans (nd_len P k hlt) HL.out
      obtain ⟨Q, hQ, hr, hs, ha, hv, hq⟩ := hown
      rcases hr.2 with ⟨-, h0⟩ | ⟨g, cap', cur, hv', h2, h3, -⟩
      · omega
      simp only [Value.slice.injEq, true_and] at hv'
      obtain ⟨rfl, rfl⟩ := hv'
      have hgt : g < top := hv g rfl
      have hf := fl2_at Q k (by omega)
      have c0 := (World.ownsRow.cellAt hr (k * 2) (by omega)).trans hf.1
      have c1 := (World.ownsRow.cellAt hr (k * 2 + 1) (by omega)).trans hf.2
      have fz := hr.frozenAt (k * 2)
      have hgl : g < wr.heap.size := (Array.getElem?_eq_some_iff.1 h3).1
      have st := World.ownsRow.stored hr (k * 2) (.int .i64 (cntR P k))
      have sk : (wr.setCell ⟨g, k * 2, none⟩ (.int .i64 (cntR P k))).ownsRow base 3 1 (qd Q k).2 (nd P k).2.length (ints (nd P k).2) := by
        have := (hs k hlt).2
        simp only [Nat.lt_irrefl, if_false] at this
        exact World.ownsRow.kept this st.2 (kinds_apart' hr this)
      have c1' : (wr.setCell ⟨g, k * 2, none⟩ (.int .i64 (cntR P k))).cell? ⟨g, k * 2 + 1, none⟩ = some (qd Q k).2 := (set_other _ _ _ _ _ _ (by omega)).trans c1
      have HMARK : Hid (Calls Try.prog 38 #[(qd Q k).2, .int .i64 (cntR P k + 1)] (wr.setCell ⟨g, k * 2, none⟩ (.int .i64 (cntR P k))) fun e w' => e = .returned (.int .i64 (cntR P k + 1 + (nd P k).2.length)) ∧ w'.ownsRow base 3 1 (qd Q k).2 (nd P k).2.length (ints (mk2 (nd P k).2 (cntR P k + 1) (nd P k).2.length)) ∧ (wr.setCell ⟨g, k * 2, none⟩ (.int .i64 (cntR P k))).grownBy w' (qd Q k).2.ownBlock) := mark_c (cntR P k + 1) (by omega) (by omega) (nd P k).2 (qd Q k).2 _ base _ hls sk
      have HFIN : Hid (∀ w2, w2.ownsRow base 3 1 (qd Q k).2 (mk2 (nd P k).2 (cntR P k + 1) (nd P k).2.length).length (ints (mk2 (nd P k).2 (cntR P k + 1) (nd P k).2.length)) → (wr.setCell ⟨g, k * 2, none⟩ (.int .i64 (cntR P k))).grownBy w2 (qd Q k).2.ownBlock → OwnT w2 base top (.slice (some ⟨g, 0, none⟩) P.length cap) P.length (fun j => if j = k then (cntR P k, mk2 (nd P k).2 (cntR P k + 1) (nd P k).2.length) else (if j < k then mkR P j else nd P j))) := fun w2 ho hg => OwnT.mark k hlt (cntR P k) _ Q hQ hr hs ha hgt hq ho hg
      have hsz : (wr.setCell ⟨g, k * 2, none⟩ (.int .i64 (cntR P k))).heap.size = wr.heap.size := by simp [World.setCell]
      have hle1 : base ≤ wr.heap.size := Nat.le_trans h2 (Nat.le_of_lt hgl)
      have bel1 : MidT base top w (wr.setCell ⟨g, k * 2, none⟩ (.int .i64 (cntR P k))) := MidT.trans BW0.out (MidT.grown (grown_set wr g (k * 2) _) hle1 (fun g' e => by have := Option.some.inj e; omega))
      have HBK : Hid (∀ w2 : World, (wr.setCell ⟨g, k * 2, none⟩ (.int .i64 (cntR P k))).grownBy w2 (qd Q k).2.ownBlock → MidT base top w w2) := fun w2 hg => MidT.trans bel1 (MidT.grown hg (by omega) (fun g' e => ⟨(World.ownsRow.lt sk g' e).1, hq k hlt g' e⟩))
      have HST : Hid _ := cntR_step P k hlt
      clear hf hr hs ha h3 sk st hQ hsz hle1 bel1 hv hq hgt
      obtain ⟨u, hu⟩ : ∃ u, (qd Q k).2 = u := ⟨_, rfl⟩
      rw [hu] at c1 c1' HMARK HFIN HBK
      clear hu
      go_wp2_with fail
      refine Calls.mono HMARK.out ?_
      rintro e w2 ⟨rfl, og, gr⟩
      have O2 : Hid (OwnT w2 base top (.slice (some ⟨g, 0, none⟩) P.length cap) P.length (fun j => if j = k then (cntR P k, mk2 (nd P k).2 (cntR P k + 1) (nd P k).2.length) else (if j < k then mkR P j else nd P j))) := HFIN.out w2 (by rw [mk2_len]; exact og) gr
      have B2 : Hid _ := HBK.out w2 gr
      clear og gr HMARK HFIN HBK c0 c1 c1' fz
      go_wp2
      go_roundw
      case rel =>
        refine ⟨k + 1, by omega, by go_num, by rw [HST.out], O2.out.cast (fun j _ => ?_), B2.out⟩
        by_cases e : j = k
        · subst e; simp [mkR]
        · simp only [e, if_false]
          by_cases h : j < k
          · rw [if_pos h, if_pos (by omega)]
          · rw [if_neg h, if_neg (by omega)]
      case measure => simp [intOf]; omega
    · obtain rfl : k = P.length := by omega
      have O2 : Hid (OwnT wr base top (.slice ao P.length cap) P.length (fun j => if j < P.length then mkR P j else nd P j)) := hown
      have HALL : Hid _ := cntR_all P
      clear hown
      go_wp2
      go_ret
      exact ⟨by rw [← HALL.out] <;> rfl, O2.out.cast (fun j hj => by rw [if_pos hj]), BW0.out⟩
end Go.Proofs.Ytkbijnojmfplpaa
namespace Go.Proofs.Ytkbijnojmfplpaa
open Go.ChangeShapes Go.WideShapes Go.ChangeAt Go.WideMaps Go.WideElems Go.RowKit
/-- The set of node k is laid anew. -/
theorem OwnF.put1 {w : World} {base g cap : Nat} {n : Nat} {f : Nat → Nd} (k : Nat) (hk : k < n) (s : List Int) (u : Value) (Q : List (Int × Value)) (hQ : Q.length = n) (hr : w.ownsRow base 60 2 (.slice (some ⟨g, 0, none⟩) n cap) n (fl2 Q))
    (hs : ∀ j, j < n → (qd Q j).1 = (f j).1 ∧ w.ownsRow base 3 1 (qd Q j).2 (f j).2.length (ints (f j).2)) (ha : ∀ i j, i < n → j < n → i ≠ j → (qd Q i).2.ownBlock = none ∨ (qd Q i).2.ownBlock ≠ (qd Q j).2.ownBlock)
    (hu : w.ownsRow base 3 1 u s.length (ints s)) (hn : ∀ j, j < n → (qd Q j).2.ownBlock = none ∨ (qd Q j).2.ownBlock ≠ u.ownBlock) :
    OwnF (w.setCell ⟨g, k * 2 + 1, none⟩ u) base (.slice (some ⟨g, 0, none⟩) n cap) n (fun j => if j = k then ((f k).1, s) else f j) := by
  have st := World.ownsRow.stored hr (k * 2 + 1) u
  rw [fl2_set2] at st
  have keep : ∀ {v' : Value} {m : Nat} {xs : List Value}, w.ownsRow base 3 1 v' m xs → (w.setCell ⟨g, k * 2 + 1, none⟩ u).ownsRow base 3 1 v' m xs := fun {v' m xs} h => World.ownsRow.kept h st.2 (kinds_apart' hr h)
  refine ⟨Q.set k ((qd Q k).1, u), by simp [hQ], st.1, fun j hj => ?_, fun a b ha' hb' hab => ?_⟩
  · rw [qd_set Q k j _ (by omega)]
    dsimp only
    by_cases e : j = k
    · subst e
      rw [if_pos rfl, if_pos rfl]
      exact ⟨(hs j hj).1, keep hu⟩
    · rw [if_neg (fun h => e h.symm), if_neg e]
      exact ⟨(hs j hj).1, keep (hs j hj).2⟩
  · rw [qd_set Q k a _ (by omega), qd_set Q k b _ (by omega)]
    by_cases e1 : k = a
    · subst e1
      rw [if_pos rfl, if_neg hab]
      show u.ownBlock = none ∨ u.ownBlock ≠ (qd Q b).2.ownBlock
      by_cases hub : u.ownBlock = none
      · exact .inl hub
      · rcases hn b hb' with h | h
        · exact .inr (fun e => hub (e.trans h))
        · exact .inr (fun e => h e.symm)
    · rw [if_neg e1]
      by_cases e2 : k = b
      · subst e2
        rw [if_pos rfl]
        exact hn a ha'
      · rw [if_neg e2]
        exact ha a b ha' hb' hab
theorem foldS_nil : foldS [] = [] := by rw [foldS, foldC_nil]; rfl
theorem foldS_len {s : List Int} (h : goodS s = true) : (foldS s).length ≤ 128 := by
  obtain ⟨C, hC⟩ := good4_of h
  obtain ⟨-, f2, -⟩ := foldK_facts ⟨hC.can, hC.top⟩ hC.le 26 (Nat.le_refl _)
  rw [foldS, flS_len, foldC_of hC]
  omega
theorem sum_le (L : List Nd) (m : Nat) (h : ∀ y ∈ L, y.2.length ≤ m) : (L.map fun x => x.2.length).sum ≤ L.length * m := by
  induction L with
  | nil => simp
  | cons x r ih =>
    have h1 := h x (by simp)
    have h2 := ih (fun y hy => h y (by simp [hy]))
    simp only [List.map_cons, List.sum_cons, List.length_cons, Nat.add_mul, Nat.one_mul]
    omega
theorem foldL_sz {P : List Nd} (h : goodP P = true) : szP (foldL P) ≤ 10000 := by
  have h40 := (goodP_parts h).1
  have := sum_le (foldL P) 128 (fun y hy => by
    obtain ⟨x, hx, rfl⟩ := List.mem_map.1 hy
    obtain ⟨j, hj, e⟩ := List.getElem_of_mem hx
    have e2 : nd P j = x := by simp [nd, List.getD, hj, e]
    exact foldS_len (by rw [← e2]; exact node_set_good (goodP_nodes h j hj)))
  rw [foldL_len] at this
  unfold szP
  rw [foldL_len]
  have : P.length * 128 ≤ 40 * 128 := Nat.mul_le_mul_right _ h40
  omega
theorem fold_flag {P : List Nd} (h : goodP P = true) : goodP (foldL P) = foldF P := by
  by_cases ho : ∀ j, j < P.length → okN (nd P j) = true
  · rw [fold_goodP_yes h ho, foldF_yes h ho]
  · obtain ⟨j, hj⟩ := Classical.not_forall.1 ho
    obtain ⟨h1, h2⟩ := Classical.not_imp.1 hj
    have h3 : okN (nd P j) = false := by simpa using h2
    rw [fold_goodP_no h h1 h3, foldF_no h1 h3]
/-- The list with the first k folded. -/
def foldAt (P : List Nd) (k j : Nat) : Nd := if j < k then nd (foldL P) j else nd P j
set_option maxRecDepth 100000 in
set_option maxHeartbeats 4000000 in
theorem sfoldRe_any (P : List Nd) (ao : Option Addr) (cap : Nat) (w : World) (hl : szP P ≤ 1048576) (hA : ResAt w ao P) :
    Calls Try.prog 28 #[.slice ao P.length cap] w fun e w' => ∃ v, e = .returned (.tuple #[v, .bool (foldF P)]) ∧ OwnF w' w.heap.size v (foldA P).length (nd (foldA P)) ∧ Below w.heap.size w w' := by
  have HG0 : Hid (Calls Try.prog 41 #[.slice ao P.length cap] w fun e w' => e = .returned (.bool (goodP P)) ∧ Below w.heap.size w w') := sgoodRe_any P ao cap w hl hA
  have HA : Hid (ResAt w ao P) := hA
  have HSET : Hid (∀ y ∈ P, y.2.length ≤ 1048576) := fun y hy => Nat.le_trans (mem_len P y hy) hl
  clear hA hl
  cases hg : goodP P
  · have HG : Hid (goodP P = false) := hg
    clear hg
    rw [HG.out] at HG0
    go_enter Try.func28, Try.ntmps28
    go_wp2_with fail
    refine Calls.mono HG0.out ?_
    rintro e w1 ⟨rfl, b1⟩
    have B1 : Hid (Below w.heap.size w w1) := b1
    clear b1
    go_wp2
    go_ret2
    have hf := foldF_bad HG.out
    rw [foldA_no hf, hf]
    exact ⟨_, rfl, own_none _ _ _, B1.out⟩
  · have HG : Hid (goodP P = true) := hg
    have h40 := (goodP_parts hg).1
    have hpos : 0 < P.length := by
      obtain ⟨-, h2⟩ := goodP_parts hg
      cases P with
      | nil => simp [pileK] at h2
      | cons x r => simp
    have HSZ : Hid (szP (foldL P) ≤ 1048576) := Nat.le_trans (foldL_sz hg) (by omega)
    clear hg
    rw [HG.out] at HG0
    go_enter Try.func28, Try.ntmps28
    go_wp2_with fail
    refine Calls.mono HG0.out ?_
    rintro e w1 ⟨rfl, b1⟩
    have B1 : Hid (Below w.heap.size w w1) := b1
    have hs1 := b1.size
    clear b1 HG0
    go_wp2_with fail
    refine (sown5_any P ao P.length cap rfl w1 (by omega) HSET.out (ResAt.keepB HA.out B1.out)).mono ?_
    rintro e w2 ⟨v2, rfl, o2, b2⟩
    have O2 : Hid (OwnF w2 w.heap.size v2 P.length (nd P)) := OwnF.mono o2 hs1
    have B2 : Hid (Below w.heap.size w w2) := B1.out.trans (b2.mono hs1)
    clear o2 b2
    obtain ⟨g, c2, hv2⟩ : ∃ g c2, v2 = .slice (some ⟨g, 0, none⟩) P.length c2 := by
      obtain ⟨Q, -, hr, -⟩ := O2.out
      rcases hr.2 with ⟨-, h⟩ | ⟨g, cap', cur, h, -⟩
      · omega
      · exact ⟨g, cap', h⟩
    subst hv2
    go_wp2
    go_loopw [14] (fun i wr => ∃ k : Nat, k ≤ P.length ∧ i = .int .i64 k ∧ OwnF wr w.heap.size (.slice (some ⟨g, 0, none⟩) P.length c2) P.length (foldAt P k) ∧ Below w.heap.size w wr) (fun i _ => P.length - (intOf i).toNat)
    case atStart => exact ⟨0, Nat.zero_le _, rfl, OwnF.cast O2.out (fun j _ => by simp [foldAt]), B2.out⟩
    case round =>
      obtain ⟨k, hk, rfl, hO, hbw⟩ := hrel
      have BW0 : Hid (Below w.heap.size w wr) := hbw
      have hsz := hbw.size
      by_cases hlt : k < P.length
      · have hltI : (k : Int) < (P.length : Int) := by omega
        have HO : Hid (OwnF wr w.heap.size (.slice (some ⟨g, 0, none⟩) P.length c2) P.length (foldAt P k)) := hO
        obtain ⟨Q, hQ, hr, hs, ha⟩ := hO
        have hf2 := fl2_at Q k (by omega)
        have d1 := (World.ownsRow.cellAt hr (k * 2) (by omega)).trans hf2.1
        have d2 := (World.ownsRow.cellAt hr (k * 2 + 1) (by omega)).trans hf2.2
        have hfk : foldAt P k k = nd P k := by simp [foldAt]
        have hsk := hs k hlt
        rw [hfk] at hsk
        rw [hsk.1] at d1
        have hgl : g < wr.heap.size := (World.ownsRow.lt hr g rfl).2
        have hgb : w.heap.size ≤ g := (World.ownsRow.lt hr g rfl).1
        obtain ⟨-, sa, sc, hqv, iS⟩ := ints_of_own hsk.2
        rw [hqv] at d2
        have hnb := goodP_nodes HG.out k hlt
        have hgs := node_set_good hnb
        have HND : Hid _ := nd_foldL P k hlt
        obtain ⟨C, hC⟩ := good4_of hgs
        have NE : Hid (∀ j, j ≠ k → (if j = k then ((nd P k).1, foldS (nd P k).2) else foldAt P k j) = foldAt P (k + 1) j) := fun j hj => by
          rw [if_neg hj]
          unfold foldAt
          by_cases e : j < k
          · rw [if_pos e, if_pos (by omega)]
          · rw [if_neg e, if_neg (by omega)]
        have EK : Hid (foldAt P (k + 1) k = ((nd P k).1, foldS (nd P k).2)) := by show _ = _; rw [foldAt, if_pos (by omega)]; exact HND.out
        by_cases h2 : (nd P k).1 = 2
        · have CALL : Hid (∀ o, Calls Try.prog 61 #[.slice sa (nd P k).2.length sc] (wr.alloc o) fun e w' => ∃ v, e = .returned v ∧ w'.ownsRow (wr.alloc o).heap.size 3 1 v (foldS (nd P k).2).length (ints (foldS (nd P k).2)) ∧ Below (wr.alloc o).heap.size (wr.alloc o) w') := fun o => by
            have h := sfoldS_any C sa sc (wr.alloc o) (nd P k).2.length (by rw [hC.fl]) ⟨hC.can, hC.top⟩ hC.le (by rw [hC.fl]; exact IntsAt.keepB iS (al_T wr o))
            rw [← foldC_of hC] at h
            exact h
          have HR : Hid (wr.ownsRow w.heap.size 60 2 (.slice (some ⟨g, 0, none⟩) P.length c2) P.length (fl2 Q)) := hr
          have HS : Hid _ := hs
          have HAp : Hid _ := ha
          have HQ : Hid _ := hQ
          have HFK : Hid _ := hfk
          rw [h2] at d1
          clear hr hs ha hQ hf2 hsk hqv iS hnb hgs hC hbw HO hfk
          go_wp2_with fail
          refine Calls.mono (CALL.out _) ?_
          rintro e w3 ⟨v3, rfl, o3, b3⟩
          have B3 : Below wr.heap.size wr w3 := (al_T _ _).trans (b3.mono (al_T _ _).size)
          have hr3 := World.ownsRow.keepB HR.out B3
          have O3 : w3.ownsRow w.heap.size 3 1 v3 (foldS (nd P k).2).length (ints (foldS (nd P k).2)) := own_mono o3 (Nat.le_trans hsz (al_T _ _).size)
          have hnew : ∀ j, j < P.length → (qd Q j).2.ownBlock = none ∨ (qd Q j).2.ownBlock ≠ v3.ownBlock := fun j hj => by
            cases hv : (qd Q j).2.ownBlock with
            | none => exact .inl rfl
            | some x =>
              have h1 := (World.ownsRow.lt (HS.out j hj).2 x hv).2
              exact .inr fun e => by have h2 := (World.ownsRow.lt o3 x e.symm).1; simp at h2; omega
          have PUT : Hid (OwnF (w3.setCell ⟨g, k * 2 + 1, none⟩ v3) w.heap.size (.slice (some ⟨g, 0, none⟩) P.length c2) P.length (fun j => if j = k then ((foldAt P k k).1, foldS (nd P k).2) else foldAt P k j)) := OwnF.put1 k hlt (foldS (nd P k).2) v3 Q HQ.out hr3 (fun j hj => ⟨(HS.out j hj).1, World.ownsRow.keepB (HS.out j hj).2 B3⟩) HAp.out O3 hnew
          have y0 : w3.cell? ⟨g, k * 2 + 1, none⟩ = some (.slice sa (nd P k).2.length sc) := (B3.cell (p := ⟨g, k * 2 + 1, none⟩) hgl).trans d2
          have y1 := hr3.frozenAt (k * 2 + 1)
          have BW3 : Hid (Below w.heap.size w w3) := BW0.out.trans (B3.mono hsz)
          obtain ⟨-, a3, c3, hv3, -⟩ := ints_of_own O3
          subst hv3
          clear o3 b3 B3 hr3 O3 hnew CALL
          go_wp2
          go_roundw
          case rel =>
            refine ⟨k + 1, by omega, by go_num, OwnF.cast PUT.out (fun j _ => ?_), Below.grown BW3.out (grown_set w3 g (k * 2 + 1) _) BW3.out.size (fun x e => by have := Option.some.inj e; omega)⟩
            by_cases e : j = k
            · subst e
              rw [if_pos rfl, EK.out, HFK.out]
            · have := NE.out j e
              rw [if_neg e] at this
              rw [if_neg e]
              exact this
          case measure => simp [intOf]; omega
        · have hse : (nd P k).2 = [] := by
            simp only [nodeB, Bool.and_eq_true, Bool.or_eq_true, decide_eq_true_eq] at hnb
            rcases hnb.1.2 with e | e
            · exact absurd e h2
            · simpa using e
          have EQ : Hid (∀ j, foldAt P k j = foldAt P (k + 1) j) := fun j => by
            by_cases e : j = k
            · subst e
              rw [EK.out, hfk, hse, foldS_nil]
              exact Prod.ext rfl hse
            · have := NE.out j e
              rw [if_neg e] at this
              exact this
          clear hr hs ha hQ hf2 hsk hqv iS hnb hgs hC hbw hfk hse
          go_wp2
          go_roundw
          case rel => exact ⟨k + 1, by omega, by go_num, OwnF.cast (OwnF.keepB HO.out (al_T _ _)) (fun j _ => EQ.out j), BW0.out.trans ((al_T _ _).mono hsz)⟩
          case measure => simp [intOf]; omega
      · obtain rfl : k = P.length := by omega
        have HO : Hid (OwnF wr w.heap.size (.slice (some ⟨g, 0, none⟩) P.length c2) P.length (nd (foldL P))) := OwnF.cast hO (fun j hj => by rw [foldAt, if_pos hj])
        have HO2 : Hid (OwnF wr w.heap.size (.slice (some ⟨g, 0, none⟩) P.length c2) (foldL P).length (nd (foldL P))) := by
          show OwnF _ _ _ _ _
          rw [foldL_len]
          exact HO.out
        obtain ⟨ag, cg, hvg, rg⟩ := OwnF.res HO2.out
        rw [foldL_len] at hvg
        simp only [Value.slice.injEq, true_and] at hvg
        obtain ⟨rfl, rfl⟩ := hvg
        have CALLG : Hid (Calls Try.prog 41 #[.slice (some ⟨g, 0, none⟩) P.length c2] wr fun e w' => e = .returned (.bool (foldF P)) ∧ Below wr.heap.size wr w') := by
          have := sgoodRe_any (foldL P) (some ⟨g, 0, none⟩) c2 wr HSZ.out rg
          rwa [foldL_len, fold_flag HG.out] at this
        clear hO hbw rg HO2
        cases hff : foldF P
        · rw [hff] at CALLG
          have HF : Hid _ := hff
          clear hff
          go_wp2_with fail
          refine Calls.mono CALLG.out ?_
          rintro e w9 ⟨rfl, b9⟩
          have B9 : Hid (Below w.heap.size w w9) := BW0.out.trans (b9.mono hsz)
          clear b9
          go_wp2
          go_ret2
          rw [foldA_no HF.out, show foldF P = false from HF.out]
          exact ⟨_, rfl, own_none _ _ _, B9.out⟩
        · rw [hff] at CALLG
          have HF : Hid _ := hff
          clear hff
          go_wp2_with fail
          refine Calls.mono CALLG.out ?_
          rintro e w9 ⟨rfl, b9⟩
          have B9 : Hid (Below w.heap.size w w9) := BW0.out.trans (b9.mono hsz)
          have HO9 : Hid (OwnF w9 w.heap.size (.slice (some ⟨g, 0, none⟩) P.length c2) P.length (nd (foldL P))) := OwnF.keepB HO.out b9
          clear b9
          go_wp2
          go_ret2
          rw [foldA_yes HF.out, foldL_len, show foldF P = true from HF.out]
          exact ⟨_, rfl, HO9.out, B9.out⟩
end Go.Proofs.Ytkbijnojmfplpaa
namespace Go.Proofs.Ytkbijnojmfplpaa
open Go.ChangeShapes Go.WideShapes Go.ChangeAt Go.WideMaps Go.WideElems Go.RowKit
namespace LawFoldRe
theorem own : ownKnob Try.prog.godebug = none := by kernel_rfl
theorem laidOut : laidOutB Try.prog = true := by kernel_rfl
theorem formC {w : World} {base : Nat} {v : Value} {P : List Nd} (h : OwnF w base v P.length (nd P)) : ∃ ao cap, v = .slice ao P.length cap ∧ P.length ≤ cap ∧ ResAt w ao P := by
  obtain ⟨ao, cap, hv, hr⟩ := OwnF.res h
  obtain ⟨Q, -, hq, -⟩ := h
  refine ⟨ao, cap, hv, ?_, hr⟩
  rcases hq.2 with ⟨e, e0⟩ | ⟨g, c, cur, e, -, -, hc, -⟩
  · omega
  · rw [hv] at e
    simp only [Value.slice.injEq] at e
    omega
set_option maxRecDepth 100000 in
set_option maxHeartbeats 8000000 in
theorem core (P : List Nd) (G : List Nd) (ok : Bool) (ao : Option Addr) (cap : Nat) (w : World) (hA : ResAt w ao P) (hl : P.length ≤ maxLen) (hx : ∀ y ∈ P, y.2.length ≤ maxLen) (hs : szP P ≤ 1048576) (hsG : szP G ≤ 1048576)
    (SP : ∀ (w : World) (ao : Option Addr) (cap : Nat), P.length ≤ cap → ResAt w ao P → Calls Try.prog 28 #[.slice ao P.length cap] w fun e w' => ∃ v, e = .returned (.tuple #[v, .bool ok]) ∧ OwnF w' w.heap.size v G.length (nd G) ∧ Below w.heap.size w w')
    (IM : ∀ (w : World) (ao : Option Addr) (cap : Nat), P.length ≤ cap → ResAt w ao P → Calls Try.prog 29 #[.slice ao P.length cap] w fun e w' => ∃ v, e = .returned (.tuple #[v, .bool ok]) ∧ OwnF w' w.heap.size v G.length (nd G) ∧ Below w.heap.size w w') :
    Calls Try.prog 8 #[.slice ao P.length cap] w fun e w' => e = .returned (.bool true) ∧ Below w.heap.size w w' := by
  have HA : Hid (ResAt w ao P) := hA
  have HS : Hid (szP P ≤ 1048576) := hs
  have HSG : Hid (szP G ≤ 1048576) := hsG
  have HSP : Hid _ := SP
  have HIM : Hid _ := IM
  have HSZ : Hid _ := szReS_any P ao cap w hl hx hA
  have bb : (ok == ok) = true := by simp
  have hq : ¬ (1 + (szP G : Int)) < 0 := by omega
  have hq1 : ¬ (1 + (szP P : Int)) < 0 := by omega
  have hz : ¬ (1048576 : Int) - (szP P : Int) < 0 := by omega
  have hpl : P.length ≤ 1048576 := by unfold szP at hs; omega
  have hgl : G.length ≤ 1048576 := by unfold szP at hsG; omega
  clear hA hl hx SP IM hsG
  go_enter Try.func8, Try.ntmps8
  go_wp2_with fail
  refine Calls.mono HSZ.out ?_
  rintro e w1 ⟨hs1, b⟩
  have B1 : Hid (Below w.heap.size w w1) := b
  clear b HSZ
  obtain rfl : e = .returned (.int .i64 (1048576 - szP P)) := by
    rcases hs1 with ⟨-, h⟩ | ⟨h, -⟩
    · exact h
    · omega
  clear hs1 hs
  obtain ⟨zP, hzP⟩ : ∃ z, z = szP P := ⟨_, rfl⟩
  obtain ⟨zG, hzG⟩ : ∃ z, z = szP G := ⟨_, rfl⟩
  rw [← hzP] at hz hq1
  rw [← hzG] at hq
  have HZP : Hid _ := hzP
  have HZG : Hid _ := hzG
  clear hzP hzG
  rw [← HZP.out]
  go_wp2_with fail
  refine (Calls.mono (toReT_any P ao cap _ HS.out (ResAt.keepB HA.out B1.out)) ?_)
  rintro e w2 ⟨vS, rfl, ox, b⟩
  have B2 : Hid (Below w.heap.size w w2) := B1.out.trans (b.mono B1.out.size)
  obtain ⟨aS, cS, rfl, hcS, rS⟩ := formC ox
  have RS : Hid (ResAt w2 aS P) := rS
  clear rS ox b B1
  go_wp2_with fail
  refine (Calls.mono (HSP.out _ _ _ hcS RS.out) ?_)
  rintro e w3 ⟨vW, rfl, oW, b⟩
  have B3 : Hid (Below w.heap.size w w3) := B2.out.trans (b.mono B2.out.size)
  have C3 : Hid (Below w3.heap.size w3 w3) := Below.refl _ _
  have hw3 : w.heap.size ≤ w3.heap.size := B3.out.size
  obtain ⟨aW, cW, hvW, rW⟩ := OwnF.res oW
  subst hvW
  have RW : Hid (ResAt w3 aW G) := rW
  clear rW oW b RS B2 hcS
  go_wp2_with fail
  refine (Calls.mono (toReT_any P ao cap _ HS.out (ResAt.keepB HA.out B3.out)) ?_)
  rintro e w4 ⟨vX, rfl, ox, b⟩
  have B4 : Hid (Below w.heap.size w w4) := B3.out.trans (b.mono B3.out.size)
  have C4 : Hid (Below w3.heap.size w3 w4) := C3.out.trans (b.mono C3.out.size)
  have X4 : Hid (OwnT w4 w3.heap.size w4.heap.size vX P.length (nd P)) := OwnF.top ox
  obtain ⟨aX, cX, hvX, hcX, rX⟩ := formC ox
  subst hvX
  have RX4 : Hid (ResAt w4 aX P) := rX
  have hw4 : w3.heap.size ≤ w4.heap.size := C4.out.size
  clear rX ox b B3 C3
  go_wp2_with fail
  refine (Calls.mono (HIM.out _ _ _ hcX RX4.out) ?_)
  rintro e w5 ⟨vG, rfl, oG, b⟩
  have B5 : Hid (Below w.heap.size w w5) := B4.out.trans (b.mono B4.out.size)
  have C5 : Hid (Below w3.heap.size w3 w5) := C4.out.trans (b.mono C4.out.size)
  have X5 : Hid (OwnT w5 w3.heap.size w4.heap.size (.slice aX P.length cX) P.length (nd P)) := OwnT.keepB X4.out b
  have G5 : Hid (OwnF w5 w4.heap.size vG G.length (nd G)) := oG
  obtain ⟨aG, cG, hvG, -⟩ := OwnF.res oG
  subst hvG
  clear oG b B4 C4 X4 RX4
  obtain ⟨aG', cG', hvG', rG'⟩ := OwnF.res G5.out
  simp only [Value.slice.injEq, true_and] at hvG'
  obtain ⟨rfl, rfl⟩ := hvG'
  have RG5 : Hid (ResAt w5 aG G) := rG'
  clear rG'
  go_wp2_with fail
  refine (Calls.mono (eqReS_any G _ _ _ _ _ HSG.out RG5.out (ResAt.keepB RW.out C5.out)) ?_)
  rintro e w6 ⟨rfl, b⟩
  have B6 : Hid (Below w.heap.size w w6) := B5.out.trans (b.mono B5.out.size)
  have C6 : Hid (Below w3.heap.size w3 w6) := C5.out.trans (b.mono C5.out.size)
  have X6 : Hid (OwnT w6 w3.heap.size w4.heap.size (.slice aX P.length cX) P.length (nd P)) := OwnT.keepB X5.out b
  have G6 : Hid (OwnF w6 w4.heap.size (.slice aG G.length cG) G.length (nd G)) := OwnF.keepB G5.out b
  clear b B5 C5 G5 X5 RG5
  go_wp2_with fail
  refine (Calls.mono (toReT_any P ao cap _ HS.out (ResAt.keepB HA.out B6.out)) ?_)
  rintro e w7 ⟨vZ, rfl, ox, b⟩
  have B7 : Hid (Below w.heap.size w w7) := B6.out.trans (b.mono B6.out.size)
  have C7 : Hid (Below w3.heap.size w3 w7) := C6.out.trans (b.mono C6.out.size)
  obtain ⟨aZ, cZ, rfl, -, rZ⟩ := formC ox
  have RZ : Hid (ResAt w7 aZ P) := rZ
  have X7 : Hid (OwnT w7 w3.heap.size w4.heap.size (.slice aX P.length cX) P.length (nd P)) := OwnT.keepB X6.out b
  have G7 : Hid (OwnF w7 w4.heap.size (.slice aG G.length cG) G.length (nd G)) := OwnF.keepB G6.out b
  clear b B6 C6 G6 X6 rZ ox
  obtain ⟨aX', cX', hvX', rX'⟩ := OwnF.res X7.out.f
  simp only [Value.slice.injEq, true_and] at hvX'
  obtain ⟨rfl, rfl⟩ := hvX'
  have RX7 : Hid (ResAt w7 aX P) := rX'
  clear rX'
  go_wp2_with fail
  refine (Calls.mono (eqReS_any P _ _ _ _ _ HS.out RX7.out RZ.out) ?_)
  rintro e w8 ⟨rfl, b⟩
  have B8 : Hid (Below w.heap.size w w8) := B7.out.trans (b.mono B7.out.size)
  have C8 : Hid (Below w3.heap.size w3 w8) := C7.out.trans (b.mono C7.out.size)
  have X8 : Hid (OwnT w8 w3.heap.size w4.heap.size (.slice aX P.length cX) P.length (nd P)) := OwnT.keepB X7.out b
  have G8 : Hid (OwnF w8 w4.heap.size (.slice aG G.length cG) G.length (nd G)) := OwnF.keepB G7.out b
  clear b B7 C7 G7 X7 RX7 RZ
  go_wp2_with fail
  refine (Calls.mono (markT_any P _ _ _ _ HS.out X8.out) ?_)
  rintro e w9 ⟨rfl, og, mid⟩
  rw [← HZP.out]
  have G9 : Hid (OwnF w9 w4.heap.size (.slice aG G.length cG) G.length (nd G)) := OwnF.mid G8.out mid (Nat.le_refl _)
  have C9 : Hid (Below w3.heap.size w3 w9) := C8.out.trans mid.1
  have B9 : Hid (Below w.heap.size w w9) := B8.out.trans (mid.1.mono hw3)
  clear og mid B8 C8 X8 G8
  obtain ⟨aG', cG', hvG', rG'⟩ := OwnF.res G9.out
  simp only [Value.slice.injEq, true_and] at hvG'
  obtain ⟨rfl, rfl⟩ := hvG'
  have RG9 : Hid (ResAt w9 aG G) := rG'
  clear rG'
  go_wp2_with fail
  refine (Calls.mono (eqReS_any G _ _ _ _ _ HSG.out RG9.out (ResAt.keepB RW.out C9.out)) ?_)
  rintro e w10 ⟨rfl, b⟩
  have B10 : Hid (Below w.heap.size w w10) := B9.out.trans (b.mono B9.out.size)
  have C10 : Hid (Below w3.heap.size w3 w10) := C9.out.trans (b.mono C9.out.size)
  have G10 : Hid (OwnF w10 w4.heap.size (.slice aG G.length cG) G.length (nd G)) := OwnF.keepB G9.out b
  clear b B9 C9 G9 RG9
  go_wp2_with fail
  refine (Calls.mono (markR_any G _ _ _ HSG.out G10.out) ?_)
  rintro e w11 ⟨rfl, og, b⟩
  rw [← HZG.out]
  have G11 : Hid (OwnF w11 w4.heap.size (.slice aG G.length cG) G.length (mkR G)) := og
  have C11 : Hid (Below w3.heap.size w3 w11) := C10.out.trans (b.mono hw4)
  have B11 : Hid (Below w.heap.size w w11) := B10.out.trans (b.mono (Nat.le_trans hw3 hw4))
  clear og b B10 C10 G10
  obtain ⟨aG', cG', hvG', rG'⟩ := OwnF.form G11.out
  simp only [Value.slice.injEq, true_and] at hvG'
  obtain ⟨rfl, rfl⟩ := hvG'
  have RF11 : Hid (ReF w11 aG G.length (mkR G)) := rG'
  clear rG'
  go_wp2_with fail
  refine (Calls.mono (heldR_any G _ _ _ HSG.out RF11.out) ?_)
  rintro e w12 ⟨rfl, b⟩
  have B12 : Hid (Below w.heap.size w w12) := B11.out.trans (b.mono B11.out.size)
  have C12 : Hid (Below w3.heap.size w3 w12) := C11.out.trans (b.mono C11.out.size)
  rw [← HZG.out]
  have G12 : Hid (OwnF w12 w4.heap.size (.slice aG G.length cG) G.length (mkR G)) := OwnF.keepB G11.out b
  clear b B11 C11 G11 RF11
  go_wp2_with fail
  refine (Calls.mono (toReT_any P ao cap _ HS.out (ResAt.keepB HA.out B12.out)) ?_)
  rintro e w13 ⟨vQ, rfl, ox, b⟩
  have B13 : Hid (Below w.heap.size w w13) := B12.out.trans (b.mono B12.out.size)
  have C13 : Hid (Below w3.heap.size w3 w13) := C12.out.trans (b.mono C12.out.size)
  obtain ⟨aQ, cQ, rfl, hcQ, rQ⟩ := formC ox
  have RQ : Hid (ResAt w13 aQ P) := rQ
  have G13 : Hid (OwnF w13 w4.heap.size (.slice aG G.length cG) G.length (mkR G)) := OwnF.keepB G12.out b
  clear rQ ox b B12 C12 G12
  go_wp2_with fail
  refine (Calls.mono (HIM.out _ _ _ hcQ RQ.out) ?_)
  rintro e w14 ⟨vK, rfl, oK, b⟩
  have B14 : Hid (Below w.heap.size w w14) := B13.out.trans (b.mono B13.out.size)
  have C14 : Hid (Below w3.heap.size w3 w14) := C13.out.trans (b.mono C13.out.size)
  have G14 : Hid (OwnF w14 w4.heap.size (.slice aG G.length cG) G.length (mkR G)) := OwnF.keepB G13.out b
  obtain ⟨aK, cK, hvK, rK⟩ := OwnF.res oK
  subst hvK
  have RK : Hid (ResAt w14 aK G) := rK
  clear rK oK b B13 C13 G13 RQ hcQ
  go_wp2_with fail
  refine (Calls.mono (eqReS_any G _ _ _ _ _ HSG.out RK.out (ResAt.keepB RW.out C14.out)) ?_)
  rintro e w15 ⟨rfl, b⟩
  have B15 : Hid (Below w.heap.size w w15) := B14.out.trans (b.mono B14.out.size)
  have C15 : Hid (Below w3.heap.size w3 w15) := C14.out.trans (b.mono C14.out.size)
  have G15 : Hid (OwnF w15 w4.heap.size (.slice aG G.length cG) G.length (mkR G)) := OwnF.keepB G14.out b
  clear b B14 C14 G14 RK
  obtain ⟨aG', cG', hvG', rG'⟩ := OwnF.form G15.out
  simp only [Value.slice.injEq, true_and] at hvG'
  obtain ⟨rfl, rfl⟩ := hvG'
  have RF15 : Hid (ReF w15 aG G.length (mkR G)) := rG'
  clear rG'
  go_wp2_with fail
  refine (Calls.mono (heldR_any G _ _ _ HSG.out RF15.out) ?_)
  rintro e w16 ⟨rfl, b⟩
  have B16 : Hid (Below w.heap.size w w16) := B15.out.trans (b.mono B15.out.size)
  have C16 : Hid (Below w3.heap.size w3 w16) := C15.out.trans (b.mono C15.out.size)
  rw [← HZG.out]
  have G16 : Hid (OwnF w16 w4.heap.size (.slice aG G.length cG) G.length (mkR G)) := OwnF.keepB G15.out b
  clear b B15 C15 G15 RF15
  go_wp2
  go_ret
  exact ⟨rfl, B16.out⟩
set_option maxRecDepth 100000 in
set_option maxHeartbeats 1000000 in
theorem bigS (P : List Nd) (ao : Option Addr) (cap : Nat) (w : World) (hA : ResAt w ao P) (hl : P.length ≤ maxLen) (hx : ∀ y ∈ P, y.2.length ≤ maxLen) (hs : 1048576 < szP P) :
    Calls Try.prog 8 #[.slice ao P.length cap] w fun e w' => e = .returned (.bool true) ∧ Below w.heap.size w w' := by
  have HSZ : Hid _ := szReS_any P ao cap w hl hx hA
  clear hA hl hx
  go_enter Try.func8, Try.ntmps8
  go_wp2_with fail
  refine Calls.mono HSZ.out ?_
  rintro e w1 ⟨hs1, b⟩
  obtain rfl : e = .returned (.int .i64 (-1)) := by
    rcases hs1 with ⟨h, -⟩ | ⟨-, h⟩
    · omega
    · exact h
  clear hs1
  go_wp2
  go_ret
  exact ⟨rfl, b⟩
def answer (P : List Nd) : List Nd := foldA P
def flag (P : List Nd) : Bool := foldF P
theorem answer_sz (P : List Nd) (_hs : szP P ≤ 1048576) : szP (answer P) ≤ 1048576 := by
  unfold answer
  cases hf : foldF P with
  | false => rw [foldA_no hf]; decide
  | true =>
    have hg : goodP P = true := by
      cases e : goodP P with
      | true => rfl
      | false => rw [foldF_bad e] at hf; cases hf
    rw [foldA_yes hf]
    exact Nat.le_trans (foldL_sz hg) (by omega)
theorem walk (P : List Nd) (ao : Option Addr) (cap : Nat) (w : World) (hA : ResAt w ao P) (hl : P.length ≤ maxLen) (hx : ∀ y ∈ P, y.2.length ≤ maxLen) :
    Calls Try.prog 8 #[.slice ao P.length cap] w fun e w' => e = .returned (.bool true) ∧ Below w.heap.size w w' := by
  by_cases hs : szP P ≤ 1048576
  · exact core P (answer P) (flag P) ao cap w hA hl hx hs (answer_sz P hs) (fun w ao cap hc h => sfoldRe_any P ao cap w hs h) (fun w ao cap hc h => ifoldRe_any P ao cap w hs h)
  · exact bigS P ao cap w hA hl hx (by omega)
set_option maxRecDepth 100000 in
theorem lifted (os : Os) (started : os.Started) (H : Type) (enc : TypeId × Value → H) :
    ReturnsInHanded {} Try.checked os 8 .any (Rows.fnExactFoldReSpec.pre6 enc Try.prog Try.f8 Rows.fnExactFoldReRow.domain false) (Rows.fnExactFoldReSpec.post enc Try.prog Try.f8 false true false false) := by
  refine returnsInHanded_of_change (C := Try.checked) own started (by kernel_rfl) Try.func8
    (ChangeSpec.witness6 (enc := enc) (C := Try.checked) false ⟨#[], #[.slice none 0 0], []⟩ 8 (by kernel_rfl) (by kernel_rfl) (by kernel_rfl) (by kernel_rfl)) ?_
  intro W base args ds gs before hval0 hW hcnd _
  have hval : ∀ (j : Nat) t v, Try.f8.params[j]? = some t → args[j]? = some v → Value.okWide Try.prog W .any base t v := hval0
  have hW' := hW
  obtain ⟨p, q, hA0, hV, rfl, hfz, hnd⟩ := hW
  have hA : DataW.TrodAll enc Try.prog W 0 (fun _ => true) true Try.f8.params.toList args.toList ds p := hA0
  rw [Try.params8] at hA hval
  obtain ⟨v0, d0, rfl, rfl, h0⟩ := trodAll_one hA
  obtain ⟨rfl, rfl⟩ := trodVars_none hV
  obtain ⟨a0, len0, cap0, rfl⟩ := okWide_slice Try.underlying22 (hval 0 22 v0 rfl rfl)
  have k0 := h0
  have lt0 : ∀ x ∈ p, x.block < W.heap.size := by obtain ⟨m, hm⟩ := k0; exact DataW.trod_lt m _ _ _ hm
  obtain ⟨P, hP, i0, hm0, hx0⟩ : ∃ P : List Nd, P.length = len0 ∧ ResAt W a0 P ∧ len0 ≤ maxLen ∧ ∀ y ∈ P, y.2.length ≤ maxLen := by obtain ⟨fuel, hf⟩ := h0; exact argRe_of hf
  clear hA0 hval0
  subst hP
  refine (walk P a0 cap0 W i0 hm0 hx0).mono fun e W' ⟨he, bel⟩ => ?_
  subst he
  exact ⟨_, rfl, _, _, _, [], _, [], hW', trodAll_mk1 (shut_bool Try.underlying4 _), trodAll_mk1 (Below.trod laidOut (by kernel_rfl) (of_decide_eq_true (by kernel_rfl)) k0 bel lt0), rfl, bel.frame _, fun h => by cases h⟩
theorem row : Rows.FnExactFoldReSaid :=
  OpenClaim.holds_of_wide 8 Try.f8 rfl rfl rfl rfl rfl rfl rfl ⟨rfl, rfl, rfl, rfl, rfl⟩ rfl rfl rfl rfl rfl (by kernel_rfl) Try.func8 (by kernel_rfl)
    (of_decide_eq_true (by kernel_rfl)) (by unfold Func.isWrapper; first | (rw [if_pos (by decide +kernel)]; kernel_rfl) | (rw [if_neg (by decide +kernel)]; exact ⟨rfl, rfl⟩))
    (fun os started H enc _ => lifted os started H enc)
end LawFoldRe
theorem foldRe_holds : Rows.FnExactFoldReSaid := LawFoldRe.row
#print axioms foldRe_holds
end Go.Proofs.Ytkbijnojmfplpaa
