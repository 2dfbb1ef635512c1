/-
  Trees of nodes in the program's memory.
-/
import Derived.Test.YtendikiflikobaaT5A
import Derived.Test.YtendikiflikobaaR5E
namespace Go.Proofs.Ytendikiflikobaa
open Go.ChangeShapes Go.WideShapes Go.ChangeAt Go.WideMaps Go.WideElems Go.RowKit
/-- A list of ints that lies below a place. -/
def IntsB (B : Nat) (w : World) (sa : Option Addr) (s : List Int) : Prop := IntsAt w sa s ∧ ∀ j, j < s.length → ∃ b off, sa = some ⟨b, off, none⟩ ∧ b < B
theorem IntsB.grown {B : Nat} {w w' : World} {sa : Option Addr} {s : List Int} (h : IntsB B w sa s) {row : Option Nat} (hg : w.grownBy w' row) (hr : ∀ g, row = some g → B ≤ g) : IntsB B w' sa s := by
  refine ⟨fun j hj => ?_, h.2⟩
  obtain ⟨b, off, rfl, h2, h3⟩ := h.1 j hj
  obtain ⟨b', off', he, hlt⟩ := h.2 j hj
  cases he
  have hb := hg.block b h2 (fun e => by have := hr b e.symm; omega)
  exact ⟨b, off, rfl, Nat.lt_of_lt_of_le h2 hg.size, by simpa [World.cell?, hb] using h3⟩
theorem IntsB.nil (B : Nat) (w : World) (sa : Option Addr) : IntsB B w sa [] := ⟨fun j hj => absurd hj (by simp), fun j hj => absurd hj (by simp)⟩
/-- A tree of nodes: its sets lie below B, its nodes from B on and below U. -/
def TreeAt (B U : Nat) (w : World) : Option Tr → Option Addr → Prop
  | none, p => p = none
  | some ⟨op, s, a, b⟩, p => ∃ x sa sc pa pb, p = some ⟨x, 0, none⟩ ∧ B < x ∧ x < U ∧ w.heap[x]? = some (.cells #[.int .i64 op, .slice sa s.length sc, .pointer pa, .pointer pb] 108) ∧ IntsB B w sa s ∧ TreeAt B U w a pa ∧ TreeAt B U w b pb
theorem TreeAt.grown {B U : Nat} {w w' : World} {row : Option Nat} (hg : w.grownBy w' row) (hr : ∀ g, row = some g → g = B ∨ (B < g ∧ (U ≤ g ∨ ∀ cs, w.heap[g]? ≠ some (.cells cs 108)))) : ∀ (t : Option Tr) (p : Option Addr), TreeAt B U w t p → TreeAt B U w' t p
  | none, p, h => by rw [TreeAt] at h ⊢; exact h
  | some ⟨op, s, a, b⟩, p, h => by
    rw [TreeAt] at h ⊢
    obtain ⟨x, sa, sc, pa, pb, h1, h2, h3, h4, h5, h6, h7⟩ := h
    refine ⟨x, sa, sc, pa, pb, h1, h2, h3, ?_, h5.grown hg (fun g e => ?_), TreeAt.grown hg hr a pa h6, TreeAt.grown hg hr b pb h7⟩
    · have hx : x < w.heap.size := (Array.getElem?_eq_some_iff.1 h4).1
      rw [hg.block x hx (fun e => ?_)]
      · exact h4
      · rcases hr x e.symm with e1 | ⟨e1, e2 | e2⟩
        · omega
        · omega
        · exact e2 _ h4
    · rcases hr g e with e1 | ⟨e1, -⟩ <;> omega
theorem TreeAt.mono {B U V : Nat} {w : World} (hUV : U ≤ V) : ∀ (t : Option Tr) (p : Option Addr), TreeAt B U w t p → TreeAt B V w t p
  | none, p, h => by rw [TreeAt] at h ⊢; exact h
  | some ⟨op, s, a, b⟩, p, h => by
    rw [TreeAt] at h ⊢
    obtain ⟨x, sa, sc, pa, pb, h1, h2, h3, h4, h5, h6, h7⟩ := h
    exact ⟨x, sa, sc, pa, pb, h1, h2, Nat.lt_of_lt_of_le h3 hUV, h4, h5, TreeAt.mono hUV a pa h6, TreeAt.mono hUV b pb h7⟩
theorem TreeAt.top {B U : Nat} {w : World} : ∀ (t : Option Tr) (p : Option Addr), TreeAt B U w t p → TreeAt B w.heap.size w t p
  | none, p, h => by rw [TreeAt] at h ⊢; exact h
  | some ⟨op, s, a, b⟩, p, h => by
    rw [TreeAt] at h ⊢
    obtain ⟨x, sa, sc, pa, pb, h1, h2, h3, h4, h5, h6, h7⟩ := h
    exact ⟨x, sa, sc, pa, pb, h1, h2, (Array.getElem?_eq_some_iff.1 h4).1, h4, h5, TreeAt.top a pa h6, TreeAt.top b pb h7⟩
theorem TreeAt.keepB {B U : Nat} {w w' : World} {t : Option Tr} {p : Option Addr} (h : TreeAt B U w t p) (hb : Below w.heap.size w w') : TreeAt B U w' t p :=
  TreeAt.grown (row := none) ⟨hb.os, hb.tape, hb.output, hb.size, fun k hk _ => hb.block k hk⟩ (fun g e => by cases e) t p h
/-- A node's cells. -/
theorem TreeAt.node {B U : Nat} {w : World} {op : Int} {s : List Int} {a b : Option Tr} {p : Option Addr} (h : TreeAt B U w (some ⟨op, s, a, b⟩) p) : ∃ x sa sc pa pb, p = some ⟨x, 0, none⟩ ∧ B < x ∧ x < U ∧ w.heap[x]? = some (.cells #[.int .i64 op, .slice sa s.length sc, .pointer pa, .pointer pb] 108) ∧ IntsB B w sa s ∧ TreeAt B U w a pa ∧ TreeAt B U w b pb := by
  rw [TreeAt] at h
  exact h
theorem TreeAt.mk' {B U : Nat} {w : World} {op : Int} {s : List Int} {a b : Option Tr} {x : Nat} {sa pa pb : Option Addr} {sc : Nat} (h1 : B < x) (h2 : x < U) (h3 : w.heap[x]? = some (.cells #[.int .i64 op, .slice sa s.length sc, .pointer pa, .pointer pb] 108)) (h4 : IntsB B w sa s) (h5 : TreeAt B U w a pa) (h6 : TreeAt B U w b pb) : TreeAt B U w (some ⟨op, s, a, b⟩) (some ⟨x, 0, none⟩) := by
  rw [TreeAt]
  exact ⟨x, sa, sc, pa, pb, rfl, h1, h2, h3, h4, h5, h6⟩
theorem TreeAt.some_ptr {B U : Nat} {w : World} {t : Tr} {p : Option Addr} (h : TreeAt B U w (some t) p) : ∃ x, p = some ⟨x, 0, none⟩ := by
  obtain ⟨op, s, a, b⟩ := t
  obtain ⟨x, _, _, _, _, h1, _⟩ := h.node
  exact ⟨x, h1⟩
theorem TreeAt.none_ptr {B U : Nat} {w : World} {p : Option Addr} (h : TreeAt B U w none p) : p = none := by
  rw [TreeAt] at h
  exact h
theorem heap_put {w : World} {b : Nat} {a0 a1 a2 a3 : Value} {T : TypeId} (h : w.heap[b]? = some (.cells #[a0, a1, a2, a3] T)) (v : Value) : (w.setCell ⟨b, 3, none⟩ v).heap[b]? = some (.cells #[a0, a1, a2, v] T) ∧ (w.setCell ⟨b, 2, none⟩ v).heap[b]? = some (.cells #[a0, a1, v, a3] T) := by
  constructor <;> simp [World.setCell, Array.getElem?_modify, h]
def ptrV (x : Nat) : Value := .pointer (some ⟨x, 0, none⟩)
/-- A pile of trees, the upper one first: its variable is block pb, its row lies below U, and so do the trees. -/
structure PileT (w : World) (pb U : Nat) (ts : List Tr) : Prop where
  ex : ∃ (a : Option Addr) (c : Nat) (xs : List Nat), xs.length = ts.length ∧ w.cell? ⟨pb, 0, none⟩ = some (.slice a ts.length c) ∧ w.ownsRow (pb + 1) 69 1 (.slice a ts.length c) ts.length (xs.reverse.map ptrV) ∧ (∀ (j : Nat) (t : Tr), ts[j]? = some t → ∃ x, xs[j]? = some x ∧ TreeAt pb U w (some t) (some ⟨x, 0, none⟩)) ∧ ∀ g, (Value.slice a ts.length c).ownBlock = some g → g < U
  fz : w.frozen? ⟨pb, 0, none⟩ = false
  lt : pb < U
  le : U ≤ w.heap.size
theorem PileT.top {w : World} {pb U : Nat} {ts : List Tr} (h : PileT w pb U ts) : PileT w pb w.heap.size ts := by
  obtain ⟨a, c, xs, h0, h1, h2, h3, h4⟩ := h.ex
  exact ⟨⟨a, c, xs, h0, h1, h2, fun j t hj => by obtain ⟨x, hx, ht⟩ := h3 j t hj; exact ⟨x, hx, ht.top⟩, fun g hg => Nat.lt_of_lt_of_le (h4 g hg) h.le⟩, h.fz, Nat.lt_of_lt_of_le h.lt h.le, Nat.le_refl _⟩
/-- Another block has turned, that lies behind. -/
theorem PileT.grown {w w' : World} {pb U : Nat} {ts : List Tr} (h : PileT w pb U ts) {row : Option Nat} (hg : w.grownBy w' row) (hr : ∀ g, row = some g → U ≤ g) : PileT w' pb U ts := by
  obtain ⟨a, c, xs, h0, h1, h2, h3, h4⟩ := h.ex
  have hlt := h.lt
  have blk : ∀ i, i < U → w'.heap[i]? = w.heap[i]? := fun i hi => hg.block i (Nat.lt_of_lt_of_le hi h.le) (fun e => by have := hr i e.symm; omega)
  refine ⟨⟨a, c, xs, h0, (World.cell?_of_block (a := ⟨pb, 0, none⟩) (blk pb h.lt)).trans h1, World.ownsRow.kept h2 hg ?_, fun j t hj => ?_, h4⟩, (World.frozen?_of_block (a := ⟨pb, 0, none⟩) (blk pb h.lt)).trans h.fz, h.lt, Nat.le_trans h.le hg.size⟩
  · cases hv : (Value.slice a ts.length c).ownBlock with
    | none => exact .inl rfl
    | some g => exact .inr fun e => by have := h4 g hv; have := hr g e.symm; omega
  · obtain ⟨x, hx, ht⟩ := h3 j t hj
    exact ⟨x, hx, TreeAt.grown hg (fun g e => by have := hr g e; exact .inr ⟨by omega, .inl this⟩) _ _ ht⟩
theorem PileT.below {w w' : World} {pb U : Nat} {ts : List Tr} (h : PileT w pb U ts) (hb : Below w.heap.size w w') : PileT w' pb U ts := h.grown (row := none) ⟨hb.os, hb.tape, hb.output, hb.size, fun k hk _ => hb.block k hk⟩ (fun g e => by cases e)
theorem PileT.set {w : World} {pb U : Nat} {ts : List Tr} (h : PileT w pb U ts) (b o : Nat) (u : Value) (hb : U ≤ b) : PileT (w.setCell ⟨b, o, none⟩ u) pb U ts := h.grown (grown_set w b o u) (fun g e => by have := Option.some.inj e; omega)
set_option maxRecDepth 100000 in
set_option maxHeartbeats 1000000 in
theorem takeT_none (pb U : Nat) (w : World) (h : PileT w pb U []) :
    Calls Try.prog 114 #[.pointer (some ⟨pb, 0, none⟩)] w fun e w' => e = .returned (.pointer none) ∧ w' = w := by
  obtain ⟨a, c, xs, -, h1, -, -, -⟩ := h.ex
  simp only [List.length_nil] at h1
  clear h
  go_enter Try.func114, Try.ntmps114
  go_wp2
  go_ret
  exact ⟨rfl, rfl⟩
set_option maxRecDepth 100000 in
set_option maxHeartbeats 1000000 in
theorem takeT_some (pb U : Nat) (t : Tr) (ts : List Tr) (w : World) (hn : ts.length ≤ 1000) (h : PileT w pb U (t :: ts)) :
    Calls Try.prog 114 #[.pointer (some ⟨pb, 0, none⟩)] w fun e w' => ∃ x, e = .returned (.pointer (some ⟨x, 0, none⟩)) ∧ PileT w' pb U ts ∧ TreeAt pb U w' (some t) (some ⟨x, 0, none⟩) ∧ w.grownBy w' (some pb) := by
  have HP : Hid _ := h
  obtain ⟨a, c, xs, h0, h1, h2, h3, h4⟩ := h.ex
  obtain ⟨n, hnn⟩ : ∃ n, n = ts.length := ⟨_, rfl⟩
  have e0 : (t :: ts).length = n + 1 := by simp [hnn]
  rw [e0] at h0 h1 h2 h4
  have hfz := h.fz
  rcases xs with _ | ⟨x, ys⟩
  · simp at h0
  have hys : ys.length = n := by simpa using h0
  have hrow : (x :: ys).reverse.map ptrV = ys.reverse.map ptrV ++ [ptrV x] := by simp
  rw [hrow] at h2
  rcases h2.2 with ⟨e1, e2⟩ | ⟨g, cap, cur, e1, e2, e3, e4, e5, e6, e7⟩
  · omega
  simp only [Value.slice.injEq] at e1
  obtain ⟨rfl, -, rfl⟩ := e1
  have hcell := h2.cellAt n (by omega)
  have hl1 : (ys.reverse.map ptrV).length = n := by simp [hys]
  rw [List.getElem?_append_right (by omega), hl1, Nat.sub_self] at hcell
  simp only [List.getElem?_cons_zero, ptrV] at hcell
  have H2 : Hid (w.ownsRow (pb + 1) 69 1 (.slice (some ⟨g, 0, none⟩) n c) n (ys.reverse.map ptrV)) := by
    have := own_takeV h2 n (by omega)
    rwa [List.take_left' hl1] at this
  have H3 : Hid _ := h3
  have H4 : Hid _ := h4
  have hn1 : n ≤ 1000 := by omega
  have HN : Hid _ := hnn
  have HY : Hid _ := hys
  clear h h2 h3 h4 h0 hrow hl1 e0 e3 e5 e6 e7 hnn hys
  have hsl : ∀ w : World, (Instr.slice 105 (.slice (some ⟨g, 0, none⟩) (n + 1) c) none (some (.int .i64 (n : Int))) none).run Try.prog w = .ok (.slice (some ⟨g, 0, none⟩) n c) w := fun w => by
    have q1 : (n : Int) ≤ c := by omega
    have q2 : n ≤ c := by omega
    go_simp
  go_enter Try.func114, Try.ntmps114
  go_wp2
  go_ret
  have GS : Hid (w.grownBy (w.setCell ⟨pb, 0, none⟩ (.slice (some ⟨g, 0, none⟩) n c)) (some pb)) := grown_set _ _ _ _
  have TG : ∀ t x, TreeAt pb U w (some t) (some ⟨x, 0, none⟩) → TreeAt pb U (w.setCell ⟨pb, 0, none⟩ (.slice (some ⟨g, 0, none⟩) n c)) (some t) (some ⟨x, 0, none⟩) := fun t x => TreeAt.grown GS.out (fun g e => .inl (Option.some.inj e).symm) _ _
  obtain ⟨x', hx', ht'⟩ := H3.out 0 t (by simp)
  simp only [List.getElem?_cons_zero, Option.some.injEq] at hx'
  subst hx'
  refine ⟨_, rfl, ⟨⟨some ⟨g, 0, none⟩, c, ys, by rw [HY.out, HN.out], by rw [← HN.out]; exact set_same _ _ _ _ _ h1, by rw [← HN.out]; exact World.ownsRow.kept H2.out GS.out (own_ne H2.out (Nat.lt_succ_self _)), fun j u hj => ?_, fun g' hg' => by rw [← HN.out] at hg'; exact H4.out g' hg'⟩, by rw [World.frozen?_setCell]; exact hfz, HP.out.lt, by have := HP.out.le; simpa [World.setCell] using this⟩, TG _ _ ht', GS.out⟩
  obtain ⟨y, hy, hty⟩ := H3.out (j + 1) u (by simpa using hj)
  exact ⟨y, by simpa using hy, TG _ _ hty⟩
end Go.Proofs.Ytendikiflikobaa
