/-
  A buffer among the laws' arguments; its size, its comparison; three lists of numbers in rows of their own.
-/
import Derived.Test.YtklgagonbehpeaaDoorN3C
import Derived.Lib.SmallJoins
namespace Go.Proofs.YtklgagonbehpeaaDoor
open Go.ChangeShapes Go.WideShapes Go.ChangeAt Go.WideMaps Go.WideElems Go.RowKit
/-- A buffer as a value. -/
def bufV (M G : Int) (s a : Option Addr) (n k cs ca : Nat) : Value := .agg #[.int .i64 M, .slice s n cs, .slice a k ca, .int .i64 G]
theorem Tryd.cellsBuf : Tryd.prog.cellsOf 26 = 4 := by kernel_rfl
section
variable {H : Type} {enc : TypeId × Value → H} {w : World} {base : Nat} {held : Bool} {fuel : Nat}
theorem argInts {v : Value} {x : DataW H × List MemPlace} (h4 : DataW.trod enc Tryd.prog w base (fun _ => true) held fuel 24 [v] = some x) :
    ∃ L : List Int, L.length ≤ maxLen ∧ ∃ sa sc, v = .slice sa L.length sc ∧ IntsAt w sa L := by
  rcases open_ints Tryd.underlying24 Tryd.underlying3 (by kernel_rfl) h4 with ⟨hcs, _⟩ | ⟨y, l, c, zs, hcs, _, hl', hm', hz, _, hcell, hwz⟩
  · simp only [List.cons.injEq, and_true] at hcs
    exact ⟨[], by simp, none, 0, hcs, fun j hj => absurd hj (by simp)⟩
  · simp only [List.cons.injEq, and_true] at hcs
    have hz' : zs.length = c := by simpa using hz
    refine ⟨zs.take l, by simp; omega, some y, c, by rw [hcs]; simp; omega, fun j hj => ?_⟩
    have hj' : j < l := by simp at hj; omega
    obtain ⟨b, off, rfl, hc⟩ := ints_at hcell (by omega)
    have hcj := hc j (by omega)
    refine ⟨b, off, rfl, World.block_lt_of_cell? w _ hcj, ?_⟩
    rw [hcj]
    simp [List.getD, hj', show j < zs.length by omega]
set_option maxRecDepth 100000 in
theorem open_buf {r : Reach} {b0 : Nat} {v : Value} {d : DataW H} {p : List MemPlace} (hv : Value.okWide Tryd.prog w r b0 26 v) (h : DataW.Trod enc Tryd.prog w base (fun _ => true) held 26 v d p) :
    ∃ (M G : Int) (R L : List Int) (s a : Option Addr) (cs ca : Nat), v = bufV M G s a R.length L.length cs ca ∧ IntsAt w s R ∧ IntsAt w a L ∧ R.length ≤ maxLen ∧ L.length ≤ maxLen := by
  obtain ⟨c0, c1, c2, c3, y0, y1, y2, y3, m, rfl, rfl, rfl, hy0, hy1, hy2, hy3⟩ := Joins.open_agg4 Tryd.underlying26 (by kernel_rfl) Tryd.cellsBuf hv h
  obtain ⟨M, e0, -, -⟩ := DataW.trod_int Tryd.underlying3 hy0
  obtain ⟨G, e3, -, -⟩ := DataW.trod_int Tryd.underlying3 hy3
  obtain ⟨R, hR, s, cs, e1, iR⟩ := argInts hy1
  obtain ⟨L, hL, a, ca, e2, iL⟩ := argInts hy2
  simp at e0 e3
  subst e0 e1 e2 e3
  exact ⟨M, G, R, L, s, a, cs, ca, rfl, iR, iL, hR, hL⟩
end
/-- Nothing below base and nothing from top on has turned. -/
def MidB (base top : Nat) (w w' : World) : Prop := Below base w w' ∧ ∀ g, top ≤ g → g < w.heap.size → w'.heap[g]? = w.heap[g]?
theorem MidB.trans {base top : Nat} {a b c : World} (h : MidB base top a b) (k : MidB base top b c) : MidB base top a c :=
  ⟨h.1.trans k.1, fun g hg hl => (k.2 g hg (Nat.lt_of_lt_of_le hl h.1.size)).trans (h.2 g hg hl)⟩
theorem MidB.grown {base top : Nat} {w w' : World} {row : Option Nat} (hg : w.grownBy w' row) (hb : base ≤ w.heap.size) (hr : ∀ g, row = some g → base ≤ g ∧ g < top) : MidB base top w w' :=
  ⟨Below.grown (Below.refl _ _) hg hb (fun g e => (hr g e).1), fun g ht hl => hg.block g hl (fun e => by have := hr g e.symm; omega)⟩
theorem MidB.below {base top : Nat} {w w' : World} (h : Below w.heap.size w w') (hb : base ≤ w.heap.size) : MidB base top w w' := ⟨h.mono hb, fun g _ hl => h.block g hl⟩
theorem own_midB {base top b : Nat} {w w' : World} (h : MidB base top w w') {e : TypeId} {size : Nat} {v : Value} {n : Nat} {xs : List Value} (ho : w.ownsRow b e size v n xs) (hb : top ≤ b) : w'.ownsRow b e size v n xs := by
  refine ⟨ho.1, ?_⟩
  rcases ho.2 with h2 | ⟨g, cap, cur, h1, h2, h3, h4⟩
  · exact .inl h2
  · exact .inr ⟨g, cap, cur, h1, h2, by rw [h.2 g (by omega) (Array.getElem?_eq_some_iff.1 h3).1]; exact h3, h4⟩
theorem own_lowB {base : Nat} {w w' : World} (h : Below base w w') {b : Nat} {e : TypeId} {size : Nat} {v : Value} {n : Nat} {xs : List Value} (ho : w.ownsRow b e size v n xs) (hb : ∀ g, v.ownBlock = some g → g < base) : w'.ownsRow b e size v n xs := by
  refine ⟨ho.1, ?_⟩
  rcases ho.2 with h2 | ⟨g, cap, cur, h1, h2, h3, h4⟩
  · exact .inl h2
  · exact .inr ⟨g, cap, cur, h1, h2, by rw [h.block g (hb g (by rw [h1]; rfl))]; exact h3, h4⟩
theorem ne_symB {a b : Option Nat} (h : a = none ∨ a ≠ b) : b = none ∨ b ≠ a := by
  cases b with
  | none => exact .inl rfl
  | some g => exact .inr fun e => by rcases h with h | h <;> simp_all
theorem mid_blkB {base top : Nat} {w w' : World} (h : MidB base top w w') {k : Nat} {o : Obj} (hk : w.heap[k]? = some o) (hc : k < base ∨ top ≤ k) : w'.heap[k]? = some o := by
  rcases hc with hc | hc
  · rw [h.1.block k hc]; exact hk
  · rw [h.2 k hc (Array.getElem?_eq_some_iff.1 hk).1]; exact hk
/-- Three lists in rows of their own that lie apart and end ahead of top. -/
def Own3 (w : World) (base top : Nat) (v0 v1 v2 : Value) (A B C : List Int) : Prop :=
  (w.ownsRow base 3 1 v0 A.length (ints A) ∧ w.ownsRow base 3 1 v1 B.length (ints B) ∧ w.ownsRow base 3 1 v2 C.length (ints C)) ∧
  ((∀ g, v0.ownBlock = some g → g < top) ∧ (∀ g, v1.ownBlock = some g → g < top) ∧ (∀ g, v2.ownBlock = some g → g < top)) ∧
  ((v0.ownBlock = none ∨ v0.ownBlock ≠ v1.ownBlock) ∧ (v0.ownBlock = none ∨ v0.ownBlock ≠ v2.ownBlock) ∧ (v1.ownBlock = none ∨ v1.ownBlock ≠ v2.ownBlock))
theorem Own3.mk {w : World} {b0 b1 b2 : Nat} {v0 v1 v2 : Value} {A B C : List Int} (base : Nat) (h0 : w.ownsRow b0 3 1 v0 A.length (ints A)) (h1 : w.ownsRow b1 3 1 v1 B.length (ints B)) (h2 : w.ownsRow b2 3 1 v2 C.length (ints C))
    (l0 : base ≤ b0) (l1 : base ≤ b1) (l2 : base ≤ b2) (d01 : v0.ownBlock = none ∨ v0.ownBlock ≠ v1.ownBlock) (d02 : v0.ownBlock = none ∨ v0.ownBlock ≠ v2.ownBlock) (d12 : v1.ownBlock = none ∨ v1.ownBlock ≠ v2.ownBlock) : Own3 w base w.heap.size v0 v1 v2 A B C :=
  ⟨⟨own_mono h0 l0, own_mono h1 l1, own_mono h2 l2⟩, ⟨fun g e => (World.ownsRow.lt h0 g e).2, fun g e => (World.ownsRow.lt h1 g e).2, fun g e => (World.ownsRow.lt h2 g e).2⟩, d01, d02, d12⟩
theorem Own3.keepB {w w' : World} {base top : Nat} {v0 v1 v2 : Value} {A B C : List Int} (h : Own3 w base top v0 v1 v2 A B C) (hb : Below w.heap.size w w') : Own3 w' base top v0 v1 v2 A B C :=
  ⟨⟨World.ownsRow.keepB h.1.1 hb, World.ownsRow.keepB h.1.2.1 hb, World.ownsRow.keepB h.1.2.2 hb⟩, h.2⟩
theorem Own3.mid {w w' : World} {base top b t : Nat} {v0 v1 v2 : Value} {A B C : List Int} (h : Own3 w b t v0 v1 v2 A B C) (hm : MidB base top w w') (hb : top ≤ b) : Own3 w' b t v0 v1 v2 A B C :=
  ⟨⟨own_midB hm h.1.1 hb, own_midB hm h.1.2.1 hb, own_midB hm h.1.2.2 hb⟩, h.2⟩
theorem Own3.low {w w' : World} {base b t : Nat} {v0 v1 v2 : Value} {A B C : List Int} (h : Own3 w b t v0 v1 v2 A B C) (hm : Below base w w') (hb : t ≤ base) : Own3 w' b t v0 v1 v2 A B C :=
  ⟨⟨own_lowB hm h.1.1 (fun g e => Nat.lt_of_lt_of_le (h.2.1.1 g e) hb), own_lowB hm h.1.2.1 (fun g e => Nat.lt_of_lt_of_le (h.2.1.2.1 g e) hb), own_lowB hm h.1.2.2 (fun g e => Nat.lt_of_lt_of_le (h.2.1.2.2 g e) hb)⟩, h.2⟩
theorem Own3.mono {w : World} {base b t : Nat} {v0 v1 v2 : Value} {A B C : List Int} (h : Own3 w base t v0 v1 v2 A B C) (hb : b ≤ base) : Own3 w b t v0 v1 v2 A B C :=
  ⟨⟨own_mono h.1.1 hb, own_mono h.1.2.1 hb, own_mono h.1.2.2 hb⟩, h.2⟩
theorem Own3.form {w : World} {base top : Nat} {v0 v1 v2 : Value} {A B C : List Int} (h : Own3 w base top v0 v1 v2 A B C) :
    ∃ a b c ca cb cc, v0 = .slice a A.length ca ∧ v1 = .slice b B.length cb ∧ v2 = .slice c C.length cc := by
  obtain ⟨-, a, ca, e0, -⟩ := ints_of_own h.1.1
  obtain ⟨-, b, cb, e1, -⟩ := ints_of_own h.1.2.1
  obtain ⟨-, c, cc, e2, -⟩ := ints_of_own h.1.2.2
  exact ⟨a, b, c, ca, cb, cc, e0, e1, e2⟩
theorem Own3.at {w : World} {base top : Nat} {a b c : Option Addr} {n m l ca cb cc : Nat} {A B C : List Int} (h : Own3 w base top (.slice a n ca) (.slice b m cb) (.slice c l cc) A B C) : IntsAt w a A ∧ IntsAt w b B ∧ IntsAt w c C := by
  refine ⟨?_, ?_, ?_⟩
  · obtain ⟨-, a', ca', e0, i⟩ := ints_of_own h.1.1
    simp only [Value.slice.injEq] at e0; rw [e0.1]; exact i
  · obtain ⟨-, a', ca', e0, i⟩ := ints_of_own h.1.2.1
    simp only [Value.slice.injEq] at e0; rw [e0.1]; exact i
  · obtain ⟨-, a', ca', e0, i⟩ := ints_of_own h.1.2.2
    simp only [Value.slice.injEq] at e0; rw [e0.1]; exact i
theorem Own3.turn0 {w w' : World} {base top : Nat} {v0 v1 v2 : Value} {A A' B C : List Int} (h : Own3 w base top v0 v1 v2 A B C) (hg : w.grownBy w' v0.ownBlock) (h' : w'.ownsRow base 3 1 v0 A'.length (ints A')) : Own3 w' base top v0 v1 v2 A' B C :=
  ⟨⟨h', World.ownsRow.kept h.1.2.1 hg (ne_symB h.2.2.1), World.ownsRow.kept h.1.2.2 hg (ne_symB h.2.2.2.1)⟩, h.2⟩
theorem Own3.turn1 {w w' : World} {base top : Nat} {v0 v1 v2 : Value} {A B B' C : List Int} (h : Own3 w base top v0 v1 v2 A B C) (hg : w.grownBy w' v1.ownBlock) (h' : w'.ownsRow base 3 1 v1 B'.length (ints B')) : Own3 w' base top v0 v1 v2 A B' C :=
  ⟨⟨World.ownsRow.kept h.1.1 hg h.2.2.1, h', World.ownsRow.kept h.1.2.2 hg (ne_symB h.2.2.2.2)⟩, h.2⟩
theorem Own3.turn2 {w w' : World} {base top : Nat} {v0 v1 v2 : Value} {A B C C' : List Int} (h : Own3 w base top v0 v1 v2 A B C) (hg : w.grownBy w' v2.ownBlock) (h' : w'.ownsRow base 3 1 v2 C'.length (ints C')) : Own3 w' base top v0 v1 v2 A B C' :=
  ⟨⟨World.ownsRow.kept h.1.1 hg h.2.2.2.1, World.ownsRow.kept h.1.2.1 hg h.2.2.2.2, h'⟩, h.2⟩
theorem Own3.nil2 {w : World} {base top : Nat} {v0 v1 v2 : Value} {A B C : List Int} (h : Own3 w base top v0 v1 v2 A B C) : Own3 w base top v0 v1 (.slice none 0 0) A B [] :=
  ⟨⟨h.1.1, h.1.2.1, World.ownsRow_nil _ _ _ _⟩, ⟨h.2.1.1, h.2.1.2.1, fun g e => by cases e⟩, h.2.2.1, by by_cases q : v0.ownBlock = none; exact .inl q; exact .inr q, by by_cases q : v1.ownBlock = none; exact .inl q; exact .inr q⟩
theorem grown_setB (w : World) (b i : Nat) (v : Value) : w.grownBy (w.setCell ⟨b, i, none⟩ v) (some b) :=
  ⟨rfl, rfl, rfl, by simp, fun k _ hk => Below.heap_setCell _ _ _ _ (fun e => hk (by rw [e]))⟩
theorem own_neB {w : World} {base : Nat} {e : TypeId} {size : Nat} {v : Value} {n : Nat} {xs : List Value} (h : w.ownsRow base e size v n xs) {b : Nat} (hb : b < base) : v.ownBlock = none ∨ v.ownBlock ≠ some b := by
  cases hv : v.ownBlock with
  | none => exact .inl rfl
  | some g => exact .inr fun e => by have := (World.ownsRow.lt h g hv).1; have := Option.some.inj e; omega
theorem own_setB {w : World} {base : Nat} {e : TypeId} {size : Nat} {v : Value} {n : Nat} {xs : List Value} (h : w.ownsRow base e size v n xs) {b : Nat} (hb : b < base) (o : Nat) (u : Value) : (w.setCell ⟨b, o, none⟩ u).ownsRow base e size v n xs :=
  World.ownsRow.kept h (grown_setB w b o u) (own_neB h hb)
theorem Own3.setB {w : World} {base top : Nat} {v0 v1 v2 : Value} {A B C : List Int} (h : Own3 w base top v0 v1 v2 A B C) {b : Nat} (hb : b < base) (o : Nat) (u : Value) : Own3 (w.setCell ⟨b, o, none⟩ u) base top v0 v1 v2 A B C :=
  ⟨⟨own_setB h.1.1 hb o u, own_setB h.1.2.1 hb o u, own_setB h.1.2.2 hb o u⟩, h.2⟩
theorem heap_lastB (w : World) (o : Obj) (i : Nat) (h : i = w.heap.size) : (w.alloc o).heap[i]? = some o := by subst h; show (w.heap.push o)[w.heap.size]? = some o; simp
theorem heap_prevB (w : World) (o : Obj) (i : Nat) (h : i < w.heap.size) : (w.alloc o).heap[i]? = w.heap[i]? := by
  show (w.heap.push o)[i]? = w.heap[i]?
  rw [Array.getElem?_push, if_neg (by omega)]
theorem cell_ofB {w : World} {b : Nat} {cs : Array Value} {t : TypeId} (h : w.heap[b]? = some (.cells cs t)) (o : Nat) : w.cell? ⟨b, o, none⟩ = cs[o]? := by simp [World.cell?, h]
theorem blk_sameB {w : World} {b : Nat} {cs : Array Value} {t : TypeId} (h : w.heap[b]? = some (.cells cs t)) (o : Nat) (v : Value) : (w.setCell ⟨b, o, none⟩ v).heap[b]? = some (.cells (cs.setIfInBounds o v) t) := by
  simp [World.setCell, Array.getElem?_modify, h]
theorem blk_othB (w : World) (b o b' : Nat) (v : Value) (h : b ≠ b') : (w.setCell ⟨b, o, none⟩ v).heap[b']? = w.heap[b']? := by
  simp [World.setCell, Array.getElem?_modify, h]
/-- Four cells of a block laid anew. -/
def put4 (w : World) (b : Nat) (x0 x1 x2 x3 : Value) : World := (((w.setCell ⟨b, 0, none⟩ x0).setCell ⟨b, 1, none⟩ x1).setCell ⟨b, 2, none⟩ x2).setCell ⟨b, 3, none⟩ x3
theorem put4_same {w : World} {b : Nat} {c0 c1 c2 c3 : Value} {t : TypeId} (h : w.heap[b]? = some (.cells #[c0, c1, c2, c3] t)) (x0 x1 x2 x3 : Value) : (put4 w b x0 x1 x2 x3).heap[b]? = some (.cells #[x0, x1, x2, x3] t) :=
  blk_sameB (blk_sameB (blk_sameB (blk_sameB h 0 _) 1 _) 2 _) 3 _
theorem put4_oth (w : World) (b b' : Nat) (x0 x1 x2 x3 : Value) (h : b ≠ b') : (put4 w b x0 x1 x2 x3).heap[b']? = w.heap[b']? :=
  (blk_othB _ _ _ _ _ h).trans ((blk_othB _ _ _ _ _ h).trans ((blk_othB _ _ _ _ _ h).trans (blk_othB _ _ _ _ _ h)))
theorem put4_size (w : World) (b : Nat) (x0 x1 x2 x3 : Value) : (put4 w b x0 x1 x2 x3).heap.size = w.heap.size := by simp [put4, World.setCell]
theorem put4_grown (w : World) (b : Nat) (x0 x1 x2 x3 : Value) : w.grownBy (put4 w b x0 x1 x2 x3) (some b) :=
  grown_trans (grown_trans (grown_trans (grown_setB w b 0 x0) (grown_setB _ b 1 x1)) (grown_setB _ b 2 x2)) (grown_setB _ b 3 x3)
theorem put4_own {w : World} {base : Nat} {e : TypeId} {size : Nat} {v : Value} {n : Nat} {xs : List Value} (h : w.ownsRow base e size v n xs) {b : Nat} (hb : b < base) (x0 x1 x2 x3 : Value) : (put4 w b x0 x1 x2 x3).ownsRow base e size v n xs :=
  World.ownsRow.kept h (put4_grown w b x0 x1 x2 x3) (own_neB h hb)
theorem put4_own3 {w : World} {base top : Nat} {v0 v1 v2 : Value} {A B C : List Int} (h : Own3 w base top v0 v1 v2 A B C) {b : Nat} (hb : b < base) (x0 x1 x2 x3 : Value) : Own3 (put4 w b x0 x1 x2 x3) base top v0 v1 v2 A B C :=
  ⟨⟨put4_own h.1.1 hb _ _ _ _, put4_own h.1.2.1 hb _ _ _ _, put4_own h.1.2.2 hb _ _ _ _⟩, h.2⟩
theorem put4_below {B : Nat} {w0 w : World} (h : Below B w0 w) {b : Nat} (hb : B ≤ b) (hs : B ≤ w.heap.size) (x0 x1 x2 x3 : Value) : Below B w0 (put4 w b x0 x1 x2 x3) :=
  h.trans (Below.grown (Below.refl _ _) (put4_grown w b x0 x1 x2 x3) hs (fun g e => by have := Option.some.inj e; omega))
theorem put4_ints {w : World} {ao : Option Addr} {L : List Int} {B b : Nat} (h : IntsAt w ao L) (hB : ∀ a, ao = some a → a.block < B ∨ L = []) (hb : B ≤ b) (hs : B ≤ w.heap.size) (x0 x1 x2 x3 : Value) : IntsAt (put4 w b x0 x1 x2 x3) ao L := fun j hj => by
  obtain ⟨k, off, he, hl, hc⟩ := h j hj
  have hk : k < B := by
    rcases hB _ he with q | q
    · exact q
    · rw [q] at hj; simp at hj
  have bel := put4_below (Below.refl B w) hb hs x0 x1 x2 x3
  exact ⟨k, off, he, Nat.lt_of_lt_of_le hl (by rw [put4_size]; exact Nat.le_refl _), (bel.cell (p := ⟨k, off + j, none⟩) hk).trans hc⟩
/-- Four boxes of the laws' memory. -/
def BxB (q : World) (s b4 b6 b7 : Nat) (o o4 o6 o7 : Obj) : Prop := q.heap[s]? = some o ∧ q.heap[b4]? = some o4 ∧ q.heap[b6]? = some o6 ∧ q.heap[b7]? = some o7
theorem BxB.keepB {q q' : World} {s b4 b6 b7 : Nat} {o o4 o6 o7 : Obj} (h : BxB q s b4 b6 b7 o o4 o6 o7) (hb : Below q.heap.size q q') : BxB q' s b4 b6 b7 o o4 o6 o7 :=
  have lt {k : Nat} {x : Obj} (e : q.heap[k]? = some x) : k < q.heap.size := (Array.getElem?_eq_some_iff.1 e).1
  ⟨(hb.block s (lt h.1)).trans h.1, (hb.block b4 (lt h.2.1)).trans h.2.1, (hb.block b6 (lt h.2.2.1)).trans h.2.2.1, (hb.block b7 (lt h.2.2.2)).trans h.2.2.2⟩
theorem BxB.mid {q q' : World} {s b4 b6 b7 : Nat} {o o4 o6 o7 : Obj} (h : BxB q s b4 b6 b7 o o4 o6 o7) {base top : Nat} (hm : MidB base top q q') (h1 : s < base ∨ top ≤ s) (h2 : b4 < base ∨ top ≤ b4) (h3 : b6 < base ∨ top ≤ b6) (h4 : b7 < base ∨ top ≤ b7) : BxB q' s b4 b6 b7 o o4 o6 o7 :=
  ⟨mid_blkB hm h.1 h1, mid_blkB hm h.2.1 h2, mid_blkB hm h.2.2.1 h3, mid_blkB hm h.2.2.2 h4⟩
end Go.Proofs.YtklgagonbehpeaaDoor
