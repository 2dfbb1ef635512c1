/-
  The program's pile of nodes: GoodRe of the program.
-/
import Derived.Test.YtendikiflikobaaR5D
namespace Go.Proofs.Ytendikiflikobaa
open Go.ChangeShapes Go.WideShapes Go.ChangeAt Go.RowKit
theorem own_takeV {w : World} {base : Nat} {e : TypeId} {a : Option Addr} {n c : Nat} {xs : List Value} (h : w.ownsRow base e 1 (.slice a n c) n xs) (k : Nat) (hk : k ≤ n) : w.ownsRow base e 1 (.slice a k c) k (xs.take k) := by
  have hl := h.1
  refine ⟨by simp; omega, ?_⟩
  rcases h.2 with ⟨h1, h2⟩ | ⟨g, cap, cur, h1, h2, h3, h4, h5, h6, h7⟩
  · simp only [Value.slice.injEq] at h1
    obtain ⟨rfl, rfl, rfl⟩ := h1
    obtain rfl : k = 0 := by omega
    exact .inl ⟨rfl, rfl⟩
  · simp only [Value.slice.injEq] at h1
    obtain ⟨rfl, -, rfl⟩ := h1
    refine .inr ⟨g, c, cur, rfl, h2, h3, by omega, h5, h6, ?_⟩
    rw [← h7, List.take_take, show min k (n * 1) = k * 1 by omega]
theorem cell_kept {w w' : World} {pb : Nat} (g : w.grownBy w' (some pb)) {b : Nat} (hb : b < w.heap.size) (hne : b ≠ pb) (o : Nat) : w'.cell? ⟨b, o, none⟩ = w.cell? ⟨b, o, none⟩ :=
  World.cell?_of_block (a := ⟨b, o, none⟩) (g.block b hb (fun e => hne (Option.some.inj e)))
theorem frozen_kept {w w' : World} {pb : Nat} (g : w.grownBy w' (some pb)) {b : Nat} (hb : b < w.heap.size) (hne : b ≠ pb) (o : Nat) : w'.frozen? ⟨b, o, none⟩ = w.frozen? ⟨b, o, none⟩ :=
  World.frozen?_of_block (a := ⟨b, o, none⟩) (g.block b hb (fun e => hne (Option.some.inj e)))
/-- A pile of n pointers: its variable is block pb, its row lies below U. -/
structure Pile (w : World) (pb U n : Nat) : Prop where
  ex : ∃ a c ps, w.cell? ⟨pb, 0, none⟩ = some (.slice a n c) ∧ w.ownsRow (pb + 1) 69 1 (.slice a n c) n ps ∧ (∀ u ∈ ps, ∃ x, u = .pointer (some ⟨x, 0, none⟩)) ∧ ∀ g, (Value.slice a n c).ownBlock = some g → g < U
  fz : w.frozen? ⟨pb, 0, none⟩ = false
  lt : pb < U
  le : U ≤ w.heap.size
theorem Pile.top {w : World} {pb U n : Nat} (h : Pile w pb U n) : Pile w pb w.heap.size n := by
  obtain ⟨a, c, ps, h1, h2, h3, h4⟩ := h.ex
  exact ⟨⟨a, c, ps, h1, h2, h3, fun g hg => Nat.lt_of_lt_of_le (h4 g hg) h.le⟩, h.fz, Nat.lt_of_lt_of_le h.lt h.le, Nat.le_refl _⟩
/-- Another block has turned, that lies behind. -/
theorem Pile.grown {w w' : World} {pb U n : Nat} (h : Pile w pb U n) {row : Option Nat} (hg : w.grownBy w' row) (hr : ∀ g, row = some g → U ≤ g) : Pile w' pb U n := by
  obtain ⟨a, c, ps, h1, h2, h3, h4⟩ := h.ex
  have blk : ∀ i, i < U → w'.heap[i]? = w.heap[i]? := fun i hi => hg.block i (Nat.lt_of_lt_of_le hi h.le) (fun e => by have := hr i e.symm; omega)
  refine ⟨⟨a, c, ps, (World.cell?_of_block (a := ⟨pb, 0, none⟩) (blk pb h.lt)).trans h1, World.ownsRow.kept h2 hg ?_, h3, h4⟩, (World.frozen?_of_block (a := ⟨pb, 0, none⟩) (blk pb h.lt)).trans h.fz, h.lt, Nat.le_trans h.le hg.size⟩
  cases hv : (Value.slice a n c).ownBlock with
  | none => exact .inl rfl
  | some g => exact .inr fun e => by have := h4 g hv; have := hr g e.symm; omega
theorem Pile.below {w w' : World} {pb U n : Nat} (h : Pile w pb U n) (hb : Below w.heap.size w w') : Pile w' pb U n := h.grown (row := none) ⟨hb.os, hb.tape, hb.output, hb.size, fun k hk _ => hb.block k hk⟩ (fun g e => by cases e)
theorem Pile.set {w : World} {pb U n : Nat} (h : Pile w pb U n) (b o : Nat) (u : Value) (hb : U ≤ b) : Pile (w.setCell ⟨b, o, none⟩ u) pb U n := h.grown (grown_set w b o u) (fun g e => by have := Option.some.inj e; omega)
set_option maxRecDepth 100000 in
set_option maxHeartbeats 1000000 in
theorem take_none (pb U : Nat) (w : World) (h : Pile w pb U 0) :
    Calls Try.prog 114 #[.pointer (some ⟨pb, 0, none⟩)] w fun e w' => e = .returned (.pointer none) ∧ w' = w := by
  obtain ⟨a, c, ps, h1, -, -, -⟩ := h.ex
  clear h
  go_enter Try.func114, Try.ntmps114
  go_wp2
  go_ret
  exact ⟨rfl, rfl⟩
set_option maxRecDepth 100000 in
set_option maxHeartbeats 1000000 in
theorem take_some (pb U n : Nat) (w : World) (hn : n ≤ 1000) (h : Pile w pb U (n + 1)) :
    Calls Try.prog 114 #[.pointer (some ⟨pb, 0, none⟩)] w fun e w' => ∃ x, e = .returned (.pointer (some ⟨x, 0, none⟩)) ∧ Pile w' pb U n ∧ w.grownBy w' (some pb) := by
  have HP : Hid _ := h
  obtain ⟨a, c, ps, h1, h2, h3, h4⟩ := h.ex
  have hfz := h.fz
  rcases h2.2 with ⟨e1, e2⟩ | ⟨g, cap, cur, e1, e2, e3, e4, e5, e6, e7⟩
  · omega
  simp only [Value.slice.injEq] at e1
  obtain ⟨rfl, -, rfl⟩ := e1
  have hcell := h2.cellAt n (by omega)
  have hlp : n < ps.length := by have := h2.1; omega
  rw [List.getElem?_eq_getElem hlp] at hcell
  obtain ⟨x, hx⟩ := h3 _ (List.getElem_mem hlp)
  rw [hx] at hcell
  have H2 : Hid _ := h2
  have H3 : Hid _ := h3
  have H4 : Hid _ := h4
  have hsl : ∀ w : World, (Instr.slice 105 (.slice (some ⟨g, 0, none⟩) (n + 1) c) none (some (.int .i64 (n : Int))) none).run Try.prog w = .ok (.slice (some ⟨g, 0, none⟩) n c) w := fun w => by
    have q1 : (n : Int) ≤ c := by omega
    have q2 : n ≤ c := by omega
    go_simp
  clear h h2 h3 h4 hx e3 e5 e6 e7
  go_enter Try.func114, Try.ntmps114
  go_wp2
  go_ret
  have hpg : pb ≠ g := by omega
  refine ⟨x, rfl, ⟨⟨some ⟨g, 0, none⟩, c, ps.take n, set_same _ _ _ _ _ h1, World.ownsRow.kept (own_takeV H2.out n (by omega)) (grown_set _ _ _ _) (own_ne (own_takeV H2.out n (by omega)) (Nat.lt_succ_self _)), fun u hu => H3.out u (List.mem_of_mem_take hu), fun g' hg' => H4.out g' hg'⟩, by rw [World.frozen?_setCell]; exact hfz, HP.out.lt, by have := HP.out.le; simpa [World.setCell] using this⟩, grown_set _ _ _ _⟩
end Go.Proofs.Ytendikiflikobaa
