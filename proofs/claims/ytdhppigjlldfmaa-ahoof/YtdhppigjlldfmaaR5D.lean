/-
  The laws' copy of a list of nodes.
-/
import Derived.Test.YtdhppigjlldfmaaR5C
import Derived.Test.YtdhppigjlldfmaaN3F2
namespace Go.Proofs.Ytdhppigjlldfmaa
open Go.ChangeShapes Go.WideShapes Go.ChangeAt Go.RowKit
theorem own_ne {w : World} {base : Nat} {e : TypeId} {size : Nat} {v : Value} {n : Nat} {xs : List Value} (h : w.ownsRow base e size v n xs) {b : Nat} (hb : b < base) : v.ownBlock = none ∨ v.ownBlock ≠ some b := by
  cases hv : v.ownBlock with
  | none => exact .inl rfl
  | some g => exact .inr fun e' => by have := (h.lt g hv).1; have := Option.some.inj e'; omega
theorem set_other (w : World) (b b' o o' : Nat) (v : Value) (h : b ≠ b' ∨ o ≠ o') : (w.setCell ⟨b, o, none⟩ v).cell? ⟨b', o', none⟩ = w.cell? ⟨b', o', none⟩ := by
  apply World.cell?_setCell_other
  intro e
  simp only [Addr.mk.injEq] at e
  omega
theorem set_same (w : World) (b o : Nat) (u v : Value) (h : w.cell? ⟨b, o, none⟩ = some u) : (w.setCell ⟨b, o, none⟩ v).cell? ⟨b, o, none⟩ = some v := by
  apply World.cell?_setCell_same
  exact h
theorem own_set {w : World} {base : Nat} {e : TypeId} {size : Nat} {v : Value} {n : Nat} {xs : List Value} (h : w.ownsRow base e size v n xs) {b : Nat} (hb : b < base) (o : Nat) (u : Value) : (w.setCell ⟨b, o, none⟩ u).ownsRow base e size v n xs :=
  World.ownsRow.kept h (grown_set w b o u) (own_ne h hb)
theorem heap_last2 (w : World) (o : Obj) (i : Nat) (h : i = w.heap.size) : (w.alloc o).heap[i]? = some o := by subst h; show (w.heap.push o)[w.heap.size]? = some o; simp
theorem heap_prev (w : World) (o : Obj) (i : Nat) (h : i < w.heap.size) : (w.alloc o).heap[i]? = w.heap[i]? := by
  show (w.heap.push o)[i]? = w.heap[i]?
  rw [Array.getElem?_push, if_neg (by omega)]
theorem cell_of {w : World} {b : Nat} {cs : Array Value} {t : TypeId} (h : w.heap[b]? = some (.cells cs t)) (o : Nat) : w.cell? ⟨b, o, none⟩ = cs[o]? := by simp [World.cell?, h]
/-- A block of nodes of which the first k are laid, each with a set in a row of its own behind the block. -/
structure ReRow (w : World) (g : Nat) (P : List Nd) (k : Nat) : Prop where
  lt : g < w.heap.size
  fz : ∀ j, w.frozen? ⟨g, j, none⟩ = false
  ins : ∀ j, j < k → ∃ v, w.cell? ⟨g, j * 2, none⟩ = some (.int .i64 (nd P j).1) ∧ w.cell? ⟨g, j * 2 + 1, none⟩ = some v ∧ w.ownsRow (g + 1) 3 1 v (nd P j).2.length (ints (nd P j).2)
  outs : ∀ j, k ≤ j → j < P.length → (∃ u, w.cell? ⟨g, j * 2, none⟩ = some u) ∧ ∃ u, w.cell? ⟨g, j * 2 + 1, none⟩ = some u
theorem ReRow.keepB {w w' : World} {g : Nat} {P : List Nd} {k : Nat} (h : ReRow w g P k) (hb : Below w.heap.size w w') : ReRow w' g P k :=
  ⟨Nat.lt_of_lt_of_le h.lt hb.size, fun j => (World.frozen?_of_block (a := ⟨g, j, none⟩) (hb.block g h.lt)).trans (h.fz j),
   fun j hj => by
    obtain ⟨v, h1, h2, h3⟩ := h.ins j hj
    exact ⟨v, (hb.cell (p := ⟨g, j * 2, none⟩) h.lt).trans h1, (hb.cell (p := ⟨g, j * 2 + 1, none⟩) h.lt).trans h2, World.ownsRow.keepB h3 hb⟩,
   fun j hj hl => by
    obtain ⟨⟨u, h1⟩, ⟨u', h2⟩⟩ := h.outs j hj hl
    exact ⟨⟨u, (hb.cell (p := ⟨g, j * 2, none⟩) h.lt).trans h1⟩, ⟨u', (hb.cell (p := ⟨g, j * 2 + 1, none⟩) h.lt).trans h2⟩⟩⟩
theorem ReRow.put {w : World} {g : Nat} {P : List Nd} {k : Nat} (h : ReRow w g P k) (hk : k < P.length) (v : Value) (hv : w.ownsRow (g + 1) 3 1 v (nd P k).2.length (ints (nd P k).2)) :
    ReRow ((w.setCell ⟨g, k * 2, none⟩ (.int .i64 (nd P k).1)).setCell ⟨g, k * 2 + 1, none⟩ v) g P (k + 1) := by
  obtain ⟨⟨u, h1⟩, ⟨u', h2⟩⟩ := h.outs k (Nat.le_refl _) hk
  have own2 : ∀ {v' : Value} {n : Nat} {xs : List Value}, w.ownsRow (g + 1) 3 1 v' n xs → ((w.setCell ⟨g, k * 2, none⟩ (.int .i64 (nd P k).1)).setCell ⟨g, k * 2 + 1, none⟩ v).ownsRow (g + 1) 3 1 v' n xs := fun h => own_set (own_set h (Nat.lt_succ_self _) _ _) (Nat.lt_succ_self _) _ _
  refine ⟨by simpa [World.setCell] using h.lt, fun j => by rw [World.frozen?_setCell, World.frozen?_setCell]; exact h.fz j, fun j hj => ?_, fun j hj hl => ?_⟩
  · by_cases e : j = k
    · subst e
      refine ⟨v, ?_, ?_, own2 hv⟩
      · rw [set_other _ _ _ _ _ _ (by omega)]
        exact set_same _ _ _ _ _ h1
      · exact set_same _ _ _ u' _ (by rw [set_other _ _ _ _ _ _ (by omega)]; exact h2)
    · obtain ⟨v', h1, h2, h3⟩ := h.ins j (by omega)
      refine ⟨v', ?_, ?_, own2 h3⟩
      · rw [set_other _ _ _ _ _ _ (by omega), set_other _ _ _ _ _ _ (by omega)]; exact h1
      · rw [set_other _ _ _ _ _ _ (by omega), set_other _ _ _ _ _ _ (by omega)]; exact h2
  · obtain ⟨⟨u, h1⟩, ⟨u', h2⟩⟩ := h.outs j (by omega) hl
    refine ⟨⟨u, ?_⟩, ⟨u', ?_⟩⟩
    · rw [set_other _ _ _ _ _ _ (by omega), set_other _ _ _ _ _ _ (by omega)]; exact h1
    · rw [set_other _ _ _ _ _ _ (by omega), set_other _ _ _ _ _ _ (by omega)]; exact h2
theorem ReRow.res {w : World} {g : Nat} {P : List Nd} (h : ReRow w g P P.length) : ResAt w (some ⟨g, 0, none⟩) P := fun j hj => by
  obtain ⟨v, h1, h2, h3⟩ := h.ins j hj
  obtain ⟨_, a, c, rfl, i⟩ := ints_of_own h3
  exact ⟨g, 0, a, c, rfl, h.lt, by rw [Nat.zero_add]; exact h1, by rw [Nat.zero_add]; exact h2, i⟩
end Go.Proofs.Ytdhppigjlldfmaa
