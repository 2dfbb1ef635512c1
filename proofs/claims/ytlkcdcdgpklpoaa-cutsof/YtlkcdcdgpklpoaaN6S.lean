/-
  slices.Sort and slices.Compact at a row of numbers of one's own (by the library's contracts).
-/
import Derived.Test.YtlkcdcdgpklpoaaN6P
import Derived.Shelf.Sort.Plain
import Derived.Shelf.Slices.In.SortNone
import Derived.Shelf.Slices.CompactI
import Derived.Lib.OwnBridge
import Derived.Shelf.Lay
import Derived.Ground.NamesProg
import Derived.Ground.Names2Prog
namespace Go.Proofs.Ytlkcdcdgpklpoaa
open Go.ChangeShapes Go.WideShapes Go.ChangeAt Go.RowKit
open Go.Shelf Go.Sort
shelf_lay Lays.n189 Nm 189 at Try as Try.sortI
shelf_lay Lays2.n20 Nm2 20 at Try as Try.compactI
theorem grownI_putRow (w : World) (g q : Nat) (d : Array Int) : w.grownBy (putRow (Value.int .i64) (Sort.ahead w q) g 0 d) (some g) := by
  refine ⟨rfl, rfl, rfl, ?_, fun k hk hne => ?_⟩
  · simp [putRow, mapBlock, Sort.ahead]
  · show ((Sort.ahead w q).heap.modify g _)[k]? = _
    rw [Array.getElem?_modify, if_neg (fun e => hne (by rw [e]))]
    rfl
theorem grown_grow {w w' : World} {r : Option Nat} (h : w.grownBy w' r) (os : Array Obj) : w.grownBy (grow w' os) r :=
  ⟨h.os, h.tape, h.output, Nat.le_trans h.size (by simp [grow]), fun k hk hn => by
    rw [← h.block k hk hn]
    show (w'.heap ++ os)[k]? = _
    rw [Array.getElem?_append_left (Nat.lt_of_lt_of_le hk h.size)]⟩
theorem own_grow {w : World} {base : Nat} {e : TypeId} {v : Value} {n : Nat} {xs : List Value} (h : w.ownsRow base e 1 v n xs) (os : Array Obj) : (grow w os).ownsRow base e 1 v n xs := by
  refine ⟨h.1, ?_⟩
  rcases h.2 with h2 | ⟨g, cap, cur, h1, h2, h3, h4⟩
  · exact .inl h2
  · refine .inr ⟨g, cap, cur, h1, h2, ?_, h4⟩
    show (w.heap ++ os)[g]? = _
    rw [Array.getElem?_append_left (Array.getElem?_eq_some_iff.1 h3).1]
    exact h3
theorem sortI_any (L : List Int) (v : Value) (base : Nat) (w : World) (hl : L.length ≤ 1048576) (h : w.ownsRow base 3 1 v L.length (ints L)) :
    Calls Try.prog 94 #[v] w fun e w' => e = .returned (.tuple #[]) ∧ w'.ownsRow base 3 1 v L.length (ints (L.mergeSort fun x y => decide (x ≤ y))) ∧ w.grownBy w' v.ownBlock := by
  rcases h.2 with ⟨rfl, h0⟩ | ⟨g, cap, cur, rfl, hb, hg, hn, hm, hs, ht⟩
  · obtain rfl : L = [] := List.eq_nil_of_length_eq_zero h0
    have hcon := Any.slices_Sort_int_none Try.sortI none 0 w
    change Calls Try.prog 94 _ _ _ at hcon
    refine hcon.mono ?_
    rintro e w' ⟨rfl, rfl⟩
    exact ⟨rfl, by simpa [ints] using h, grown_refl _ _⟩
  · have H := Lib.holds_of_ownsRow (enc := Value.int .i64) (zs := L) h (by simp)
    obtain ⟨g', cap', e1, -, hlt, hc1, hc2, -, hH⟩ := H
    simp only [Value.slice.injEq, Option.some.injEq, Addr.mk.injEq, and_true, true_and] at e1
    obtain ⟨rfl, rfl⟩ := e1
    have hcon := Any.slices_Sort_int Try.sortI g 0 cap L w hH hlt (by omega)
    change Calls Try.prog 94 _ _ _ at hcon
    refine hcon.mono ?_
    rintro e w' ⟨rfl, n, os, rfl⟩
    have hy : (L.mergeSort fun x y => decide (x ≤ y)).length = L.length := by simp
    have o := Lib.ownsRow_putRow (q := n) (k := L.length) (ys := L.mergeSort fun x y => decide (x ≤ y)) h hy (Nat.le_refl _)
    rw [List.take_of_length_le (by rw [hy]; exact Nat.le_refl _)] at o
    exact ⟨rfl, own_grow o os, grown_grow (grownI_putRow w g n _) os⟩
theorem compI_any (L : List Int) (v : Value) (base : Nat) (w : World) (hl : L.length ≤ 1048576) (h : w.ownsRow base 3 1 v L.length (ints L)) :
    Calls Try.prog 95 #[v] w fun e w' => ∃ v', e = .returned v' ∧ w'.ownsRow base 3 1 v' (Lib.compact L).length (ints (Lib.compact L)) ∧ w.grownBy w' v.ownBlock := by
  rcases h.2 with ⟨rfl, h0⟩ | ⟨g, cap, cur, rfl, hb, hg, hn, hm, hs, ht⟩
  · obtain rfl : L = [] := List.eq_nil_of_length_eq_zero h0
    have hcon := Any.slices_Compact_int_empty Try.compactI none 0 w
    change Calls Try.prog 95 _ _ _ at hcon
    refine hcon.mono ?_
    rintro e w' ⟨rfl, rfl⟩
    exact ⟨_, rfl, h, grown_refl _ _⟩
  · have H := Lib.holds_of_ownsRow (enc := Value.int .i64) (zs := L) h (by simp)
    obtain ⟨g', cap', e1, -, hlt, hc1, hc2, -, hH⟩ := H
    simp only [Value.slice.injEq, Option.some.injEq, Addr.mk.injEq, and_true, true_and] at e1
    obtain ⟨rfl, rfl⟩ := e1
    have hcon := Any.slices_Compact_int Try.compactI g 0 cap L w hH (by omega) hn
    change Calls Try.prog 95 _ _ _ at hcon
    refine hcon.mono ?_
    rintro e w' ⟨rfl, q, rfl⟩
    have hle := Lib.compact_length_le L
    have hy : (Lib.compact L ++ List.replicate (L.length - (Lib.compact L).length) 0).length = L.length := by simp; omega
    have o := Lib.ownsRow_putRow (q := q) (k := (Lib.compact L).length) (ys := Lib.compact L ++ List.replicate (L.length - (Lib.compact L).length) 0) h hy hle
    rw [List.take_append_of_le_length (Nat.le_refl _), List.take_length] at o
    exact ⟨_, rfl, o, grownI_putRow w g q _⟩
end Go.Proofs.Ytlkcdcdgpklpoaa
