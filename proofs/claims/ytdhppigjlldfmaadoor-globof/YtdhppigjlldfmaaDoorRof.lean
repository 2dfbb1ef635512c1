/-
  Contract of impl.RunesOf and spec.RunesOf.
-/
import Derived.Test.YtdhppigjlldfmaaDoorLst
namespace Go.Proofs.YtdhppigjlldfmaaDoor
open Go.ChangeShapes Go.WideShapes Go.ChangeAt Go.RowKit
theorem own_iter {w : World} {base : Nat} {e : TypeId} {size : Nat} {v : Value} {n : Nat} {xs : List Value} (h : w.ownsRow base e size v n xs) {k : Nat} {s : ByteArray} {p : Nat} (hk : w.heap[k]? = some (.stringIter s p)) (q : Nat) : (w.iterAt k s q).ownsRow base e size v n xs := by
  refine ⟨h.1, ?_⟩
  rcases h.2 with h2 | ⟨g, cap, cur, h1, h2, h3, h4⟩
  · exact .inl h2
  · have hne : g ≠ k := by
      intro e'
      subst e'
      rw [hk] at h3
      cases h3
    exact .inr ⟨g, cap, cur, h1, h2, by rw [Lib.iterAt_other w k g s q hne]; exact h3, h4⟩
theorem own_ne_iter {w : World} {base : Nat} {e : TypeId} {size : Nat} {v : Value} {n : Nat} {xs : List Value} (h : w.ownsRow base e size v n xs) {k : Nat} {s : ByteArray} {p : Nat} (hk : w.heap[k]? = some (.stringIter s p)) : some k ≠ v.ownBlock := by
  rcases h.2 with ⟨rfl, _⟩ | ⟨g, cap, cur, rfl, h2, h3, h4⟩
  · intro e'; cases e'
  · intro e'
    obtain rfl : k = g := Option.some.inj e'
    rw [hk] at h3
    cases h3
end Go.Proofs.YtdhppigjlldfmaaDoor
