/-
  SplitRune of both, lists that may be held, copies of a list (laws.toIntS), SplitAll of both.
-/
import Derived.Test.YtdhppigjlldfmaaDoorN3A
import Derived.Test.YtdhppigjlldfmaaDoorRowAp
import Derived.OwnWalk
namespace Go.Proofs.YtdhppigjlldfmaaDoor
open Go.ChangeShapes Go.WideShapes Go.ChangeAt Go.RowKit
/-- Two rows of one's own that were made one behind the other are apart. -/
theorem own_apart {w1 w2 : World} {b1 b2 : Nat} {e : TypeId} {s : Nat} {v1 v2 : Value} {n1 n2 : Nat} {xs1 xs2 : List Value} (h1 : w1.ownsRow b1 e s v1 n1 xs1) (h2 : w2.ownsRow b2 e s v2 n2 xs2) (h : w1.heap.size ≤ b2) : v1.ownBlock = none ∨ v1.ownBlock ≠ v2.ownBlock := by
  cases hb : v1.ownBlock with
  | none => exact .inl rfl
  | some g =>
    refine .inr fun e' => ?_
    have h3 := (World.ownsRow.lt h1 g hb).2
    have h4 := (World.ownsRow.lt h2 g e'.symm).1
    omega
theorem own_apart' {w1 w2 : World} {b1 b2 : Nat} {e : TypeId} {s : Nat} {v1 v2 : Value} {n1 n2 : Nat} {xs1 xs2 : List Value} (h1 : w1.ownsRow b1 e s v1 n1 xs1) (h2 : w2.ownsRow b2 e s v2 n2 xs2) (h : w1.heap.size ≤ b2) : v2.ownBlock = none ∨ v2.ownBlock ≠ v1.ownBlock := by
  cases hb : v2.ownBlock with
  | none => exact .inl rfl
  | some g =>
    refine .inr fun e' => ?_
    have h3 := (World.ownsRow.lt h1 g e'.symm).2
    have h4 := (World.ownsRow.lt h2 g hb).1
    omega
/-- A list that may be held. -/
def heldB (L : List Int) : Bool := decide (L.length ≤ 300) && allG L
theorem heldB_true {L : List Int} (h : heldB L = true) : L.length ≤ 300 ∧ allG L = true := by simpa [heldB] using h
theorem heldB_mk {L : List Int} (h1 : L.length ≤ 300) (h2 : allG L = true) : heldB L = true := by simp [heldB, h1, h2]
end Go.Proofs.YtdhppigjlldfmaaDoor
