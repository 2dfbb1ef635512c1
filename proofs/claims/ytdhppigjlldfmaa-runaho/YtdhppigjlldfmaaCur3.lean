/-
  Contracts of (*l1Cur).runes and bytes.
-/
import Derived.Test.YtdhppigjlldfmaaCur2
namespace Go.Proofs.Ytdhppigjlldfmaa
open Go.ChangeShapes Go.WideShapes Go.ChangeAt Go.RowKit
theorem own_ne_cur {w : World} {base : Nat} {e : TypeId} {size : Nat} {v : Value} {n : Nat} {xs : List Value} (h : w.ownsRow base e size v n xs) {b : Nat} (hb : b < base) : v.ownBlock = none ∨ v.ownBlock ≠ some b := by
  cases hv : v.ownBlock with
  | none => exact .inl rfl
  | some g => exact .inr fun e' => by have := (h.lt g hv).1; have := Option.some.inj e'; omega
end Go.Proofs.Ytdhppigjlldfmaa
