/-
  UnionSet of both: slices.Grow (by the library's contract), slices.Concat of two arrays of spans.
-/
import Derived.Test.YtkbijnojmfplpaaC4Y
import Derived.Shelf.Spec.SlicesGrow
namespace Go.Proofs.Ytkbijnojmfplpaa
open Go.ChangeShapes Go.WideShapes Go.ChangeAt Go.RowKit
open Go.Shelf
/-- What Concat has at each round. -/
def catK (S1 S2 : List (Int × Int)) : Nat → List (Int × Int)
  | 0 => []
  | 1 => S1
  | _ => S1 ++ S2
section
variable (L M : List Int) (ao bo : Option Addr) (ca cb : Nat) (w : World)
end
end Go.Proofs.Ytkbijnojmfplpaa
