/-
  SplitAll of both: each rune's parts one behind the other.
-/
import Derived.Test.YtkbijnojmfplpaaN3C
namespace Go.Proofs.Ytkbijnojmfplpaa
open Go.ChangeShapes Go.WideShapes Go.ChangeAt Go.RowKit
end Go.Proofs.Ytkbijnojmfplpaa
