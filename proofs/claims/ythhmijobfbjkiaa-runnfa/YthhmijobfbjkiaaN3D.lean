/-
  SplitAll of both: each rune's parts one behind the other.
-/
import Derived.Test.YthhmijobfbjkiaaN3C
namespace Go.Proofs.Ythhmijobfbjkiaa
open Go.ChangeShapes Go.WideShapes Go.ChangeAt Go.RowKit
end Go.Proofs.Ythhmijobfbjkiaa
