/-
  SplitAll of both: each rune's parts one behind the other.
-/
import Derived.Test.YtlkcdcdgpklpoaaN3C
namespace Go.Proofs.Ytlkcdcdgpklpoaa
open Go.ChangeShapes Go.WideShapes Go.ChangeAt Go.RowKit
end Go.Proofs.Ytlkcdcdgpklpoaa
