/-
  SplitAll of both: each rune's parts one behind the other.
-/
import Derived.Test.YtendikiflikobaaN3C
namespace Go.Proofs.Ytendikiflikobaa
open Go.ChangeShapes Go.WideShapes Go.ChangeAt Go.RowKit
end Go.Proofs.Ytendikiflikobaa
