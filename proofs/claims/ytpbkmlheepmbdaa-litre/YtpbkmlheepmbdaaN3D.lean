/-
  SplitAll of both: each rune's parts one behind the other.
-/
import Derived.Test.YtpbkmlheepmbdaaN3C
namespace Go.Proofs.Ytpbkmlheepmbdaa
open Go.ChangeShapes Go.WideShapes Go.ChangeAt Go.RowKit
end Go.Proofs.Ytpbkmlheepmbdaa
