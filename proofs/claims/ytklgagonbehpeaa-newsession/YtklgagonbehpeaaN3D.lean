/-
  SplitAll of both: each rune's parts one behind the other.
-/
import Derived.Test.YtklgagonbehpeaaN3C
namespace Go.Proofs.Ytklgagonbehpeaa
open Go.ChangeShapes Go.WideShapes Go.ChangeAt Go.RowKit
end Go.Proofs.Ytklgagonbehpeaa
