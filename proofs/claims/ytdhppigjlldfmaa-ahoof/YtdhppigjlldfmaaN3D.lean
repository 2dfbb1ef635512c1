/-
  SplitAll of both: each rune's parts one behind the other.
-/
import Derived.Test.YtdhppigjlldfmaaN3C
namespace Go.Proofs.Ytdhppigjlldfmaa
open Go.ChangeShapes Go.WideShapes Go.ChangeAt Go.RowKit
end Go.Proofs.Ytdhppigjlldfmaa
