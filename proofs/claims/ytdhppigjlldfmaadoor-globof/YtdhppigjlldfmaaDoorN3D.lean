/-
  SplitAll of both: each rune's parts one behind the other.
-/
import Derived.Test.YtdhppigjlldfmaaDoorN3C
namespace Go.Proofs.YtdhppigjlldfmaaDoor
open Go.ChangeShapes Go.WideShapes Go.ChangeAt Go.RowKit
end Go.Proofs.YtdhppigjlldfmaaDoor
