/-
  SplitAll of both: each rune's parts one behind the other.
-/
import Derived.Test.YtnlccplpcbdmnaaN3C
namespace Go.Proofs.Ytnlccplpcbdmnaa
open Go.ChangeShapes Go.WideShapes Go.ChangeAt Go.RowKit
end Go.Proofs.Ytnlccplpcbdmnaa
