/-
  The laws' own copies, sizes and comparisons of lists of nodes.
-/
import Derived.Test.YtdhppigjlldfmaaR5A
import Derived.Test.YtdhppigjlldfmaaEq
import Derived.Test.YtdhppigjlldfmaaReg
namespace Go.Proofs.Ytdhppigjlldfmaa
open Go.ChangeShapes Go.WideShapes Go.ChangeAt Go.RowKit
end Go.Proofs.Ytdhppigjlldfmaa
