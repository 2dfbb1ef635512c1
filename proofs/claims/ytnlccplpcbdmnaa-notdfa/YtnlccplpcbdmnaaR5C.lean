/-
  The laws' own copies, sizes and comparisons of lists of nodes.
-/
import Derived.Test.YtnlccplpcbdmnaaR5A
import Derived.Test.YtnlccplpcbdmnaaEq
import Derived.Test.YtnlccplpcbdmnaaReg
namespace Go.Proofs.Ytnlccplpcbdmnaa
open Go.ChangeShapes Go.WideShapes Go.ChangeAt Go.RowKit
end Go.Proofs.Ytnlccplpcbdmnaa
