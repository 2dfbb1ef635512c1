/-
  The laws' own copies, sizes and comparisons of lists of nodes.
-/
import Derived.Test.YtjfehgmpcgepnaaR5A
import Derived.Test.YtjfehgmpcgepnaaEq
import Derived.Test.YtjfehgmpcgepnaaReg
namespace Go.Proofs.Ytjfehgmpcgepnaa
open Go.ChangeShapes Go.WideShapes Go.ChangeAt Go.RowKit
end Go.Proofs.Ytjfehgmpcgepnaa
