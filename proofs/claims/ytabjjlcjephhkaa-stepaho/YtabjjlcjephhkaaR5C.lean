/-
  The laws' own copies, sizes and comparisons of lists of nodes.
-/
import Derived.Test.YtabjjlcjephhkaaR5A
import Derived.Test.YtabjjlcjephhkaaEq
import Derived.Test.YtabjjlcjephhkaaReg
namespace Go.Proofs.Ytabjjlcjephhkaa
open Go.ChangeShapes Go.WideShapes Go.ChangeAt Go.RowKit
end Go.Proofs.Ytabjjlcjephhkaa
