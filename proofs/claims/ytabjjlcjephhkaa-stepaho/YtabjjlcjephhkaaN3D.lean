/-
  SplitAll of both: each rune's parts one behind the other.
-/
import Derived.Test.YtabjjlcjephhkaaN3C
namespace Go.Proofs.Ytabjjlcjephhkaa
open Go.ChangeShapes Go.WideShapes Go.ChangeAt Go.RowKit
end Go.Proofs.Ytabjjlcjephhkaa
