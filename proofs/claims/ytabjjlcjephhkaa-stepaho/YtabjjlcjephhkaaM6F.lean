/-
  Contract of impl.GoodDfa.
-/
import Derived.Test.YtabjjlcjephhkaaM6E
namespace Go.Proofs.Ytabjjlcjephhkaa
open Go.ChangeShapes Go.WideShapes Go.ChangeAt Go.RowKit
end Go.Proofs.Ytabjjlcjephhkaa
