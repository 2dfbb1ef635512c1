/-
  Contract of impl.GoodDfa.
-/
import Derived.Test.YtdhppigjlldfmaaM6E
namespace Go.Proofs.Ytdhppigjlldfmaa
open Go.ChangeShapes Go.WideShapes Go.ChangeAt Go.RowKit
end Go.Proofs.Ytdhppigjlldfmaa
