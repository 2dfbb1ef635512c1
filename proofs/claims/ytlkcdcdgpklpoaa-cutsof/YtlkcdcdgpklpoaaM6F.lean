/-
  Contract of impl.GoodDfa.
-/
import Derived.Test.YtlkcdcdgpklpoaaM6E
namespace Go.Proofs.Ytlkcdcdgpklpoaa
open Go.ChangeShapes Go.WideShapes Go.ChangeAt Go.RowKit
end Go.Proofs.Ytlkcdcdgpklpoaa
