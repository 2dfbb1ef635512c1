/-
  Contract of laws.eqIntS: of two lists of the same numbers it tells true.
-/
import Derived.Test.YtmmhgeaddldhlaaLst
namespace Go.Proofs.Ytmmhgeaddldhlaa
open Go.ChangeShapes Go.WideShapes Go.ChangeAt Go.RowKit
end Go.Proofs.Ytmmhgeaddldhlaa
