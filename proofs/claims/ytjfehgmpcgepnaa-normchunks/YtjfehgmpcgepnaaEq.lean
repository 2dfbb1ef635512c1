/-
  Contract of laws.eqIntS: of two lists of the same numbers it tells true.
-/
import Derived.Test.YtjfehgmpcgepnaaLst
namespace Go.Proofs.Ytjfehgmpcgepnaa
open Go.ChangeShapes Go.WideShapes Go.ChangeAt Go.RowKit
end Go.Proofs.Ytjfehgmpcgepnaa
