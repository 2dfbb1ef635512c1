/-
  Contract of laws.eqIntS: of two lists of the same numbers it tells true.
-/
import Derived.Test.YtpkhmihkchiheaaLst
namespace Go.Proofs.Ytpkhmihkchiheaa
open Go.ChangeShapes Go.WideShapes Go.ChangeAt Go.RowKit
end Go.Proofs.Ytpkhmihkchiheaa
