/-
  Contract of impl.GoodDfa.
-/
import Derived.Test.YthhmijobfbjkiaaM6E
namespace Go.Proofs.Ythhmijobfbjkiaa
open Go.ChangeShapes Go.WideShapes Go.ChangeAt Go.RowKit
end Go.Proofs.Ythhmijobfbjkiaa
