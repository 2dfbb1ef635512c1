/-
  MeetSet of the program: all meetings of two spans are joined.
-/
import Derived.Test.YtkbijnojmfplpaaC4X
namespace Go.Proofs.Ytkbijnojmfplpaa
open Go.ChangeShapes Go.WideShapes Go.ChangeAt Go.RowKit
end Go.Proofs.Ytkbijnojmfplpaa
