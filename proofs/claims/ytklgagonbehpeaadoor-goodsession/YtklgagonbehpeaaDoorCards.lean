/-
  DERIVED. GIVEN WITH THE SEED: THE CARDS: each row of YtklgagonbehpeaaDoorRows.lean that lists a variable, with what it lists TIED to the program's text (the seventh form; the later family's looks); each row that meets fmt, with fmt's text TOLD by the authors' own Lean function (tested against real Go, not proved from fmt's source: count such statements apart). THE CARD IS WHAT COUNTS. Prove the row's statement (the work); the ties are given (YtklgagonbehpeaaDoorTie.lean); close each card by the builder's one call (the guide's Derived/Test/ToyasCard.lean, 'card_holds'). Laid BY PROGRAM, IN A SANDBOX (cutbox-door.mjs). By AI agents, Wed Nov 11 2026. No macro, syntax, notation, axiom, sorry.
-/
import Derived.Test.YtklgagonbehpeaaDoorRows
import GoSem.ClaimSeven
namespace Go.Proofs.YtklgagonbehpeaaDoor
namespace Rows

/-- THE TIED CARD OF 'laws.FnExactGoodSession'. -/
def fnExactGoodSessionCard : Claim7 := { stood := { row := fnExactGoodSessionRow, standIns := [], harness := (true, "065e682a1347fd1a794fc1efa1970a1c67a0feed8cdedb42d804f590c58b3349"), looks := true }, kinds := [], alts := [], laidByText := true, laidKinds := [.data, .data], laidTests := true, laidLooks := .later }
def FnExactGoodSessionCardSaid : Prop := Claim7.holds Tryd.pinned (.plain (OpenSpec.ofChange fnExactGoodSessionSpec)) fnExactGoodSessionCard

/-- THE SECOND FORM's CARD OF 'laws.FnExactGoodSession'. -/
def fnExactGoodSessionUptoCard : Claim7 := { stood := { row := fnExactGoodSessionUptoRow, standIns := [], harness := (true, "065e682a1347fd1a794fc1efa1970a1c67a0feed8cdedb42d804f590c58b3349"), looks := true }, kinds := [], alts := [], laidByText := true, laidKinds := [.data, .data], laidTests := true, laidLooks := .later }
def FnExactGoodSessionUptoCardSaid : Prop := Claim7.holds Tryd.pinned (.plain (OpenSpec.upto fnExactGoodSessionSpec)) fnExactGoodSessionUptoCard
end Rows
end Go.Proofs.YtklgagonbehpeaaDoor
