/-
  DERIVED. GIVEN WITH THE SEED: THE CARDS: each row of YtdhppigjlldfmaaDoorRows.lean that lists a variable, with what it lists TIED to the program's text (the seventh form; the later family's looks); each row that meets fmt, with fmt's text TOLD by the authors' own Lean function (tested against real Go, not proved from fmt's source: count such statements apart). THE CARD IS WHAT COUNTS. Prove the row's statement (the work); the ties are given (YtdhppigjlldfmaaDoorTie.lean); close each card by the builder's one call (the guide's Derived/Test/ToyasCard.lean, 'card_holds'). Laid BY PROGRAM, IN A SANDBOX (cutbox-door.mjs). By AI agents, Wed Nov 11 2026. No macro, syntax, notation, axiom, sorry.
-/
import Derived.Test.YtdhppigjlldfmaaDoorRows
import GoSem.ClaimSeven
namespace Go.Proofs.YtdhppigjlldfmaaDoor
namespace Rows

/-- THE TIED CARD OF 'laws.FnExactGlobOf'. -/
def fnExactGlobOfCard : Claim7 := { stood := { row := fnExactGlobOfRow, standIns := [], harness := (true, "ee07a18a1b5897700507f1c2dc713ebdc681c1b90655e85ec2a467eaa05912ed"), looks := false }, kinds := [], alts := [], laidByText := true, laidKinds := [.data, .data], laidTests := true, laidLooks := .later }
def FnExactGlobOfCardSaid : Prop := Claim7.holds Tryd.pinned (.plain (OpenSpec.ofChange fnExactGlobOfSpec)) fnExactGlobOfCard

/-- THE SECOND FORM's CARD OF 'laws.FnExactGlobOf'. -/
def fnExactGlobOfUptoCard : Claim7 := { stood := { row := fnExactGlobOfUptoRow, standIns := [], harness := (true, "ee07a18a1b5897700507f1c2dc713ebdc681c1b90655e85ec2a467eaa05912ed"), looks := false }, kinds := [], alts := [], laidByText := true, laidKinds := [.data, .data], laidTests := true, laidLooks := .later }
def FnExactGlobOfUptoCardSaid : Prop := Claim7.holds Tryd.pinned (.plain (OpenSpec.upto fnExactGlobOfSpec)) fnExactGlobOfUptoCard
end Rows
end Go.Proofs.YtdhppigjlldfmaaDoor
