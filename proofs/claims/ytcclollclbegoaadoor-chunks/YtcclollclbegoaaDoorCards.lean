/-
  DERIVED. GIVEN WITH THE SEED: THE CARDS: each row of YtcclollclbegoaaDoorRows.lean that lists a variable, with what it lists TIED to the program's text (the seventh form; the later family's looks); each row that meets fmt, with fmt's text TOLD by the authors' own Lean function (tested against real Go, not proved from fmt's source: count such statements apart). THE CARD IS WHAT COUNTS. Prove the row's statement (the work); the ties are given (YtcclollclbegoaaDoorTie.lean); close each card by the builder's one call (the guide's Derived/Test/ToyasCard.lean, 'card_holds'). Laid BY PROGRAM, IN A SANDBOX (cutbox-door.mjs). By AI agents, Wed Nov 11 2026. No macro, syntax, notation, axiom, sorry.
-/
import Derived.Test.YtcclollclbegoaaDoorRows
import GoSem.ClaimSeven
namespace Go.Proofs.YtcclollclbegoaaDoor
namespace Rows

/-- THE TIED CARD OF 'laws.FnChunks'. -/
def fnChunksCard : Claim7 := { stood := { row := fnChunksRow, standIns := [], harness := (true, "fa36c743f2d2b76759033b2bde6894e38d2a1b8ad761d5ee96bf236a26860082"), looks := true }, kinds := [], alts := [], laidByText := true, laidKinds := [.data, .data], laidTests := true, laidLooks := .later }
def FnChunksCardSaid : Prop := Claim7.holds Tryd.pinned (.plain (OpenSpec.ofChange fnChunksSpec)) fnChunksCard

/-- THE TIED CARD OF 'laws.FnEncoded'. -/
def fnEncodedCard : Claim7 := { stood := { row := fnEncodedRow, standIns := [], harness := (true, "fa36c743f2d2b76759033b2bde6894e38d2a1b8ad761d5ee96bf236a26860082"), looks := true }, kinds := [], alts := [], laidByText := true, laidKinds := [.data, .data], laidTests := true, laidLooks := .later }
def FnEncodedCardSaid : Prop := Claim7.holds Tryd.pinned (.plain (OpenSpec.ofChange fnEncodedSpec)) fnEncodedCard

/-- THE TIED CARD OF 'laws.FnExactDecodeAll'. -/
def fnExactDecodeAllCard : Claim7 := { stood := { row := fnExactDecodeAllRow, standIns := [], harness := (true, "fa36c743f2d2b76759033b2bde6894e38d2a1b8ad761d5ee96bf236a26860082"), looks := true }, kinds := [], alts := [], laidByText := true, laidKinds := [.data, .data], laidTests := true, laidLooks := .later }
def FnExactDecodeAllCardSaid : Prop := Claim7.holds Tryd.pinned (.plain (OpenSpec.ofChange fnExactDecodeAllSpec)) fnExactDecodeAllCard

/-- THE TIED CARD OF 'laws.FnExactGuessCode'. -/
def fnExactGuessCodeCard : Claim7 := { stood := { row := fnExactGuessCodeRow, standIns := [], harness := (true, "fa36c743f2d2b76759033b2bde6894e38d2a1b8ad761d5ee96bf236a26860082"), looks := true }, kinds := [], alts := [], laidByText := true, laidKinds := [.data, .data], laidTests := true, laidLooks := .later }
def FnExactGuessCodeCardSaid : Prop := Claim7.holds Tryd.pinned (.plain (OpenSpec.ofChange fnExactGuessCodeSpec)) fnExactGuessCodeCard

/-- THE SECOND FORM's CARD OF 'laws.FnChunks'. -/
def fnChunksUptoCard : Claim7 := { stood := { row := fnChunksUptoRow, standIns := [], harness := (true, "fa36c743f2d2b76759033b2bde6894e38d2a1b8ad761d5ee96bf236a26860082"), looks := true }, kinds := [], alts := [], laidByText := true, laidKinds := [.data, .data], laidTests := true, laidLooks := .later }
def FnChunksUptoCardSaid : Prop := Claim7.holds Tryd.pinned (.plain (OpenSpec.upto fnChunksSpec)) fnChunksUptoCard

/-- THE SECOND FORM's CARD OF 'laws.FnEncoded'. -/
def fnEncodedUptoCard : Claim7 := { stood := { row := fnEncodedUptoRow, standIns := [], harness := (true, "fa36c743f2d2b76759033b2bde6894e38d2a1b8ad761d5ee96bf236a26860082"), looks := true }, kinds := [], alts := [], laidByText := true, laidKinds := [.data, .data], laidTests := true, laidLooks := .later }
def FnEncodedUptoCardSaid : Prop := Claim7.holds Tryd.pinned (.plain (OpenSpec.upto fnEncodedSpec)) fnEncodedUptoCard

/-- THE SECOND FORM's CARD OF 'laws.FnExactDecodeAll'. -/
def fnExactDecodeAllUptoCard : Claim7 := { stood := { row := fnExactDecodeAllUptoRow, standIns := [], harness := (true, "fa36c743f2d2b76759033b2bde6894e38d2a1b8ad761d5ee96bf236a26860082"), looks := true }, kinds := [], alts := [], laidByText := true, laidKinds := [.data, .data], laidTests := true, laidLooks := .later }
def FnExactDecodeAllUptoCardSaid : Prop := Claim7.holds Tryd.pinned (.plain (OpenSpec.upto fnExactDecodeAllSpec)) fnExactDecodeAllUptoCard

/-- THE SECOND FORM's CARD OF 'laws.FnExactGuessCode'. -/
def fnExactGuessCodeUptoCard : Claim7 := { stood := { row := fnExactGuessCodeUptoRow, standIns := [], harness := (true, "fa36c743f2d2b76759033b2bde6894e38d2a1b8ad761d5ee96bf236a26860082"), looks := true }, kinds := [], alts := [], laidByText := true, laidKinds := [.data, .data], laidTests := true, laidLooks := .later }
def FnExactGuessCodeUptoCardSaid : Prop := Claim7.holds Tryd.pinned (.plain (OpenSpec.upto fnExactGuessCodeSpec)) fnExactGuessCodeUptoCard
end Rows
end Go.Proofs.YtcclollclbegoaaDoor
