/-
  DERIVED. GIVEN WITH THE SEED: THE CARDS: each row of YtjnnikbgpjiecaaDoorRows.lean that lists a variable, with what it lists TIED to the program's text (the seventh form; the later family's looks); each row that meets fmt, with fmt's text TOLD by the authors' own Lean function (tested against real Go, not proved from fmt's source: count such statements apart). THE CARD IS WHAT COUNTS. Prove the row's statement (the work); the ties are given (YtjnnikbgpjiecaaDoorTie.lean); close each card by the builder's one call (the guide's Derived/Test/ToyasCard.lean, 'card_holds'). Laid BY PROGRAM, IN A SANDBOX (cutbox-door.mjs). By AI agents, Wed Nov 11 2026. No macro, syntax, notation, axiom, sorry.
-/
import Derived.Test.YtjnnikbgpjiecaaDoorRows
import GoSem.ClaimSeven
namespace Go.Proofs.YtjnnikbgpjiecaaDoor
namespace Rows

/-- THE TIED CARD OF 'laws.FnChunks'. -/
def fnChunksCard : Claim7 := { stood := { row := fnChunksRow, standIns := [], harness := (true, "a8ef5e3b27bbd70eb2d18bb395777a942b38f7b27e59c9729f61fb143e5d0236"), looks := true }, kinds := [], alts := [], laidByText := true, laidKinds := [.data, .data], laidTests := true, laidLooks := .later }
def FnChunksCardSaid : Prop := Claim7.holds Tryd.pinned (.plain (OpenSpec.ofChange fnChunksSpec)) fnChunksCard

/-- THE TIED CARD OF 'laws.FnEncoded'. -/
def fnEncodedCard : Claim7 := { stood := { row := fnEncodedRow, standIns := [], harness := (true, "a8ef5e3b27bbd70eb2d18bb395777a942b38f7b27e59c9729f61fb143e5d0236"), looks := true }, kinds := [], alts := [], laidByText := true, laidKinds := [.data, .data], laidTests := true, laidLooks := .later }
def FnEncodedCardSaid : Prop := Claim7.holds Tryd.pinned (.plain (OpenSpec.ofChange fnEncodedSpec)) fnEncodedCard

/-- THE TIED CARD OF 'laws.FnExactGoodDecoder'. -/
def fnExactGoodDecoderCard : Claim7 := { stood := { row := fnExactGoodDecoderRow, standIns := [], harness := (true, "a8ef5e3b27bbd70eb2d18bb395777a942b38f7b27e59c9729f61fb143e5d0236"), looks := true }, kinds := [], alts := [], laidByText := true, laidKinds := [.data, .data], laidTests := true, laidLooks := .later }
def FnExactGoodDecoderCardSaid : Prop := Claim7.holds Tryd.pinned (.plain (OpenSpec.ofChange fnExactGoodDecoderSpec)) fnExactGoodDecoderCard

/-- THE TIED CARD OF 'laws.FnExactFeedDecoder'. -/
def fnExactFeedDecoderCard : Claim7 := { stood := { row := fnExactFeedDecoderRow, standIns := [], harness := (true, "a8ef5e3b27bbd70eb2d18bb395777a942b38f7b27e59c9729f61fb143e5d0236"), looks := true }, kinds := [], alts := [], laidByText := true, laidKinds := [.data, .data], laidTests := true, laidLooks := .later }
def FnExactFeedDecoderCardSaid : Prop := Claim7.holds Tryd.pinned (.plain (OpenSpec.ofChange fnExactFeedDecoderSpec)) fnExactFeedDecoderCard

/-- THE TIED CARD OF 'laws.FnExactFlushDecoder'. -/
def fnExactFlushDecoderCard : Claim7 := { stood := { row := fnExactFlushDecoderRow, standIns := [], harness := (true, "a8ef5e3b27bbd70eb2d18bb395777a942b38f7b27e59c9729f61fb143e5d0236"), looks := true }, kinds := [], alts := [], laidByText := true, laidKinds := [.data, .data], laidTests := true, laidLooks := .later }
def FnExactFlushDecoderCardSaid : Prop := Claim7.holds Tryd.pinned (.plain (OpenSpec.ofChange fnExactFlushDecoderSpec)) fnExactFlushDecoderCard

/-- THE TIED CARD OF 'laws.FnExactDecodeAll'. -/
def fnExactDecodeAllCard : Claim7 := { stood := { row := fnExactDecodeAllRow, standIns := [], harness := (true, "a8ef5e3b27bbd70eb2d18bb395777a942b38f7b27e59c9729f61fb143e5d0236"), looks := true }, kinds := [], alts := [], laidByText := true, laidKinds := [.data, .data], laidTests := true, laidLooks := .later }
def FnExactDecodeAllCardSaid : Prop := Claim7.holds Tryd.pinned (.plain (OpenSpec.ofChange fnExactDecodeAllSpec)) fnExactDecodeAllCard

/-- THE TIED CARD OF 'laws.FnExactGuessCode'. -/
def fnExactGuessCodeCard : Claim7 := { stood := { row := fnExactGuessCodeRow, standIns := [], harness := (true, "a8ef5e3b27bbd70eb2d18bb395777a942b38f7b27e59c9729f61fb143e5d0236"), looks := true }, kinds := [], alts := [], laidByText := true, laidKinds := [.data, .data], laidTests := true, laidLooks := .later }
def FnExactGuessCodeCardSaid : Prop := Claim7.holds Tryd.pinned (.plain (OpenSpec.ofChange fnExactGuessCodeSpec)) fnExactGuessCodeCard

/-- THE SECOND FORM's CARD OF 'laws.FnChunks'. -/
def fnChunksUptoCard : Claim7 := { stood := { row := fnChunksUptoRow, standIns := [], harness := (true, "a8ef5e3b27bbd70eb2d18bb395777a942b38f7b27e59c9729f61fb143e5d0236"), looks := true }, kinds := [], alts := [], laidByText := true, laidKinds := [.data, .data], laidTests := true, laidLooks := .later }
def FnChunksUptoCardSaid : Prop := Claim7.holds Tryd.pinned (.plain (OpenSpec.upto fnChunksSpec)) fnChunksUptoCard

/-- THE SECOND FORM's CARD OF 'laws.FnEncoded'. -/
def fnEncodedUptoCard : Claim7 := { stood := { row := fnEncodedUptoRow, standIns := [], harness := (true, "a8ef5e3b27bbd70eb2d18bb395777a942b38f7b27e59c9729f61fb143e5d0236"), looks := true }, kinds := [], alts := [], laidByText := true, laidKinds := [.data, .data], laidTests := true, laidLooks := .later }
def FnEncodedUptoCardSaid : Prop := Claim7.holds Tryd.pinned (.plain (OpenSpec.upto fnEncodedSpec)) fnEncodedUptoCard

/-- THE SECOND FORM's CARD OF 'laws.FnExactGoodDecoder'. -/
def fnExactGoodDecoderUptoCard : Claim7 := { stood := { row := fnExactGoodDecoderUptoRow, standIns := [], harness := (true, "a8ef5e3b27bbd70eb2d18bb395777a942b38f7b27e59c9729f61fb143e5d0236"), looks := true }, kinds := [], alts := [], laidByText := true, laidKinds := [.data, .data], laidTests := true, laidLooks := .later }
def FnExactGoodDecoderUptoCardSaid : Prop := Claim7.holds Tryd.pinned (.plain (OpenSpec.upto fnExactGoodDecoderSpec)) fnExactGoodDecoderUptoCard

/-- THE SECOND FORM's CARD OF 'laws.FnExactFeedDecoder'. -/
def fnExactFeedDecoderUptoCard : Claim7 := { stood := { row := fnExactFeedDecoderUptoRow, standIns := [], harness := (true, "a8ef5e3b27bbd70eb2d18bb395777a942b38f7b27e59c9729f61fb143e5d0236"), looks := true }, kinds := [], alts := [], laidByText := true, laidKinds := [.data, .data], laidTests := true, laidLooks := .later }
def FnExactFeedDecoderUptoCardSaid : Prop := Claim7.holds Tryd.pinned (.plain (OpenSpec.upto fnExactFeedDecoderSpec)) fnExactFeedDecoderUptoCard

/-- THE SECOND FORM's CARD OF 'laws.FnExactFlushDecoder'. -/
def fnExactFlushDecoderUptoCard : Claim7 := { stood := { row := fnExactFlushDecoderUptoRow, standIns := [], harness := (true, "a8ef5e3b27bbd70eb2d18bb395777a942b38f7b27e59c9729f61fb143e5d0236"), looks := true }, kinds := [], alts := [], laidByText := true, laidKinds := [.data, .data], laidTests := true, laidLooks := .later }
def FnExactFlushDecoderUptoCardSaid : Prop := Claim7.holds Tryd.pinned (.plain (OpenSpec.upto fnExactFlushDecoderSpec)) fnExactFlushDecoderUptoCard

/-- THE SECOND FORM's CARD OF 'laws.FnExactDecodeAll'. -/
def fnExactDecodeAllUptoCard : Claim7 := { stood := { row := fnExactDecodeAllUptoRow, standIns := [], harness := (true, "a8ef5e3b27bbd70eb2d18bb395777a942b38f7b27e59c9729f61fb143e5d0236"), looks := true }, kinds := [], alts := [], laidByText := true, laidKinds := [.data, .data], laidTests := true, laidLooks := .later }
def FnExactDecodeAllUptoCardSaid : Prop := Claim7.holds Tryd.pinned (.plain (OpenSpec.upto fnExactDecodeAllSpec)) fnExactDecodeAllUptoCard

/-- THE SECOND FORM's CARD OF 'laws.FnExactGuessCode'. -/
def fnExactGuessCodeUptoCard : Claim7 := { stood := { row := fnExactGuessCodeUptoRow, standIns := [], harness := (true, "a8ef5e3b27bbd70eb2d18bb395777a942b38f7b27e59c9729f61fb143e5d0236"), looks := true }, kinds := [], alts := [], laidByText := true, laidKinds := [.data, .data], laidTests := true, laidLooks := .later }
def FnExactGuessCodeUptoCardSaid : Prop := Claim7.holds Tryd.pinned (.plain (OpenSpec.upto fnExactGuessCodeSpec)) fnExactGuessCodeUptoCard
end Rows
end Go.Proofs.YtjnnikbgpjiecaaDoor
