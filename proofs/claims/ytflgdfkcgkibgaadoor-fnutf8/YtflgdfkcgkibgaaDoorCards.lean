/-
  DERIVED. GIVEN WITH THE SEED: THE CARDS: each row of YtflgdfkcgkibgaaDoorRows.lean that lists a variable, with what it lists TIED to the program's text (the seventh form; the later family's looks); each row that meets fmt, with fmt's text TOLD by the authors' own Lean function (tested against real Go, not proved from fmt's source: count such statements apart). THE CARD IS WHAT COUNTS. Prove the row's statement (the work); the ties are given (YtflgdfkcgkibgaaDoorTie.lean); close each card by the builder's one call (the guide's Derived/Test/ToyasCard.lean, 'card_holds'). Laid BY PROGRAM, IN A SANDBOX (cutbox-door.mjs). By AI agents, Wed Nov 11 2026. No macro, syntax, notation, axiom, sorry.
-/
import Derived.Test.YtflgdfkcgkibgaaDoorRows
import GoSem.ClaimSeven
namespace Go.Proofs.YtflgdfkcgkibgaaDoor
namespace Rows

/-- THE TIED CARD OF 'laws.FnUtf8'. -/
def fnUtf8Card : Claim7 := { stood := { row := fnUtf8Row, standIns := [], harness := (true, "10b5ded6145312b1d4edd6d77946edd5c4fe228a14f571a43fdda9cf66823ea1"), looks := false }, kinds := [], alts := [], laidByText := true, laidKinds := [.data, .data], laidTests := true, laidLooks := .later }
def FnUtf8CardSaid : Prop := Claim7.holds Tryd.pinned (.plain (OpenSpec.ofChange fnUtf8Spec)) fnUtf8Card

/-- THE TIED CARD OF 'laws.FnExactUtf8Of'. -/
def fnExactUtf8OfCard : Claim7 := { stood := { row := fnExactUtf8OfRow, standIns := [], harness := (true, "10b5ded6145312b1d4edd6d77946edd5c4fe228a14f571a43fdda9cf66823ea1"), looks := false }, kinds := [], alts := [], laidByText := true, laidKinds := [.data, .data], laidTests := true, laidLooks := .later }
def FnExactUtf8OfCardSaid : Prop := Claim7.holds Tryd.pinned (.plain (OpenSpec.ofChange fnExactUtf8OfSpec)) fnExactUtf8OfCard

/-- THE TIED CARD OF 'laws.FnExactRuneAt'. -/
def fnExactRuneAtCard : Claim7 := { stood := { row := fnExactRuneAtRow, standIns := [], harness := (true, "10b5ded6145312b1d4edd6d77946edd5c4fe228a14f571a43fdda9cf66823ea1"), looks := false }, kinds := [], alts := [], laidByText := true, laidKinds := [.data, .data], laidTests := true, laidLooks := .later }
def FnExactRuneAtCardSaid : Prop := Claim7.holds Tryd.pinned (.plain (OpenSpec.ofChange fnExactRuneAtSpec)) fnExactRuneAtCard

/-- THE TIED CARD OF 'laws.FnExactTextOf'. -/
def fnExactTextOfCard : Claim7 := { stood := { row := fnExactTextOfRow, standIns := [], harness := (true, "10b5ded6145312b1d4edd6d77946edd5c4fe228a14f571a43fdda9cf66823ea1"), looks := false }, kinds := [], alts := [], laidByText := true, laidKinds := [.data, .data], laidTests := true, laidLooks := .later }
def FnExactTextOfCardSaid : Prop := Claim7.holds Tryd.pinned (.plain (OpenSpec.ofChange fnExactTextOfSpec)) fnExactTextOfCard

/-- THE TIED CARD OF 'laws.FnExactIsBegun'. -/
def fnExactIsBegunCard : Claim7 := { stood := { row := fnExactIsBegunRow, standIns := [], harness := (true, "10b5ded6145312b1d4edd6d77946edd5c4fe228a14f571a43fdda9cf66823ea1"), looks := false }, kinds := [], alts := [], laidByText := true, laidKinds := [.data, .data], laidTests := true, laidLooks := .later }
def FnExactIsBegunCardSaid : Prop := Claim7.holds Tryd.pinned (.plain (OpenSpec.ofChange fnExactIsBegunSpec)) fnExactIsBegunCard

/-- THE TIED CARD OF 'laws.FnExactIsWhole'. -/
def fnExactIsWholeCard : Claim7 := { stood := { row := fnExactIsWholeRow, standIns := [], harness := (true, "10b5ded6145312b1d4edd6d77946edd5c4fe228a14f571a43fdda9cf66823ea1"), looks := false }, kinds := [], alts := [], laidByText := true, laidKinds := [.data, .data], laidTests := true, laidLooks := .later }
def FnExactIsWholeCardSaid : Prop := Claim7.holds Tryd.pinned (.plain (OpenSpec.ofChange fnExactIsWholeSpec)) fnExactIsWholeCard

/-- THE SECOND FORM's CARD OF 'laws.FnUtf8'. -/
def fnUtf8UptoCard : Claim7 := { stood := { row := fnUtf8UptoRow, standIns := [], harness := (true, "10b5ded6145312b1d4edd6d77946edd5c4fe228a14f571a43fdda9cf66823ea1"), looks := false }, kinds := [], alts := [], laidByText := true, laidKinds := [.data, .data], laidTests := true, laidLooks := .later }
def FnUtf8UptoCardSaid : Prop := Claim7.holds Tryd.pinned (.plain (OpenSpec.upto fnUtf8Spec)) fnUtf8UptoCard

/-- THE SECOND FORM's CARD OF 'laws.FnExactUtf8Of'. -/
def fnExactUtf8OfUptoCard : Claim7 := { stood := { row := fnExactUtf8OfUptoRow, standIns := [], harness := (true, "10b5ded6145312b1d4edd6d77946edd5c4fe228a14f571a43fdda9cf66823ea1"), looks := false }, kinds := [], alts := [], laidByText := true, laidKinds := [.data, .data], laidTests := true, laidLooks := .later }
def FnExactUtf8OfUptoCardSaid : Prop := Claim7.holds Tryd.pinned (.plain (OpenSpec.upto fnExactUtf8OfSpec)) fnExactUtf8OfUptoCard

/-- THE SECOND FORM's CARD OF 'laws.FnExactRuneAt'. -/
def fnExactRuneAtUptoCard : Claim7 := { stood := { row := fnExactRuneAtUptoRow, standIns := [], harness := (true, "10b5ded6145312b1d4edd6d77946edd5c4fe228a14f571a43fdda9cf66823ea1"), looks := false }, kinds := [], alts := [], laidByText := true, laidKinds := [.data, .data], laidTests := true, laidLooks := .later }
def FnExactRuneAtUptoCardSaid : Prop := Claim7.holds Tryd.pinned (.plain (OpenSpec.upto fnExactRuneAtSpec)) fnExactRuneAtUptoCard

/-- THE SECOND FORM's CARD OF 'laws.FnExactTextOf'. -/
def fnExactTextOfUptoCard : Claim7 := { stood := { row := fnExactTextOfUptoRow, standIns := [], harness := (true, "10b5ded6145312b1d4edd6d77946edd5c4fe228a14f571a43fdda9cf66823ea1"), looks := false }, kinds := [], alts := [], laidByText := true, laidKinds := [.data, .data], laidTests := true, laidLooks := .later }
def FnExactTextOfUptoCardSaid : Prop := Claim7.holds Tryd.pinned (.plain (OpenSpec.upto fnExactTextOfSpec)) fnExactTextOfUptoCard

/-- THE SECOND FORM's CARD OF 'laws.FnExactIsBegun'. -/
def fnExactIsBegunUptoCard : Claim7 := { stood := { row := fnExactIsBegunUptoRow, standIns := [], harness := (true, "10b5ded6145312b1d4edd6d77946edd5c4fe228a14f571a43fdda9cf66823ea1"), looks := false }, kinds := [], alts := [], laidByText := true, laidKinds := [.data, .data], laidTests := true, laidLooks := .later }
def FnExactIsBegunUptoCardSaid : Prop := Claim7.holds Tryd.pinned (.plain (OpenSpec.upto fnExactIsBegunSpec)) fnExactIsBegunUptoCard

/-- THE SECOND FORM's CARD OF 'laws.FnExactIsWhole'. -/
def fnExactIsWholeUptoCard : Claim7 := { stood := { row := fnExactIsWholeUptoRow, standIns := [], harness := (true, "10b5ded6145312b1d4edd6d77946edd5c4fe228a14f571a43fdda9cf66823ea1"), looks := false }, kinds := [], alts := [], laidByText := true, laidKinds := [.data, .data], laidTests := true, laidLooks := .later }
def FnExactIsWholeUptoCardSaid : Prop := Claim7.holds Tryd.pinned (.plain (OpenSpec.upto fnExactIsWholeSpec)) fnExactIsWholeUptoCard
end Rows
end Go.Proofs.YtflgdfkcgkibgaaDoor
