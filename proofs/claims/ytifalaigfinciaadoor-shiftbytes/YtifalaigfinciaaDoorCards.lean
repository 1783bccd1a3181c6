/-
  DERIVED. GIVEN WITH THE SEED: THE CARDS: each row of YtifalaigfinciaaDoorRows.lean that lists a variable, with what it lists TIED to the program's text (the seventh form; the later family's looks); each row that meets fmt, with fmt's text TOLD by the authors' own Lean function (tested against real Go, not proved from fmt's source: count such statements apart). THE CARD IS WHAT COUNTS. Prove the row's statement (the work); the ties are given (YtifalaigfinciaaDoorTie.lean); close each card by the builder's one call (the guide's Derived/Test/ToyasCard.lean, 'card_holds'). Laid BY PROGRAM, IN A SANDBOX (cutbox-door.mjs). By AI agents, Wed Nov 11 2026. No macro, syntax, notation, axiom, sorry.
-/
import Derived.Test.YtifalaigfinciaaDoorRows
import GoSem.ClaimSeven
namespace Go.Proofs.YtifalaigfinciaaDoor
namespace Rows

/-- THE TIED CARD OF 'wapentakelaw12.ShiftBytes'. -/
def shiftBytesCard : Claim7 := { stood := { row := shiftBytesRow, standIns := [], harness := (true, "fa4ea9f8419c9cea5dc783fe5a28e40ddde16ee654c1476d87ec147786cb4de3"), looks := true }, kinds := [], alts := [], laidByText := true, laidKinds := [.data, .data, .data, .sentinel, .sentinel], laidTests := true, laidLooks := .later }
def ShiftBytesCardSaid : Prop := Claim7.holds Tryd.pinned (.plain (OpenSpec.ofChange shiftBytesSpec)) shiftBytesCard

/-- THE TIED CARD OF 'wapentakelaw12.ShiftLost'. -/
def shiftLostCard : Claim7 := { stood := { row := shiftLostRow, standIns := [], harness := (true, "fa4ea9f8419c9cea5dc783fe5a28e40ddde16ee654c1476d87ec147786cb4de3"), looks := true }, kinds := [], alts := [], laidByText := true, laidKinds := [.data, .data, .data, .sentinel, .sentinel], laidTests := true, laidLooks := .later }
def ShiftLostCardSaid : Prop := Claim7.holds Tryd.pinned (.plain (OpenSpec.ofChange shiftLostSpec)) shiftLostCard

/-- THE TIED CARD OF 'wapentakelaw12.ShiftTurned'. -/
def shiftTurnedCard : Claim7 := { stood := { row := shiftTurnedRow, standIns := [], harness := (true, "fa4ea9f8419c9cea5dc783fe5a28e40ddde16ee654c1476d87ec147786cb4de3"), looks := true }, kinds := [], alts := [], laidByText := true, laidKinds := [.data, .data, .data, .sentinel, .sentinel], laidTests := true, laidLooks := .later }
def ShiftTurnedCardSaid : Prop := Claim7.holds Tryd.pinned (.plain (OpenSpec.ofChange shiftTurnedSpec)) shiftTurnedCard

/-- THE SECOND FORM's CARD OF 'wapentakelaw12.ShiftBytes'. -/
def shiftBytesUptoCard : Claim7 := { stood := { row := shiftBytesUptoRow, standIns := [], harness := (true, "fa4ea9f8419c9cea5dc783fe5a28e40ddde16ee654c1476d87ec147786cb4de3"), looks := true }, kinds := [], alts := [], laidByText := true, laidKinds := [.data, .data, .data, .sentinel, .sentinel], laidTests := true, laidLooks := .later }
def ShiftBytesUptoCardSaid : Prop := Claim7.holds Tryd.pinned (.plain (OpenSpec.upto shiftBytesSpec)) shiftBytesUptoCard

/-- THE SECOND FORM's CARD OF 'wapentakelaw12.ShiftLost'. -/
def shiftLostUptoCard : Claim7 := { stood := { row := shiftLostUptoRow, standIns := [], harness := (true, "fa4ea9f8419c9cea5dc783fe5a28e40ddde16ee654c1476d87ec147786cb4de3"), looks := true }, kinds := [], alts := [], laidByText := true, laidKinds := [.data, .data, .data, .sentinel, .sentinel], laidTests := true, laidLooks := .later }
def ShiftLostUptoCardSaid : Prop := Claim7.holds Tryd.pinned (.plain (OpenSpec.upto shiftLostSpec)) shiftLostUptoCard

/-- THE SECOND FORM's CARD OF 'wapentakelaw12.ShiftTurned'. -/
def shiftTurnedUptoCard : Claim7 := { stood := { row := shiftTurnedUptoRow, standIns := [], harness := (true, "fa4ea9f8419c9cea5dc783fe5a28e40ddde16ee654c1476d87ec147786cb4de3"), looks := true }, kinds := [], alts := [], laidByText := true, laidKinds := [.data, .data, .data, .sentinel, .sentinel], laidTests := true, laidLooks := .later }
def ShiftTurnedUptoCardSaid : Prop := Claim7.holds Tryd.pinned (.plain (OpenSpec.upto shiftTurnedSpec)) shiftTurnedUptoCard
end Rows
end Go.Proofs.YtifalaigfinciaaDoor
