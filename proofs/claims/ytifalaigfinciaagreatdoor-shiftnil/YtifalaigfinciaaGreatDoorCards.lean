/-
  DERIVED. GIVEN WITH THE SEED: THE CARDS: each row of YtifalaigfinciaaGreatDoorRows.lean that lists a variable, with what it lists TIED to the program's text (the seventh form; the later family's looks); each row that meets fmt, with fmt's text TOLD by the authors' own Lean function (tested against real Go, not proved from fmt's source: count such statements apart). THE CARD IS WHAT COUNTS. Prove the row's statement (the work); the ties are given (YtifalaigfinciaaGreatDoorTie.lean); close each card by the builder's one call (the guide's Derived/Test/ToyasCard.lean, 'card_holds'). Laid BY PROGRAM, IN A SANDBOX (cutbox-door.mjs). By AI agents, Wed Nov 11 2026. No macro, syntax, notation, axiom, sorry.
-/
import Derived.Test.YtifalaigfinciaaGreatDoorRows
import GoSem.ClaimSeven
namespace Go.Proofs.YtifalaigfinciaaGreatDoor
namespace Rows

/-- THE TIED CARD OF 'wapentakelaw12.ShiftNil'. -/
def shiftNilCard : Claim7 := { stood := { row := shiftNilRow, standIns := [], harness := (true, "f97a11003b83e70737c39344f39f90ab1cb20bb6a7900fbbee4137bb1a0394dc"), looks := true }, kinds := [], alts := [], laidByText := true, laidKinds := [.data, .data, .data, .sentinel, .sentinel, .data, .data], laidTests := true, laidLooks := .later }
def ShiftNilCardSaid : Prop := Claim7.holds Tryz.pinned (.plain (OpenSpec.ofChange shiftNilSpec)) shiftNilCard

/-- THE SECOND FORM's CARD OF 'wapentakelaw12.ShiftNil'. -/
def shiftNilUptoCard : Claim7 := { stood := { row := shiftNilUptoRow, standIns := [], harness := (true, "f97a11003b83e70737c39344f39f90ab1cb20bb6a7900fbbee4137bb1a0394dc"), looks := true }, kinds := [], alts := [], laidByText := true, laidKinds := [.data, .data, .data, .sentinel, .sentinel, .data, .data], laidTests := true, laidLooks := .later }
def ShiftNilUptoCardSaid : Prop := Claim7.holds Tryz.pinned (.plain (OpenSpec.upto shiftNilSpec)) shiftNilUptoCard
end Rows
end Go.Proofs.YtifalaigfinciaaGreatDoor
