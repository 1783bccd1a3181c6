/-
  DERIVED. GIVEN WITH THE SEED: THE CARDS: each row of YtmkjcfakopbdhaaGreatDoorRows.lean that lists a variable, with what it lists TIED to the program's text (the seventh form; the later family's looks); each row that meets fmt, with fmt's text TOLD by the authors' own Lean function (tested against real Go, not proved from fmt's source: count such statements apart). THE CARD IS WHAT COUNTS. Prove the row's statement (the work); the ties are given (YtmkjcfakopbdhaaGreatDoorTie.lean); close each card by the builder's one call (the guide's Derived/Test/ToyasCard.lean, 'card_holds'). Laid BY PROGRAM, IN A SANDBOX (cutbox-door.mjs). By AI agents, Wed Nov 11 2026. No macro, syntax, notation, axiom, sorry.
-/
import Derived.Test.YtmkjcfakopbdhaaGreatDoorRows
import GoSem.ClaimSeven
namespace Go.Proofs.YtmkjcfakopbdhaaGreatDoor
namespace Rows

/-- THE TIED CARD OF 'wapentakelaw19.MemoHolds'. -/
def memoHoldsCard : Claim7 := { stood := { row := memoHoldsRow, standIns := [], harness := (true, "09c56d2e5f91ccc4b7c2ca6d464b641abf84aed0f7962d3d16ab0a5b1346c3c8"), looks := true }, kinds := [], alts := [], laidByText := true, laidKinds := [.data, .data, .data, .sentinel, .sentinel, .data, .data, .data], laidTests := true, laidLooks := .later }
def MemoHoldsCardSaid : Prop := Claim7.holds Tryz.pinned (.plain (OpenSpec.ofChange memoHoldsSpec)) memoHoldsCard

/-- THE SECOND FORM's CARD OF 'wapentakelaw19.MemoHolds'. -/
def memoHoldsUptoCard : Claim7 := { stood := { row := memoHoldsUptoRow, standIns := [], harness := (true, "09c56d2e5f91ccc4b7c2ca6d464b641abf84aed0f7962d3d16ab0a5b1346c3c8"), looks := true }, kinds := [], alts := [], laidByText := true, laidKinds := [.data, .data, .data, .sentinel, .sentinel, .data, .data, .data], laidTests := true, laidLooks := .later }
def MemoHoldsUptoCardSaid : Prop := Claim7.holds Tryz.pinned (.plain (OpenSpec.upto memoHoldsSpec)) memoHoldsUptoCard
end Rows
end Go.Proofs.YtmkjcfakopbdhaaGreatDoor
