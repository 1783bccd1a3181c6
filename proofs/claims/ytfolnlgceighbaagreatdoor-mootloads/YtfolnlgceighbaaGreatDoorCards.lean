/-
  DERIVED. GIVEN WITH THE SEED: THE CARDS: each row of YtfolnlgceighbaaGreatDoorRows.lean that lists a variable, with what it lists TIED to the program's text (the seventh form; the later family's looks); each row that meets fmt, with fmt's text TOLD by the authors' own Lean function (tested against real Go, not proved from fmt's source: count such statements apart). THE CARD IS WHAT COUNTS. Prove the row's statement (the work); the ties are given (YtfolnlgceighbaaGreatDoorTie.lean); close each card by the builder's one call (the guide's Derived/Test/ToyasCard.lean, 'card_holds'). Laid BY PROGRAM, IN A SANDBOX (cutbox-door.mjs). By AI agents, Wed Nov 11 2026. No macro, syntax, notation, axiom, sorry.
-/
import Derived.Test.YtfolnlgceighbaaGreatDoorRows
import GoSem.ClaimSeven
namespace Go.Proofs.YtfolnlgceighbaaGreatDoor
namespace Rows

/-- THE TIED CARD OF 'wapentakelaw15.ChainTexts'. -/
def chainTextsCard : Claim7 := { stood := { row := chainTextsRow, standIns := [], harness := (true, "caf8118f6040668d3cda4d6d27317449e8aeeb812cd497d579affe97bcb62cbd"), looks := true }, kinds := [], alts := [], laidByText := true, laidKinds := [.data, .data, .data, .sentinel, .sentinel], laidTests := true, laidLooks := .later }
def ChainTextsCardSaid : Prop := Claim7.holds Tryz.pinned (.plain (OpenSpec.ofChange chainTextsSpec)) chainTextsCard

/-- THE TIED CARD OF 'wapentakelaw17.MootLoads'. -/
def mootLoadsCard : Claim7 := { stood := { row := mootLoadsRow, standIns := [], harness := (true, "caf8118f6040668d3cda4d6d27317449e8aeeb812cd497d579affe97bcb62cbd"), looks := true }, kinds := [], alts := [], laidByText := true, laidKinds := [.data, .data, .data, .sentinel, .sentinel], laidTests := true, laidLooks := .later }
def MootLoadsCardSaid : Prop := Claim7.holds Tryz.pinned (.plain (OpenSpec.ofChange mootLoadsSpec)) mootLoadsCard

/-- THE TIED CARD OF 'wapentakelaw17.MootBack'. -/
def mootBackCard : Claim7 := { stood := { row := mootBackRow, standIns := [], harness := (true, "caf8118f6040668d3cda4d6d27317449e8aeeb812cd497d579affe97bcb62cbd"), looks := true }, kinds := [], alts := [], laidByText := true, laidKinds := [.data, .data, .data, .sentinel, .sentinel], laidTests := true, laidLooks := .later }
def MootBackCardSaid : Prop := Claim7.holds Tryz.pinned (.plain (OpenSpec.ofChange mootBackSpec)) mootBackCard

/-- THE SECOND FORM's CARD OF 'wapentakelaw15.ChainTexts'. -/
def chainTextsUptoCard : Claim7 := { stood := { row := chainTextsUptoRow, standIns := [], harness := (true, "caf8118f6040668d3cda4d6d27317449e8aeeb812cd497d579affe97bcb62cbd"), looks := true }, kinds := [], alts := [], laidByText := true, laidKinds := [.data, .data, .data, .sentinel, .sentinel], laidTests := true, laidLooks := .later }
def ChainTextsUptoCardSaid : Prop := Claim7.holds Tryz.pinned (.plain (OpenSpec.upto chainTextsSpec)) chainTextsUptoCard

/-- THE SECOND FORM's CARD OF 'wapentakelaw17.MootLoads'. -/
def mootLoadsUptoCard : Claim7 := { stood := { row := mootLoadsUptoRow, standIns := [], harness := (true, "caf8118f6040668d3cda4d6d27317449e8aeeb812cd497d579affe97bcb62cbd"), looks := true }, kinds := [], alts := [], laidByText := true, laidKinds := [.data, .data, .data, .sentinel, .sentinel], laidTests := true, laidLooks := .later }
def MootLoadsUptoCardSaid : Prop := Claim7.holds Tryz.pinned (.plain (OpenSpec.upto mootLoadsSpec)) mootLoadsUptoCard

/-- THE SECOND FORM's CARD OF 'wapentakelaw17.MootBack'. -/
def mootBackUptoCard : Claim7 := { stood := { row := mootBackUptoRow, standIns := [], harness := (true, "caf8118f6040668d3cda4d6d27317449e8aeeb812cd497d579affe97bcb62cbd"), looks := true }, kinds := [], alts := [], laidByText := true, laidKinds := [.data, .data, .data, .sentinel, .sentinel], laidTests := true, laidLooks := .later }
def MootBackUptoCardSaid : Prop := Claim7.holds Tryz.pinned (.plain (OpenSpec.upto mootBackSpec)) mootBackUptoCard
end Rows
end Go.Proofs.YtfolnlgceighbaaGreatDoor
