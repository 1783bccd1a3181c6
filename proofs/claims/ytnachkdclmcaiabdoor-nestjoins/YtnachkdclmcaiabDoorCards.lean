/-
  DERIVED. GIVEN WITH THE SEED: THE CARDS: each row of YtnachkdclmcaiabDoorRows.lean that lists a variable, with what it lists TIED to the program's text (the seventh form; the later family's looks); each row that meets fmt, with fmt's text TOLD by the authors' own Lean function (tested against real Go, not proved from fmt's source: count such statements apart). THE CARD IS WHAT COUNTS. Prove the row's statement (the work); the ties are given (YtnachkdclmcaiabDoorTie.lean); close each card by the builder's one call (the guide's Derived/Test/ToyasCard.lean, 'card_holds'). Laid BY PROGRAM, IN A SANDBOX (cutbox-door.mjs). By AI agents, Wed Nov 11 2026. No macro, syntax, notation, axiom, sorry.
-/
import Derived.Test.YtnachkdclmcaiabDoorRows
import GoSem.ClaimSeven
namespace Go.Proofs.YtnachkdclmcaiabDoor
namespace Rows

/-- THE TIED CARD OF 'wapentakelaw01.NestJoins'. -/
def nestJoinsCard : Claim7 := { stood := { row := nestJoinsRow, standIns := [], harness := (true, "7683a578a78f85410d819d054b30b87fab93053e8949375a1bcf295e25b5c8fe"), looks := true }, kinds := [], alts := [], laidByText := true, laidKinds := [.data, .data, .data, .sentinel, .sentinel], laidTests := true, laidLooks := .later }
def NestJoinsCardSaid : Prop := Claim7.holds Tryd.pinned (.plain (OpenSpec.ofChange nestJoinsSpec)) nestJoinsCard

/-- THE TIED CARD OF 'wapentakelaw02.BlakeSums'. -/
def blakeSumsCard : Claim7 := { stood := { row := blakeSumsRow, standIns := [], harness := (true, "7683a578a78f85410d819d054b30b87fab93053e8949375a1bcf295e25b5c8fe"), looks := true }, kinds := [], alts := [], laidByText := true, laidKinds := [.data, .data], laidTests := true, laidLooks := .later }
def BlakeSumsCardSaid : Prop := Claim7.holds Tryd.pinned (.plain (OpenSpec.ofChange blakeSumsSpec)) blakeSumsCard

/-- THE TIED CARD OF 'wapentakelaw02.BlakeParts'. -/
def blakePartsCard : Claim7 := { stood := { row := blakePartsRow, standIns := [], harness := (true, "7683a578a78f85410d819d054b30b87fab93053e8949375a1bcf295e25b5c8fe"), looks := true }, kinds := [], alts := [], laidByText := true, laidKinds := [.data, .data], laidTests := true, laidLooks := .later }
def BlakePartsCardSaid : Prop := Claim7.holds Tryd.pinned (.plain (OpenSpec.ofChange blakePartsSpec)) blakePartsCard

/-- THE TIED CARD OF 'wapentakelaw02.BlakeLengths'. -/
def blakeLengthsCard : Claim7 := { stood := { row := blakeLengthsRow, standIns := [], harness := (true, "7683a578a78f85410d819d054b30b87fab93053e8949375a1bcf295e25b5c8fe"), looks := true }, kinds := [], alts := [], laidByText := true, laidKinds := [.data, .data], laidTests := true, laidLooks := .later }
def BlakeLengthsCardSaid : Prop := Claim7.holds Tryd.pinned (.plain (OpenSpec.ofChange blakeLengthsSpec)) blakeLengthsCard

/-- THE SECOND FORM's CARD OF 'wapentakelaw01.NestJoins'. -/
def nestJoinsUptoCard : Claim7 := { stood := { row := nestJoinsUptoRow, standIns := [], harness := (true, "7683a578a78f85410d819d054b30b87fab93053e8949375a1bcf295e25b5c8fe"), looks := true }, kinds := [], alts := [], laidByText := true, laidKinds := [.data, .data, .data, .sentinel, .sentinel], laidTests := true, laidLooks := .later }
def NestJoinsUptoCardSaid : Prop := Claim7.holds Tryd.pinned (.plain (OpenSpec.upto nestJoinsSpec)) nestJoinsUptoCard

/-- THE SECOND FORM's CARD OF 'wapentakelaw02.BlakeSums'. -/
def blakeSumsUptoCard : Claim7 := { stood := { row := blakeSumsUptoRow, standIns := [], harness := (true, "7683a578a78f85410d819d054b30b87fab93053e8949375a1bcf295e25b5c8fe"), looks := true }, kinds := [], alts := [], laidByText := true, laidKinds := [.data, .data], laidTests := true, laidLooks := .later }
def BlakeSumsUptoCardSaid : Prop := Claim7.holds Tryd.pinned (.plain (OpenSpec.upto blakeSumsSpec)) blakeSumsUptoCard

/-- THE SECOND FORM's CARD OF 'wapentakelaw02.BlakeParts'. -/
def blakePartsUptoCard : Claim7 := { stood := { row := blakePartsUptoRow, standIns := [], harness := (true, "7683a578a78f85410d819d054b30b87fab93053e8949375a1bcf295e25b5c8fe"), looks := true }, kinds := [], alts := [], laidByText := true, laidKinds := [.data, .data], laidTests := true, laidLooks := .later }
def BlakePartsUptoCardSaid : Prop := Claim7.holds Tryd.pinned (.plain (OpenSpec.upto blakePartsSpec)) blakePartsUptoCard

/-- THE SECOND FORM's CARD OF 'wapentakelaw02.BlakeLengths'. -/
def blakeLengthsUptoCard : Claim7 := { stood := { row := blakeLengthsUptoRow, standIns := [], harness := (true, "7683a578a78f85410d819d054b30b87fab93053e8949375a1bcf295e25b5c8fe"), looks := true }, kinds := [], alts := [], laidByText := true, laidKinds := [.data, .data], laidTests := true, laidLooks := .later }
def BlakeLengthsUptoCardSaid : Prop := Claim7.holds Tryd.pinned (.plain (OpenSpec.upto blakeLengthsSpec)) blakeLengthsUptoCard
end Rows
end Go.Proofs.YtnachkdclmcaiabDoor
