/-
  DERIVED. GIVEN WITH THE SEED: THE CARDS: each row of YtdfonbhboncjmaaDoorRows.lean that lists a variable, with what it lists TIED to the program's text (the seventh form; the later family's looks); each row that meets fmt, with fmt's text TOLD by the authors' own Lean function (tested against real Go, not proved from fmt's source: count such statements apart). THE CARD IS WHAT COUNTS. Prove the row's statement (the work); the ties are given (YtdfonbhboncjmaaDoorTie.lean); close each card by the builder's one call (the guide's Derived/Test/ToyasCard.lean, 'card_holds'). Laid BY PROGRAM, IN A SANDBOX (cutbox-door.mjs). By AI agents, Wed Nov 11 2026. No macro, syntax, notation, axiom, sorry.
-/
import Derived.Test.YtdfonbhboncjmaaDoorRows
import GoSem.ClaimSeven
namespace Go.Proofs.YtdfonbhboncjmaaDoor
namespace Rows

/-- THE TIED CARD OF 'wapentakelaw24.ProofChecks'. -/
def proofChecksCard : Claim7 := { stood := { row := proofChecksRow, standIns := [], harness := (true, "133b09ec58300b6b465b0a164402351fabb055097f35163c90bd5d2d72e46baa"), looks := false }, kinds := [], alts := [], laidByText := true, laidKinds := [.data, .data], laidTests := true, laidLooks := .later }
def ProofChecksCardSaid : Prop := Claim7.holds Tryd.pinned (.plain (OpenSpec.ofChange proofChecksSpec)) proofChecksCard

/-- THE TIED CARD OF 'wapentakelaw24.ProofReplays'. -/
def proofReplaysCard : Claim7 := { stood := { row := proofReplaysRow, standIns := [], harness := (true, "133b09ec58300b6b465b0a164402351fabb055097f35163c90bd5d2d72e46baa"), looks := false }, kinds := [], alts := [], laidByText := true, laidKinds := [.data, .data], laidTests := true, laidLooks := .later }
def ProofReplaysCardSaid : Prop := Claim7.holds Tryd.pinned (.plain (OpenSpec.ofChange proofReplaysSpec)) proofReplaysCard

/-- THE TIED CARD OF 'wapentakelaw24.ProofOrder'. -/
def proofOrderCard : Claim7 := { stood := { row := proofOrderRow, standIns := [], harness := (true, "133b09ec58300b6b465b0a164402351fabb055097f35163c90bd5d2d72e46baa"), looks := false }, kinds := [], alts := [], laidByText := true, laidKinds := [.data, .data], laidTests := true, laidLooks := .later }
def ProofOrderCardSaid : Prop := Claim7.holds Tryd.pinned (.plain (OpenSpec.ofChange proofOrderSpec)) proofOrderCard

/-- THE TIED CARD OF 'wapentakelaw24.ProofOne'. -/
def proofOneCard : Claim7 := { stood := { row := proofOneRow, standIns := [], harness := (true, "133b09ec58300b6b465b0a164402351fabb055097f35163c90bd5d2d72e46baa"), looks := false }, kinds := [], alts := [], laidByText := true, laidKinds := [.data, .data], laidTests := true, laidLooks := .later }
def ProofOneCardSaid : Prop := Claim7.holds Tryd.pinned (.plain (OpenSpec.ofChange proofOneSpec)) proofOneCard

/-- THE SECOND FORM's CARD OF 'wapentakelaw24.ProofChecks'. -/
def proofChecksUptoCard : Claim7 := { stood := { row := proofChecksUptoRow, standIns := [], harness := (true, "133b09ec58300b6b465b0a164402351fabb055097f35163c90bd5d2d72e46baa"), looks := false }, kinds := [], alts := [], laidByText := true, laidKinds := [.data, .data], laidTests := true, laidLooks := .later }
def ProofChecksUptoCardSaid : Prop := Claim7.holds Tryd.pinned (.plain (OpenSpec.upto proofChecksSpec)) proofChecksUptoCard

/-- THE SECOND FORM's CARD OF 'wapentakelaw24.ProofReplays'. -/
def proofReplaysUptoCard : Claim7 := { stood := { row := proofReplaysUptoRow, standIns := [], harness := (true, "133b09ec58300b6b465b0a164402351fabb055097f35163c90bd5d2d72e46baa"), looks := false }, kinds := [], alts := [], laidByText := true, laidKinds := [.data, .data], laidTests := true, laidLooks := .later }
def ProofReplaysUptoCardSaid : Prop := Claim7.holds Tryd.pinned (.plain (OpenSpec.upto proofReplaysSpec)) proofReplaysUptoCard

/-- THE SECOND FORM's CARD OF 'wapentakelaw24.ProofOrder'. -/
def proofOrderUptoCard : Claim7 := { stood := { row := proofOrderUptoRow, standIns := [], harness := (true, "133b09ec58300b6b465b0a164402351fabb055097f35163c90bd5d2d72e46baa"), looks := false }, kinds := [], alts := [], laidByText := true, laidKinds := [.data, .data], laidTests := true, laidLooks := .later }
def ProofOrderUptoCardSaid : Prop := Claim7.holds Tryd.pinned (.plain (OpenSpec.upto proofOrderSpec)) proofOrderUptoCard

/-- THE SECOND FORM's CARD OF 'wapentakelaw24.ProofOne'. -/
def proofOneUptoCard : Claim7 := { stood := { row := proofOneUptoRow, standIns := [], harness := (true, "133b09ec58300b6b465b0a164402351fabb055097f35163c90bd5d2d72e46baa"), looks := false }, kinds := [], alts := [], laidByText := true, laidKinds := [.data, .data], laidTests := true, laidLooks := .later }
def ProofOneUptoCardSaid : Prop := Claim7.holds Tryd.pinned (.plain (OpenSpec.upto proofOneSpec)) proofOneUptoCard
end Rows
end Go.Proofs.YtdfonbhboncjmaaDoor
