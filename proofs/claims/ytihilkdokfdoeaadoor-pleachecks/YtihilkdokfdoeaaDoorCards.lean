/-
  DERIVED. GIVEN WITH THE SEED: THE CARDS: each row of YtihilkdokfdoeaaDoorRows.lean that lists a variable, with what it lists TIED to the program's text (the seventh form; the later family's looks); each row that meets fmt, with fmt's text TOLD by the authors' own Lean function (tested against real Go, not proved from fmt's source: count such statements apart). THE CARD IS WHAT COUNTS. Prove the row's statement (the work); the ties are given (YtihilkdokfdoeaaDoorTie.lean); close each card by the builder's one call (the guide's Derived/Test/ToyasCard.lean, 'card_holds'). Laid BY PROGRAM, IN A SANDBOX (cutbox-door.mjs). By AI agents, Wed Nov 11 2026. No macro, syntax, notation, axiom, sorry.
-/
import Derived.Test.YtihilkdokfdoeaaDoorRows
import GoSem.ClaimSeven
namespace Go.Proofs.YtihilkdokfdoeaaDoor
namespace Rows

/-- THE TIED CARD OF 'wapentakelaw27.PleaSplits'. -/
def pleaSplitsCard : Claim7 := { stood := { row := pleaSplitsRow, standIns := [], harness := (true, "66a34652822585517754c1d2a0f3c2cc5c46abf27749c948235a1848dfcdcac7"), looks := false }, kinds := [], alts := [], laidByText := true, laidKinds := [.data, .data], laidTests := true, laidLooks := .later }
def PleaSplitsCardSaid : Prop := Claim7.holds Tryd.pinned (.plain (OpenSpec.ofChange pleaSplitsSpec)) pleaSplitsCard

/-- THE TIED CARD OF 'wapentakelaw27.PleaChecks'. -/
def pleaChecksCard : Claim7 := { stood := { row := pleaChecksRow, standIns := [], harness := (true, "66a34652822585517754c1d2a0f3c2cc5c46abf27749c948235a1848dfcdcac7"), looks := false }, kinds := [], alts := [], laidByText := true, laidKinds := [.data, .data], laidTests := true, laidLooks := .later }
def PleaChecksCardSaid : Prop := Claim7.holds Tryd.pinned (.plain (OpenSpec.ofChange pleaChecksSpec)) pleaChecksCard

/-- THE TIED CARD OF 'wapentakelaw27.PleaLong'. -/
def pleaLongCard : Claim7 := { stood := { row := pleaLongRow, standIns := [], harness := (true, "66a34652822585517754c1d2a0f3c2cc5c46abf27749c948235a1848dfcdcac7"), looks := false }, kinds := [], alts := [], laidByText := true, laidKinds := [.data, .data], laidTests := true, laidLooks := .later }
def PleaLongCardSaid : Prop := Claim7.holds Tryd.pinned (.plain (OpenSpec.ofChange pleaLongSpec)) pleaLongCard

/-- THE TIED CARD OF 'wapentakelaw27.PleaLocal'. -/
def pleaLocalCard : Claim7 := { stood := { row := pleaLocalRow, standIns := [], harness := (true, "66a34652822585517754c1d2a0f3c2cc5c46abf27749c948235a1848dfcdcac7"), looks := false }, kinds := [], alts := [], laidByText := true, laidKinds := [.data, .data], laidTests := true, laidLooks := .later }
def PleaLocalCardSaid : Prop := Claim7.holds Tryd.pinned (.plain (OpenSpec.ofChange pleaLocalSpec)) pleaLocalCard

/-- THE SECOND FORM's CARD OF 'wapentakelaw27.PleaSplits'. -/
def pleaSplitsUptoCard : Claim7 := { stood := { row := pleaSplitsUptoRow, standIns := [], harness := (true, "66a34652822585517754c1d2a0f3c2cc5c46abf27749c948235a1848dfcdcac7"), looks := false }, kinds := [], alts := [], laidByText := true, laidKinds := [.data, .data], laidTests := true, laidLooks := .later }
def PleaSplitsUptoCardSaid : Prop := Claim7.holds Tryd.pinned (.plain (OpenSpec.upto pleaSplitsSpec)) pleaSplitsUptoCard

/-- THE SECOND FORM's CARD OF 'wapentakelaw27.PleaChecks'. -/
def pleaChecksUptoCard : Claim7 := { stood := { row := pleaChecksUptoRow, standIns := [], harness := (true, "66a34652822585517754c1d2a0f3c2cc5c46abf27749c948235a1848dfcdcac7"), looks := false }, kinds := [], alts := [], laidByText := true, laidKinds := [.data, .data], laidTests := true, laidLooks := .later }
def PleaChecksUptoCardSaid : Prop := Claim7.holds Tryd.pinned (.plain (OpenSpec.upto pleaChecksSpec)) pleaChecksUptoCard

/-- THE SECOND FORM's CARD OF 'wapentakelaw27.PleaLong'. -/
def pleaLongUptoCard : Claim7 := { stood := { row := pleaLongUptoRow, standIns := [], harness := (true, "66a34652822585517754c1d2a0f3c2cc5c46abf27749c948235a1848dfcdcac7"), looks := false }, kinds := [], alts := [], laidByText := true, laidKinds := [.data, .data], laidTests := true, laidLooks := .later }
def PleaLongUptoCardSaid : Prop := Claim7.holds Tryd.pinned (.plain (OpenSpec.upto pleaLongSpec)) pleaLongUptoCard

/-- THE SECOND FORM's CARD OF 'wapentakelaw27.PleaLocal'. -/
def pleaLocalUptoCard : Claim7 := { stood := { row := pleaLocalUptoRow, standIns := [], harness := (true, "66a34652822585517754c1d2a0f3c2cc5c46abf27749c948235a1848dfcdcac7"), looks := false }, kinds := [], alts := [], laidByText := true, laidKinds := [.data, .data], laidTests := true, laidLooks := .later }
def PleaLocalUptoCardSaid : Prop := Claim7.holds Tryd.pinned (.plain (OpenSpec.upto pleaLocalSpec)) pleaLocalUptoCard
end Rows
end Go.Proofs.YtihilkdokfdoeaaDoor
