/-
  DERIVED. GIVEN WITH THE SEED: THE CARDS: each row of YtoniohmceaflnabDoorRows.lean that lists a variable, with what it lists TIED to the program's text (the seventh form; the later family's looks); each row that meets fmt, with fmt's text TOLD by the authors' own Lean function (tested against real Go, not proved from fmt's source: count such statements apart). THE CARD IS WHAT COUNTS. Prove the row's statement (the work); the ties are given (YtoniohmceaflnabDoorTie.lean); close each card by the builder's one call (the guide's Derived/Test/ToyasCard.lean, 'card_holds'). Laid BY PROGRAM, IN A SANDBOX (cutbox-door.mjs). By AI agents, Wed Nov 11 2026. No macro, syntax, notation, axiom, sorry.
-/
import Derived.Test.YtoniohmceaflnabDoorRows
import GoSem.ClaimSeven
namespace Go.Proofs.YtoniohmceaflnabDoor
namespace Rows

/-- THE TIED CARD OF 'wapentakelaw04.CertAdds'. -/
def certAddsCard : Claim7 := { stood := { row := certAddsRow, standIns := [], harness := (true, "df00b873f99318dca546c14f8f0db31821723f05304a7b67128bddb843b9bf60"), looks := false }, kinds := [], alts := [], laidByText := true, laidKinds := [.data, .data, .data], laidTests := true, laidLooks := .later }
def CertAddsCardSaid : Prop := Claim7.holds Tryd.pinned (.plain (OpenSpec.ofChange certAddsSpec)) certAddsCard

/-- THE TIED CARD OF 'wapentakelaw04.CertChecks'. -/
def certChecksCard : Claim7 := { stood := { row := certChecksRow, standIns := [], harness := (true, "df00b873f99318dca546c14f8f0db31821723f05304a7b67128bddb843b9bf60"), looks := false }, kinds := [], alts := [], laidByText := true, laidKinds := [.data, .data, .data, .data, .data], laidTests := true, laidLooks := .later }
def CertChecksCardSaid : Prop := Claim7.holds Tryd.pinned (.plain (OpenSpec.ofChange certChecksSpec)) certChecksCard

/-- THE TIED CARD OF 'wapentakelaw04.CertOrder'. -/
def certOrderCard : Claim7 := { stood := { row := certOrderRow, standIns := [], harness := (true, "df00b873f99318dca546c14f8f0db31821723f05304a7b67128bddb843b9bf60"), looks := false }, kinds := [], alts := [], laidByText := true, laidKinds := [.data, .data, .data, .data, .data], laidTests := true, laidLooks := .later }
def CertOrderCardSaid : Prop := Claim7.holds Tryd.pinned (.plain (OpenSpec.ofChange certOrderSpec)) certOrderCard

/-- THE TIED CARD OF 'wapentakelaw04.CertMeets'. -/
def certMeetsCard : Claim7 := { stood := { row := certMeetsRow, standIns := [], harness := (true, "df00b873f99318dca546c14f8f0db31821723f05304a7b67128bddb843b9bf60"), looks := false }, kinds := [], alts := [], laidByText := true, laidKinds := [.data, .data, .data], laidTests := true, laidLooks := .later }
def CertMeetsCardSaid : Prop := Claim7.holds Tryd.pinned (.plain (OpenSpec.ofChange certMeetsSpec)) certMeetsCard

/-- THE SECOND FORM's CARD OF 'wapentakelaw04.CertAdds'. -/
def certAddsUptoCard : Claim7 := { stood := { row := certAddsUptoRow, standIns := [], harness := (true, "df00b873f99318dca546c14f8f0db31821723f05304a7b67128bddb843b9bf60"), looks := false }, kinds := [], alts := [], laidByText := true, laidKinds := [.data, .data, .data], laidTests := true, laidLooks := .later }
def CertAddsUptoCardSaid : Prop := Claim7.holds Tryd.pinned (.plain (OpenSpec.upto certAddsSpec)) certAddsUptoCard

/-- THE SECOND FORM's CARD OF 'wapentakelaw04.CertChecks'. -/
def certChecksUptoCard : Claim7 := { stood := { row := certChecksUptoRow, standIns := [], harness := (true, "df00b873f99318dca546c14f8f0db31821723f05304a7b67128bddb843b9bf60"), looks := false }, kinds := [], alts := [], laidByText := true, laidKinds := [.data, .data, .data, .data, .data], laidTests := true, laidLooks := .later }
def CertChecksUptoCardSaid : Prop := Claim7.holds Tryd.pinned (.plain (OpenSpec.upto certChecksSpec)) certChecksUptoCard

/-- THE SECOND FORM's CARD OF 'wapentakelaw04.CertOrder'. -/
def certOrderUptoCard : Claim7 := { stood := { row := certOrderUptoRow, standIns := [], harness := (true, "df00b873f99318dca546c14f8f0db31821723f05304a7b67128bddb843b9bf60"), looks := false }, kinds := [], alts := [], laidByText := true, laidKinds := [.data, .data, .data, .data, .data], laidTests := true, laidLooks := .later }
def CertOrderUptoCardSaid : Prop := Claim7.holds Tryd.pinned (.plain (OpenSpec.upto certOrderSpec)) certOrderUptoCard

/-- THE SECOND FORM's CARD OF 'wapentakelaw04.CertMeets'. -/
def certMeetsUptoCard : Claim7 := { stood := { row := certMeetsUptoRow, standIns := [], harness := (true, "df00b873f99318dca546c14f8f0db31821723f05304a7b67128bddb843b9bf60"), looks := false }, kinds := [], alts := [], laidByText := true, laidKinds := [.data, .data, .data], laidTests := true, laidLooks := .later }
def CertMeetsUptoCardSaid : Prop := Claim7.holds Tryd.pinned (.plain (OpenSpec.upto certMeetsSpec)) certMeetsUptoCard
end Rows
end Go.Proofs.YtoniohmceaflnabDoor
