/-
  NARROWER THAN 'FOR EVERY INPUT', by the rows' own cells (each row's printed sentence says how): PleaSplits: laid · PleaChecks: laid · PleaLong: laid · PleaLocal: laid.
  DERIVED. THE GIVEN ROWS OF THIS SEAT. 4 by the template 'for every input the law returns true; each argument reads behind the call as it read before'; 0 by the template 'total and deterministic' (their statements: YtihilkdokfdoeaaDoorTotals.lean).
  GIVEN WITH THE SEED: the statements are not yours to turn. If you find one false, say at which input.
  Laid BY PROGRAM, IN A SANDBOX (cutbox-rows.mjs): the forced cells as the released guide's own fill.sh prints them over the translation 9308ee7f8bc90cba… (all of the seat's roots in one cut). By AI agents, Wed Nov 11 2026. No macro, syntax, notation, axiom, sorry.
-/
import Derived.Test.YtihilkdokfdoeaaDoorChecked
import GoSem.Claim
import GoSem.ClaimJoined
import GoSem.ClaimMapViews
import Derived.JoinedTies
import Derived.KernelRfl
namespace Go.Proofs.YtihilkdokfdoeaaDoor
/- THE CELL 'sum', in the pinned program and in every row, IS THE sha256 OF THE DUMP (.gsa) THAT YtihilkdokfdoeaaDoorProg.lean LOADS. Nothing in Lean hashes anything: it is a label: what it is worth is what the hold of that sum in a sandbox is worth. -/
noncomputable def Tryd.pinned : Pinned := { name := "ytihilkdokfdoeaadoor", sum := "9308ee7f8bc90cba85d74d67d4dc16befbe177ca363a0e6583625f533a743956", checked := Tryd.checked }
namespace Rows
def none {H : Type} : Left H := { results := [], args := [] }

/- WHAT THE LISTED PACKAGE-LEVEL VARIABLES READ AS WHEN THE CALL BEGINS. Each datum BY PROGRAM (the guide's laid-datum.mjs) off the statement by which the dump's own 'gosem.cut.vars' lays the variable. In a bare row this is a premise. The card (YtihilkdokfdoeaaDoorCards.lean) ties it to the program's text. -/
def laid_wapentake_blake_iv {H : Type} : DataW H := .agg [.lit (.int .u32 1779033703), .lit (.int .u32 3144134277), .lit (.int .u32 1013904242), .lit (.int .u32 2773480762), .lit (.int .u32 1359893119), .lit (.int .u32 2600822924), .lit (.int .u32 528734635), .lit (.int .u32 1541459225)]
def laid_wapentake_blake_rows {H : Type} : DataW H := .agg [.agg [.lit (.int .u8 0), .lit (.int .u8 1), .lit (.int .u8 2), .lit (.int .u8 3), .lit (.int .u8 4), .lit (.int .u8 5), .lit (.int .u8 6), .lit (.int .u8 7), .lit (.int .u8 8), .lit (.int .u8 9), .lit (.int .u8 10), .lit (.int .u8 11), .lit (.int .u8 12), .lit (.int .u8 13), .lit (.int .u8 14), .lit (.int .u8 15)], .agg [.lit (.int .u8 14), .lit (.int .u8 10), .lit (.int .u8 4), .lit (.int .u8 8), .lit (.int .u8 9), .lit (.int .u8 15), .lit (.int .u8 13), .lit (.int .u8 6), .lit (.int .u8 1), .lit (.int .u8 12), .lit (.int .u8 0), .lit (.int .u8 2), .lit (.int .u8 11), .lit (.int .u8 7), .lit (.int .u8 5), .lit (.int .u8 3)], .agg [.lit (.int .u8 11), .lit (.int .u8 8), .lit (.int .u8 12), .lit (.int .u8 0), .lit (.int .u8 5), .lit (.int .u8 2), .lit (.int .u8 15), .lit (.int .u8 13), .lit (.int .u8 10), .lit (.int .u8 14), .lit (.int .u8 3), .lit (.int .u8 6), .lit (.int .u8 7), .lit (.int .u8 1), .lit (.int .u8 9), .lit (.int .u8 4)], .agg [.lit (.int .u8 7), .lit (.int .u8 9), .lit (.int .u8 3), .lit (.int .u8 1), .lit (.int .u8 13), .lit (.int .u8 12), .lit (.int .u8 11), .lit (.int .u8 14), .lit (.int .u8 2), .lit (.int .u8 6), .lit (.int .u8 5), .lit (.int .u8 10), .lit (.int .u8 4), .lit (.int .u8 0), .lit (.int .u8 15), .lit (.int .u8 8)], .agg [.lit (.int .u8 9), .lit (.int .u8 0), .lit (.int .u8 5), .lit (.int .u8 7), .lit (.int .u8 2), .lit (.int .u8 4), .lit (.int .u8 10), .lit (.int .u8 15), .lit (.int .u8 14), .lit (.int .u8 1), .lit (.int .u8 11), .lit (.int .u8 12), .lit (.int .u8 6), .lit (.int .u8 8), .lit (.int .u8 3), .lit (.int .u8 13)], .agg [.lit (.int .u8 2), .lit (.int .u8 12), .lit (.int .u8 6), .lit (.int .u8 10), .lit (.int .u8 0), .lit (.int .u8 11), .lit (.int .u8 8), .lit (.int .u8 3), .lit (.int .u8 4), .lit (.int .u8 13), .lit (.int .u8 7), .lit (.int .u8 5), .lit (.int .u8 15), .lit (.int .u8 14), .lit (.int .u8 1), .lit (.int .u8 9)], .agg [.lit (.int .u8 12), .lit (.int .u8 5), .lit (.int .u8 1), .lit (.int .u8 15), .lit (.int .u8 14), .lit (.int .u8 13), .lit (.int .u8 4), .lit (.int .u8 10), .lit (.int .u8 0), .lit (.int .u8 7), .lit (.int .u8 6), .lit (.int .u8 3), .lit (.int .u8 9), .lit (.int .u8 2), .lit (.int .u8 8), .lit (.int .u8 11)], .agg [.lit (.int .u8 13), .lit (.int .u8 11), .lit (.int .u8 7), .lit (.int .u8 14), .lit (.int .u8 12), .lit (.int .u8 1), .lit (.int .u8 3), .lit (.int .u8 9), .lit (.int .u8 5), .lit (.int .u8 0), .lit (.int .u8 15), .lit (.int .u8 4), .lit (.int .u8 8), .lit (.int .u8 6), .lit (.int .u8 2), .lit (.int .u8 10)], .agg [.lit (.int .u8 6), .lit (.int .u8 15), .lit (.int .u8 14), .lit (.int .u8 9), .lit (.int .u8 11), .lit (.int .u8 3), .lit (.int .u8 0), .lit (.int .u8 8), .lit (.int .u8 12), .lit (.int .u8 2), .lit (.int .u8 13), .lit (.int .u8 7), .lit (.int .u8 1), .lit (.int .u8 4), .lit (.int .u8 10), .lit (.int .u8 5)], .agg [.lit (.int .u8 10), .lit (.int .u8 2), .lit (.int .u8 8), .lit (.int .u8 4), .lit (.int .u8 7), .lit (.int .u8 6), .lit (.int .u8 1), .lit (.int .u8 5), .lit (.int .u8 15), .lit (.int .u8 11), .lit (.int .u8 9), .lit (.int .u8 14), .lit (.int .u8 3), .lit (.int .u8 12), .lit (.int .u8 13), .lit (.int .u8 0)]]

/-- 'wapentakelaw27.PleaSplits': WHATEVER THE INPUT: true; the input reads as it did. -/
def pleaSplitsSpec : ChangeSpec := { name := "pleaSplits", fn := fun _ => fun
  | [d1, d2] => { results := [.lit (.bool true)], args := [d1, d2] }
  | _ => none }
def pleaSplitsRow : OpenClaim := { program := "ytihilkdokfdoeaadoor", sum := "9308ee7f8bc90cba85d74d67d4dc16befbe177ca363a0e6583625f533a743956", func := "wapentake/wapentakelaw27.PleaSplits", spec := "pleaSplits", inPlace := ["internal/abi.NoEscape", "internal/bytealg.MakeNoZero"], unfollowed := true, recurses := true, named := ["wapentake/blake.iv", "wapentake/blake.rows"], plainKeys := false, apart := false, laid := [("wapentake/blake.iv", laid_wapentake_blake_iv), ("wapentake/blake.rows", laid_wapentake_blake_rows)] }
def PleaSplitsSaid : Prop := pleaSplitsRow.holds Tryd.pinned (OpenSpec.ofChange pleaSplitsSpec)

/-- ITS FALSE NEIGHBOUR: 'it returns false'. Refute it at one input. -/
def pleaSplitsWrong : ChangeSpec := { name := "pleaSplits", fn := fun _ => fun
  | [d1, d2] => { results := [.lit (.bool false)], args := [d1, d2] }
  | _ => none }
def PleaSplitsWrongFalsely : Prop := pleaSplitsRow.holds Tryd.pinned (OpenSpec.ofChange pleaSplitsWrong)

/-- 'wapentakelaw27.PleaChecks': WHATEVER THE INPUT: true; the input reads as it did. -/
def pleaChecksSpec : ChangeSpec := { name := "pleaChecks", fn := fun _ => fun
  | [d] => { results := [.lit (.bool true)], args := [d] }
  | _ => none }
def pleaChecksRow : OpenClaim := { program := "ytihilkdokfdoeaadoor", sum := "9308ee7f8bc90cba85d74d67d4dc16befbe177ca363a0e6583625f533a743956", func := "wapentake/wapentakelaw27.PleaChecks", spec := "pleaChecks", inPlace := ["internal/abi.NoEscape", "internal/bytealg.MakeNoZero", "internal/bytealg.abigen_runtime_cmpstring"], unfollowed := true, recurses := true, named := ["wapentake/blake.iv", "wapentake/blake.rows"], plainKeys := false, apart := false, laid := [("wapentake/blake.iv", laid_wapentake_blake_iv), ("wapentake/blake.rows", laid_wapentake_blake_rows)] }
def PleaChecksSaid : Prop := pleaChecksRow.holds Tryd.pinned (OpenSpec.ofChange pleaChecksSpec)

/-- ITS FALSE NEIGHBOUR: 'it returns false'. Refute it at one input. -/
def pleaChecksWrong : ChangeSpec := { name := "pleaChecks", fn := fun _ => fun
  | [d] => { results := [.lit (.bool false)], args := [d] }
  | _ => none }
def PleaChecksWrongFalsely : Prop := pleaChecksRow.holds Tryd.pinned (OpenSpec.ofChange pleaChecksWrong)

/-- 'wapentakelaw27.PleaLong': WHATEVER THE INPUT: true; the input reads as it did. -/
def pleaLongSpec : ChangeSpec := { name := "pleaLong", fn := fun _ => fun
  | [d1, d2] => { results := [.lit (.bool true)], args := [d1, d2] }
  | _ => none }
def pleaLongRow : OpenClaim := { program := "ytihilkdokfdoeaadoor", sum := "9308ee7f8bc90cba85d74d67d4dc16befbe177ca363a0e6583625f533a743956", func := "wapentake/wapentakelaw27.PleaLong", spec := "pleaLong", inPlace := ["internal/abi.NoEscape", "internal/bytealg.MakeNoZero"], unfollowed := true, recurses := true, named := ["wapentake/blake.iv", "wapentake/blake.rows"], plainKeys := false, apart := false, laid := [("wapentake/blake.iv", laid_wapentake_blake_iv), ("wapentake/blake.rows", laid_wapentake_blake_rows)] }
def PleaLongSaid : Prop := pleaLongRow.holds Tryd.pinned (OpenSpec.ofChange pleaLongSpec)

/-- ITS FALSE NEIGHBOUR: 'it returns false'. Refute it at one input. -/
def pleaLongWrong : ChangeSpec := { name := "pleaLong", fn := fun _ => fun
  | [d1, d2] => { results := [.lit (.bool false)], args := [d1, d2] }
  | _ => none }
def PleaLongWrongFalsely : Prop := pleaLongRow.holds Tryd.pinned (OpenSpec.ofChange pleaLongWrong)

/-- 'wapentakelaw27.PleaLocal': WHATEVER THE INPUT: true; the input reads as it did. -/
def pleaLocalSpec : ChangeSpec := { name := "pleaLocal", fn := fun _ => fun
  | [d1, d2] => { results := [.lit (.bool true)], args := [d1, d2] }
  | _ => none }
def pleaLocalRow : OpenClaim := { program := "ytihilkdokfdoeaadoor", sum := "9308ee7f8bc90cba85d74d67d4dc16befbe177ca363a0e6583625f533a743956", func := "wapentake/wapentakelaw27.PleaLocal", spec := "pleaLocal", inPlace := ["internal/abi.NoEscape", "internal/bytealg.MakeNoZero", "internal/bytealg.abigen_runtime_cmpstring"], unfollowed := true, recurses := true, named := ["wapentake/blake.iv", "wapentake/blake.rows"], plainKeys := false, apart := false, laid := [("wapentake/blake.iv", laid_wapentake_blake_iv), ("wapentake/blake.rows", laid_wapentake_blake_rows)] }
def PleaLocalSaid : Prop := pleaLocalRow.holds Tryd.pinned (OpenSpec.ofChange pleaLocalSpec)

/-- ITS FALSE NEIGHBOUR: 'it returns false'. Refute it at one input. -/
def pleaLocalWrong : ChangeSpec := { name := "pleaLocal", fn := fun _ => fun
  | [d1, d2] => { results := [.lit (.bool false)], args := [d1, d2] }
  | _ => none }
def PleaLocalWrongFalsely : Prop := pleaLocalRow.holds Tryd.pinned (OpenSpec.ofChange pleaLocalWrong)

/- THE SECOND FORM. 'bulk': how many values and letters a reading holds, each counted each time it is reached (what is shared counts as often as it is met; a slice's spare places count too). A statement '..UptoSaid' is the law's where the arguments, and the package variables that the reading takes, are together of bulk at most 1048576: NARROWER than '..Said'. Prove '..Said' where nothing that the law and all that it calls make is longer than what came in: it says more and counts as full. Else prove '..UptoSaid'. A law counts once. -/
mutual
def uptoBulk {H : Type} : DataW H → Nat
  | .lit (.string bytes) => bytes.length + 1
  | .lit _ => 1
  | .nil => 1
  | .ptr d => uptoBulk d + 1
  | .slice elems spare => uptoBulkAll elems + uptoBulkAll spare + 1
  | .agg parts => uptoBulkAll parts + 1
  | .iface _ d => uptoBulk d + 1
  | .map entries => uptoBulkEntries entries + 1
  | .held _ => 1
def uptoBulkAll {H : Type} : List (DataW H) → Nat
  | [] => 0
  | d :: r => uptoBulk d + uptoBulkAll r
def uptoBulkEntries {H : Type} : List (Lit × DataW H) → Nat
  | [] => 0
  | x :: r => uptoBulkEntry x + uptoBulkEntries r
def uptoBulkEntry {H : Type} : Lit × DataW H → Nat
  | (.string bytes, d) => bytes.length + uptoBulk d + 1
  | (_, d) => uptoBulk d + 1
 end
def uptoSmall : (H : Type) → List (DataW H) → Bool := fun _ ds => decide (uptoBulkAll ds ≤ 1048576)
def OpenSpec.upto (s : _root_.Go.ChangeSpec) : _root_.Go.OpenSpec := { _root_.Go.OpenSpec.ofChange s with cond := some uptoSmall }

/-- 'wapentakelaw27.PleaSplits', WHERE WHAT IT READS IS OF BULK AT MOST 1048576: true; the input reads as it did. -/
def pleaSplitsUptoRow : OpenClaim := { program := "ytihilkdokfdoeaadoor", sum := "9308ee7f8bc90cba85d74d67d4dc16befbe177ca363a0e6583625f533a743956", func := "wapentake/wapentakelaw27.PleaSplits", spec := "pleaSplits", inPlace := ["internal/abi.NoEscape", "internal/bytealg.MakeNoZero"], unfollowed := true, recurses := true, named := ["wapentake/blake.iv", "wapentake/blake.rows"], plainKeys := false, apart := false, laid := [("wapentake/blake.iv", laid_wapentake_blake_iv), ("wapentake/blake.rows", laid_wapentake_blake_rows)], narrowed := true }
def PleaSplitsUptoSaid : Prop := pleaSplitsUptoRow.holds Tryd.pinned (OpenSpec.upto pleaSplitsSpec)

/-- 'wapentakelaw27.PleaChecks', WHERE WHAT IT READS IS OF BULK AT MOST 1048576: true; the input reads as it did. -/
def pleaChecksUptoRow : OpenClaim := { program := "ytihilkdokfdoeaadoor", sum := "9308ee7f8bc90cba85d74d67d4dc16befbe177ca363a0e6583625f533a743956", func := "wapentake/wapentakelaw27.PleaChecks", spec := "pleaChecks", inPlace := ["internal/abi.NoEscape", "internal/bytealg.MakeNoZero", "internal/bytealg.abigen_runtime_cmpstring"], unfollowed := true, recurses := true, named := ["wapentake/blake.iv", "wapentake/blake.rows"], plainKeys := false, apart := false, laid := [("wapentake/blake.iv", laid_wapentake_blake_iv), ("wapentake/blake.rows", laid_wapentake_blake_rows)], narrowed := true }
def PleaChecksUptoSaid : Prop := pleaChecksUptoRow.holds Tryd.pinned (OpenSpec.upto pleaChecksSpec)

/-- 'wapentakelaw27.PleaLong', WHERE WHAT IT READS IS OF BULK AT MOST 1048576: true; the input reads as it did. -/
def pleaLongUptoRow : OpenClaim := { program := "ytihilkdokfdoeaadoor", sum := "9308ee7f8bc90cba85d74d67d4dc16befbe177ca363a0e6583625f533a743956", func := "wapentake/wapentakelaw27.PleaLong", spec := "pleaLong", inPlace := ["internal/abi.NoEscape", "internal/bytealg.MakeNoZero"], unfollowed := true, recurses := true, named := ["wapentake/blake.iv", "wapentake/blake.rows"], plainKeys := false, apart := false, laid := [("wapentake/blake.iv", laid_wapentake_blake_iv), ("wapentake/blake.rows", laid_wapentake_blake_rows)], narrowed := true }
def PleaLongUptoSaid : Prop := pleaLongUptoRow.holds Tryd.pinned (OpenSpec.upto pleaLongSpec)

/-- 'wapentakelaw27.PleaLocal', WHERE WHAT IT READS IS OF BULK AT MOST 1048576: true; the input reads as it did. -/
def pleaLocalUptoRow : OpenClaim := { program := "ytihilkdokfdoeaadoor", sum := "9308ee7f8bc90cba85d74d67d4dc16befbe177ca363a0e6583625f533a743956", func := "wapentake/wapentakelaw27.PleaLocal", spec := "pleaLocal", inPlace := ["internal/abi.NoEscape", "internal/bytealg.MakeNoZero", "internal/bytealg.abigen_runtime_cmpstring"], unfollowed := true, recurses := true, named := ["wapentake/blake.iv", "wapentake/blake.rows"], plainKeys := false, apart := false, laid := [("wapentake/blake.iv", laid_wapentake_blake_iv), ("wapentake/blake.rows", laid_wapentake_blake_rows)], narrowed := true }
def PleaLocalUptoSaid : Prop := pleaLocalUptoRow.holds Tryd.pinned (OpenSpec.upto pleaLocalSpec)

end Rows
end Go.Proofs.YtihilkdokfdoeaaDoor
