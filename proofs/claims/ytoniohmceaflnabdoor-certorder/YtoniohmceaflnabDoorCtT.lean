/- What the rows of this seat list of the library's package variables gives the walks: the table of the powers of ten; the heap that the program's own initialisers leave meets that condition. -/
import Derived.Test.YtoniohmceaflnabDoorNsA
import Derived.Test.YtoniohmceaflnabDoorRows
import Derived.ProofKit
import Derived.LaidMore
import Derived.OpenShut
import Derived.ShutString
import Derived.SizedLaws
import Derived.Stop.Joined
import Derived.Stop.LaidErr
import Derived.Lib.LaidTab
import Derived.SliceStrings
namespace Go.Proofs.YtoniohmceaflnabDoor
open Go.ChangeShapes Go.WideShapes Go.ChangeAt Go.RowKit

theorem Tryd.own : ownKnob Tryd.prog.godebug = none := by kernel_rfl
theorem Tryd.laidOut : laidOutB Tryd.prog = true := by kernel_rfl
theorem tPow : (Tryd.prog.globals[0]?).map (·.type) = some 129 := by kernel_rfl
theorem Tryd.cells129 : Tryd.prog.cellsOf 129 = 20 := by kernel_rfl
theorem Tryd.cells109 : Tryd.prog.cellsOf 109 = 1 := by kernel_rfl

def laidP : List (String × DataW Unit) := [("math/bits.deBruijn32tab", Rows.laid_math_bits_deBruijn32tab), ("math/bits.deBruijn64tab", Rows.laid_math_bits_deBruijn64tab), ("internal/strconv.uint64pow10", Rows.laid_internal_strconv_uint64pow10)]
theorem powData {H : Type} : (Rows.laid_internal_strconv_uint64pow10 : DataW H) = Lib.tabData .u64 Lib.pow10Tab := rfl

theorem doorP_met (os : Os) (args : Array Value) : laidMetH Tryd.prog laidP ((World.doorLaid Tryd.prog 44 os).forCall (fun _ _ => 0) ⟨#[], args, []⟩).memory :=
  laidMetH_of_parts3 (fuel := 8) (laidMet_of_run' 8 (by kernel_rfl) (by kernel_rfl)) (by kernel_rfl) (by kernel_rfl)

theorem of_laidP {W : World} (h : laidMetH Tryd.prog laidP W) : EnvP W := by
  rw [MakeChecks.laidMetH_plain _ _ _ (by kernel_rfl)] at h
  have h2 := laidMet.tail (laidMet.tail h)
  have hT := Lib.tabIs_of_head gPow tPow Tryd.underlying129 Tryd.underlying109 Tryd.cells109 Tryd.cells129 (zs := Lib.pow10Tab) h2
  refine ⟨hT, ?_⟩
  have hc : W.cell? ⟨0, 0, none⟩ = some (.int .u64 1) := World.var?_cell gPow hT 0
  exact World.block_lt_of_cell? W _ hc
theorem int_range {n : Int} (hw : (Lit.int .i64 n).wf = true) : -9223372036854775808 ≤ n ∧ n ≤ 9223372036854775807 := by
  have h := hw
  simp only [Lit.wf, Bool.and_eq_true, decide_eq_true_eq] at h
  exact h
end Go.Proofs.YtoniohmceaflnabDoor
