/- What the rows of this seat list of package variables gives the walks. -/
import Derived.Test.YtfolnlgceighbaaGreatDoorNsA
import Derived.Test.YtfolnlgceighbaaGreatDoorRows
import Derived.ProofKit
import Derived.LaidMore
import Derived.OpenShut
import Derived.ShutString
import Derived.SizedLaws
import Derived.Stop.Joined
import Derived.Stop.LaidErr
import Derived.Lib.LaidTab
import Derived.SliceStrings
namespace Go.Proofs.YtfolnlgceighbaaGreatDoor
open Go.ChangeShapes Go.WideShapes Go.ChangeAt Go.RowKit

theorem Tryz.own : ownKnob Tryz.prog.godebug = none := by kernel_rfl
theorem Tryz.laidOut : laidOutB Tryz.prog = true := by kernel_rfl
theorem tPow : (Tryz.prog.globals[2]?).map (·.type) = some 193 := by kernel_rfl
theorem Tryz.cells193 : Tryz.prog.cellsOf 193 = 20 := by kernel_rfl
theorem Tryz.cells168 : Tryz.prog.cellsOf 168 = 1 := by kernel_rfl
theorem powData {H : Type} : (Rows.laid_internal_strconv_uint64pow10 : DataW H) = Lib.tabData .u64 Lib.pow10Tab := rfl
theorem int_range {n : Int} (hw : (Lit.int .i64 n).wf = true) : -9223372036854775808 ≤ n ∧ n ≤ 9223372036854775807 := by
  have h := hw
  simp only [Lit.wf, Bool.and_eq_true, decide_eq_true_eq] at h
  exact h
theorem gSyn : Tryz.prog.globalNamed "strconv.ErrSyntax" = some 0 := by kernel_rfl
theorem gRng : Tryz.prog.globalNamed "strconv.ErrRange" = some 1 := by kernel_rfl
theorem tSyn : (Tryz.prog.globals[0]?).map (·.type) = some 121 := by kernel_rfl
theorem tRng : (Tryz.prog.globals[1]?).map (·.type) = some 121 := by kernel_rfl
theorem Tryz.cells9 : Tryz.prog.cellsOf 9 = 1 := by kernel_rfl
theorem Tryz.cells198 : Tryz.prog.cellsOf 198 = 1 := by kernel_rfl
theorem Tryz.star : ("*" ++ "errors.errorString" : String) = "*errors.errorString" := by decide
theorem Tryz.rowErr (u : TypeId) (h : Tryz.prog.typeName? 3 u = some "*errors.errorString") : u = 196 :=
  typeName_ptr_named (nm := "errors.errorString") (by rw [Tryz.star]; kernel_rfl) (by kernel_rfl) (by decide) u (by rw [Tryz.star]; exact h)
theorem of_errs {W : World} {rest : List (String × DataW Unit)} (h2 : laidMet Tryz.prog (("internal/strconv.uint64pow10", Rows.laid_internal_strconv_uint64pow10) :: ("strconv.ErrRange", Rows.laid_strconv_ErrRange) :: ("strconv.ErrSyntax", Rows.laid_strconv_ErrSyntax) :: rest) W) : Env W := by
  have hT := Lib.tabIs_of_head gPow tPow Tryz.underlying193 Tryz.underlying168 Tryz.cells168 Tryz.cells193 (zs := Lib.pow10Tab) h2
  obtain ⟨a0, s0, hv0, _⟩ := laid_sentinel (laidMet.tail h2) gRng tRng Tryz.underlying121 Tryz.rowErr Tryz.underlying196 Tryz.underlying198 rfl rfl Tryz.underlying9 Tryz.cells198 Tryz.cells9
  obtain ⟨a1, s1, hv1, _⟩ := laid_sentinel (laidMet.tail (laidMet.tail h2)) gSyn tSyn Tryz.underlying121 Tryz.rowErr Tryz.underlying196 Tryz.underlying198 rfl rfl Tryz.underlying9 Tryz.cells198 Tryz.cells9
  refine ⟨hT, ⟨_, _, World.var?_cell gSyn hv1 0⟩, ⟨_, _, World.var?_cell gRng hv0 0⟩, ?_⟩
  have hc : W.cell? ⟨2, 0, none⟩ = some (.int .u64 1) := World.var?_cell gPow hT 0
  exact World.block_lt_of_cell? W _ hc
def laidE : List (String × DataW Unit) := [("math/bits.deBruijn32tab", Rows.laid_math_bits_deBruijn32tab), ("math/bits.deBruijn64tab", Rows.laid_math_bits_deBruijn64tab), ("internal/strconv.uint64pow10", Rows.laid_internal_strconv_uint64pow10), ("strconv.ErrRange", Rows.laid_strconv_ErrRange), ("strconv.ErrSyntax", Rows.laid_strconv_ErrSyntax)]
theorem doorE_met (os : Os) (args : Array Value) : laidMetH Tryz.prog laidE ((World.doorLaid Tryz.prog 65 os).forCall (fun _ _ => 0) ⟨#[], args, []⟩).memory :=
  laidMetH_of_parts3 (fuel := 8) (laidMet_of_run' 8 (by kernel_rfl) (by kernel_rfl)) (by kernel_rfl) (by kernel_rfl)
theorem of_laidE {W : World} (h : laidMetH Tryz.prog laidE W) : Env W := by
  rw [MakeChecks.laidMetH_plain _ _ _ (by kernel_rfl)] at h
  exact of_errs (laidMet.tail (laidMet.tail h))
def laidP : List (String × DataW Unit) := [("math/bits.deBruijn32tab", Rows.laid_math_bits_deBruijn32tab), ("math/bits.deBruijn64tab", Rows.laid_math_bits_deBruijn64tab), ("internal/strconv.uint64pow10", Rows.laid_internal_strconv_uint64pow10)]
theorem doorP_met (os : Os) (args : Array Value) : laidMetH Tryz.prog laidP ((World.doorLaid Tryz.prog 65 os).forCall (fun _ _ => 0) ⟨#[], args, []⟩).memory :=
  laidMetH_of_parts3 (fuel := 8) (laidMet_of_run' 8 (by kernel_rfl) (by kernel_rfl)) (by kernel_rfl) (by kernel_rfl)
theorem of_laidP {W : World} (h : laidMetH Tryz.prog laidP W) : EnvP W := by
  rw [MakeChecks.laidMetH_plain _ _ _ (by kernel_rfl)] at h
  have hT := Lib.tabIs_of_head gPow tPow Tryz.underlying193 Tryz.underlying168 Tryz.cells168 Tryz.cells193 (zs := Lib.pow10Tab) (laidMet.tail (laidMet.tail h))
  have hc : W.cell? ⟨2, 0, none⟩ = some (.int .u64 1) := World.var?_cell gPow hT 0
  exact ⟨hT, World.block_lt_of_cell? W _ hc⟩
theorem weightsAll_mem {H : Type} {P : Program} {e : TypeId} : ∀ {ds : List (DataW H)} {d : DataW H}, d ∈ ds → ∀ n ∈ d.weights P e, n ∈ DataW.weightsAll P e ds
  | d0 :: ds, d, hd, n, hn => by
    simp only [DataW.weightsAll, List.mem_append]
    rcases List.mem_cons.1 hd with rfl | h
    · exact Or.inl hn
    · exact Or.inr (weightsAll_mem h n hn)
end Go.Proofs.YtfolnlgceighbaaGreatDoor
