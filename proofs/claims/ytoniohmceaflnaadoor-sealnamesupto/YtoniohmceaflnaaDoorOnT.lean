/- What the rows of this seat list of package variables gives the walks: the table of the powers of ten, blake's two tables, and the two error variables; the heap that the program's own initialisers leave meets each list. -/
import Derived.Test.YtoniohmceaflnaaDoorSlE
import Derived.Test.YtoniohmceaflnaaDoorRows
import Derived.ProofKit
import Derived.LaidMore
import Derived.OpenShut
import Derived.ShutString
import Derived.SizedLaws
import Derived.Stop.Joined
import Derived.Stop.LaidErr
import Derived.Lib.LaidTab
import Derived.SliceStrings
namespace Go.Proofs.YtoniohmceaflnaaDoor
open Go.ChangeShapes Go.WideShapes Go.ChangeAt Go.RowKit

theorem Tryd.own : ownKnob Tryd.prog.godebug = none := by kernel_rfl
theorem Tryd.laidOut : laidOutB Tryd.prog = true := by kernel_rfl
theorem tPow : (Tryd.prog.globals[2]?).map (·.type) = some 168 := by kernel_rfl
theorem Tryd.cells168 : Tryd.prog.cellsOf 168 = 20 := by kernel_rfl
theorem Tryd.cells146 : Tryd.prog.cellsOf 146 = 1 := by kernel_rfl
theorem powData {H : Type} : (Rows.laid_internal_strconv_uint64pow10 : DataW H) = Lib.tabData .u64 Lib.pow10Tab := rfl
theorem int_range {n : Int} (hw : (Lit.int .i64 n).wf = true) : -9223372036854775808 ≤ n ∧ n ≤ 9223372036854775807 := by
  have h := hw
  simp only [Lit.wf, Bool.and_eq_true, decide_eq_true_eq] at h
  exact h
theorem gIv : Tryd.prog.globalNamed "wapentake/blake.iv" = some 3 := by kernel_rfl
theorem gRows : Tryd.prog.globalNamed "wapentake/blake.rows" = some 4 := by kernel_rfl
theorem tIv : (Tryd.prog.globals[3]?).map (·.type) = some 157 := by kernel_rfl
theorem tRows : (Tryd.prog.globals[4]?).map (·.type) = some 177 := by kernel_rfl
theorem Tryd.cellsIv : Tryd.prog.cellsOf 157 = 8 := by kernel_rfl
theorem Tryd.cellsU32 : Tryd.prog.cellsOf 156 = 1 := by kernel_rfl
theorem Tryd.cellsRow : Tryd.prog.cellsOf 82 = 16 := by kernel_rfl
theorem Tryd.cellsU8 : Tryd.prog.cellsOf 5 = 1 := by kernel_rfl
theorem ivData {H : Type} : (Rows.laid_wapentake_blake_iv : DataW H) = Lib.tabData .u32 ivL := rfl
theorem rowsData {H : Type} : (Rows.laid_wapentake_blake_rows : DataW H) = .agg (rowsL.map (Lib.tabData .u8)) := rfl
theorem gv_map (k : IntKind) (v : List Int) (i : Nat) (hi : i < v.length) : (v.map fun z => Value.int k z)[i]? = some (.int k (gv v i)) := by
  simp [gv, List.getElem?_eq_getElem hi]

theorem of_tables {W : World} (h : laidMet Tryd.prog [("wapentake/blake.iv", Rows.laid_wapentake_blake_iv), ("wapentake/blake.rows", Rows.laid_wapentake_blake_rows)] W) : EnvB W := by
  obtain ⟨ps, ⟨g0, t0, cs0, f0, p0, q0, hg0, ht0, hv0, hd0, ⟨g1, t1, cs1, f1, p1, q1, hg1, ht1, hv1, hd1, _, _⟩, _⟩, _, _⟩ := h
  obtain rfl := Option.some.inj (gIv.symm.trans hg0)
  obtain rfl := Option.some.inj (gRows.symm.trans hg1)
  obtain rfl := Option.some.inj (tIv.symm.trans ht0)
  obtain rfl := Option.some.inj (tRows.symm.trans ht1)
  have h1 : Reads W 4 .u8 160 rowsF := by
    obtain ⟨xs, m, rfl, hx, hlen, hn, hel⟩ := DataW.trod_array Tryd.underlying177 hd1
    rw [rowsData] at hx
    simp only [Prod.mk.injEq, DataW.agg.injEq] at hx
    intro i hi
    have hi1 : i / 16 < 10 := by omega
    have hxs : xs[i / 16]?.map (·.1) = some (Lib.tabData .u8 (rowL (i / 16))) := by
      have := congrArg (·[i / 16]?) hx.1
      simp only [List.getElem?_map] at this
      rw [← this]
      have hl : i / 16 < rowsL.length := hi1
      rw [List.getElem?_eq_getElem hl]
      simp [rowL, List.getElem?_eq_getElem hl]
    obtain ⟨y, hy, hy1⟩ := Option.map_eq_some_iff.1 hxs
    have he := hel (i / 16) hi1
    rw [hy, Tryd.cellsRow] at he
    obtain ⟨y1, y2⟩ := y
    simp only at hy1
    subst hy1
    have hc := Lib.cells_of_tab Tryd.underlying82 Tryd.underlying5 Tryd.cellsU8 Tryd.cellsRow he
    have := World.var?_cell hg1 hv1 i
    rw [this]
    have hat : cs1.toList[i]? = some (.int .u8 (gv (rowL (i / 16)) ((i % 16 : Nat) : Int))) := by
      have e := congrArg (·[i % 16]?) hc
      rw [List.getElem?_take_of_lt (by omega), List.getElem?_drop, gv_map _ _ _ (by rw [rowL_len _ hi1]; omega)] at e
      rw [show i / 16 * 16 + i % 16 = i by omega] at e
      exact e
    rw [← rowsF_at _ hi1 _ (by omega), show i / 16 * 16 + i % 16 = i by omega] at hat
    simpa using hat
  refine ⟨?_, h1, ?_⟩
  · have hc := Lib.cells_of_tab Tryd.underlying157 Tryd.underlying156 Tryd.cellsU32 Tryd.cellsIv (zs := ivL) hd0
    intro i hi
    have := World.var?_cell hg0 hv0 i
    rw [this]
    have e := gv_map .u32 ivL i hi
    rw [← hc] at e
    simpa using e
  · have := h1 0 (by omega)
    unfold World.cell? at this
    by_cases hb : 4 < W.heap.size
    · exact hb
    · simp [Array.getElem?_eq_none (Nat.le_of_not_lt hb)] at this

def laidB : List (String × DataW Unit) := [("math/bits.deBruijn32tab", Rows.laid_math_bits_deBruijn32tab), ("math/bits.deBruijn64tab", Rows.laid_math_bits_deBruijn64tab), ("internal/strconv.uint64pow10", Rows.laid_internal_strconv_uint64pow10), ("wapentake/blake.iv", Rows.laid_wapentake_blake_iv), ("wapentake/blake.rows", Rows.laid_wapentake_blake_rows)]
theorem doorB_met (os : Os) (args : Array Value) : laidMetH Tryd.prog laidB ((World.doorLaid Tryd.prog 82 os).forCall (fun _ _ => 0) ⟨#[], args, []⟩).memory :=
  laidMetH_of_parts3 (fuel := 8) (laidMet_of_run' 8 (by kernel_rfl) (by kernel_rfl)) (by kernel_rfl) (by kernel_rfl)
theorem of_laidB {W : World} (h : laidMetH Tryd.prog laidB W) : EnvP W ∧ EnvB W := by
  rw [MakeChecks.laidMetH_plain _ _ _ (by kernel_rfl)] at h
  have h2 := laidMet.tail (laidMet.tail h)
  have hT := Lib.tabIs_of_head gPow tPow Tryd.underlying168 Tryd.underlying146 Tryd.cells146 Tryd.cells168 (zs := Lib.pow10Tab) h2
  have hB := of_tables (laidMet.tail h2)
  have hs := hB.size
  exact ⟨⟨hT, by omega⟩, hB⟩
theorem gSyn : Tryd.prog.globalNamed "strconv.ErrSyntax" = some 0 := by kernel_rfl
theorem gRng : Tryd.prog.globalNamed "strconv.ErrRange" = some 1 := by kernel_rfl
theorem tSyn : (Tryd.prog.globals[0]?).map (·.type) = some 105 := by kernel_rfl
theorem tRng : (Tryd.prog.globals[1]?).map (·.type) = some 105 := by kernel_rfl
theorem Tryd.cells9 : Tryd.prog.cellsOf 9 = 1 := by kernel_rfl
theorem Tryd.cells176 : Tryd.prog.cellsOf 176 = 1 := by kernel_rfl
theorem Tryd.star : ("*" ++ "errors.errorString" : String) = "*errors.errorString" := by decide
theorem Tryd.rowErr (u : TypeId) (h : Tryd.prog.typeName? 3 u = some "*errors.errorString") : u = 174 :=
  typeName_ptr_named (nm := "errors.errorString") (by rw [Tryd.star]; kernel_rfl) (by kernel_rfl) (by decide) u (by rw [Tryd.star]; exact h)
theorem of_errs {W : World} {rest : List (String × DataW Unit)} (h2 : laidMet Tryd.prog (("internal/strconv.uint64pow10", Rows.laid_internal_strconv_uint64pow10) :: ("strconv.ErrRange", Rows.laid_strconv_ErrRange) :: ("strconv.ErrSyntax", Rows.laid_strconv_ErrSyntax) :: rest) W) : Env W := by
  have hT := Lib.tabIs_of_head gPow tPow Tryd.underlying168 Tryd.underlying146 Tryd.cells146 Tryd.cells168 (zs := Lib.pow10Tab) h2
  obtain ⟨a0, s0, hv0, _⟩ := laid_sentinel (laidMet.tail h2) gRng tRng Tryd.underlying105 Tryd.rowErr Tryd.underlying174 Tryd.underlying176 rfl rfl Tryd.underlying9 Tryd.cells176 Tryd.cells9
  obtain ⟨a1, s1, hv1, _⟩ := laid_sentinel (laidMet.tail (laidMet.tail h2)) gSyn tSyn Tryd.underlying105 Tryd.rowErr Tryd.underlying174 Tryd.underlying176 rfl rfl Tryd.underlying9 Tryd.cells176 Tryd.cells9
  refine ⟨hT, ⟨_, _, World.var?_cell gSyn hv1 0⟩, ⟨_, _, World.var?_cell gRng hv0 0⟩, ?_⟩
  have hc : W.cell? ⟨2, 0, none⟩ = some (.int .u64 1) := World.var?_cell gPow hT 0
  exact World.block_lt_of_cell? W _ hc
def laidN : List (String × DataW Unit) := [("math/bits.deBruijn32tab", Rows.laid_math_bits_deBruijn32tab), ("math/bits.deBruijn64tab", Rows.laid_math_bits_deBruijn64tab), ("internal/strconv.uint64pow10", Rows.laid_internal_strconv_uint64pow10), ("strconv.ErrRange", Rows.laid_strconv_ErrRange), ("strconv.ErrSyntax", Rows.laid_strconv_ErrSyntax), ("wapentake/blake.iv", Rows.laid_wapentake_blake_iv), ("wapentake/blake.rows", Rows.laid_wapentake_blake_rows)]
theorem doorN_met (os : Os) (args : Array Value) : laidMetH Tryd.prog laidN ((World.doorLaid Tryd.prog 82 os).forCall (fun _ _ => 0) ⟨#[], args, []⟩).memory :=
  laidMetH_of_parts3 (fuel := 8) (laidMet_of_run' 8 (by kernel_rfl) (by kernel_rfl)) (by kernel_rfl) (by kernel_rfl)
theorem of_laidN {W : World} (h : laidMetH Tryd.prog laidN W) : Env W ∧ EnvB W := by
  rw [MakeChecks.laidMetH_plain _ _ _ (by kernel_rfl)] at h
  have h2 := laidMet.tail (laidMet.tail h)
  exact ⟨of_errs h2, of_tables (laidMet.tail (laidMet.tail (laidMet.tail h2)))⟩
def laidE : List (String × DataW Unit) := [("math/bits.deBruijn32tab", Rows.laid_math_bits_deBruijn32tab), ("math/bits.deBruijn64tab", Rows.laid_math_bits_deBruijn64tab), ("internal/strconv.uint64pow10", Rows.laid_internal_strconv_uint64pow10), ("strconv.ErrRange", Rows.laid_strconv_ErrRange), ("strconv.ErrSyntax", Rows.laid_strconv_ErrSyntax)]
theorem doorE_met (os : Os) (args : Array Value) : laidMetH Tryd.prog laidE ((World.doorLaid Tryd.prog 82 os).forCall (fun _ _ => 0) ⟨#[], args, []⟩).memory :=
  laidMetH_of_parts3 (fuel := 8) (laidMet_of_run' 8 (by kernel_rfl) (by kernel_rfl)) (by kernel_rfl) (by kernel_rfl)
theorem of_laidE {W : World} (h : laidMetH Tryd.prog laidE W) : Env W := by
  rw [MakeChecks.laidMetH_plain _ _ _ (by kernel_rfl)] at h
  exact of_errs (laidMet.tail (laidMet.tail h))
end Go.Proofs.YtoniohmceaflnaaDoor
