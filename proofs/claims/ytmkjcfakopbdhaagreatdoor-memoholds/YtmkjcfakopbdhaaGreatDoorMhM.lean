/- What the rows of this seat list of package variables gives the walks. -/
import Derived.Test.YtmkjcfakopbdhaaGreatDoorMeC
import Derived.Test.YtmkjcfakopbdhaaGreatDoorMhV
import Derived.Test.YtmkjcfakopbdhaaGreatDoorRows
import Derived.ProofKit
import Derived.LaidMore
import Derived.OpenShut
import Derived.ShutString
import Derived.SizedLaws
import Derived.Stop.Joined
import Derived.Stop.LaidErr
import Derived.Lib.LaidTab
import Derived.SliceStrings
namespace Go.Proofs.YtmkjcfakopbdhaaGreatDoor
open Go.ChangeShapes Go.WideShapes Go.ChangeAt Go.RowKit

theorem Tryz.own : ownKnob Tryz.prog.godebug = none := by kernel_rfl
theorem Tryz.laidOut : laidOutB Tryz.prog = true := by kernel_rfl
theorem tPow : (Tryz.prog.globals[3]?).map (·.type) = some 151 := by kernel_rfl
theorem Tryz.cells151 : Tryz.prog.cellsOf 151 = 20 := by kernel_rfl
theorem Tryz.cells128 : Tryz.prog.cellsOf 128 = 1 := by kernel_rfl
theorem powData {H : Type} : (Rows.laid_internal_strconv_uint64pow10 : DataW H) = Lib.tabData .u64 Lib.pow10Tab := rfl
theorem int_range {n : Int} (hw : (Lit.int .i64 n).wf = true) : -9223372036854775808 ≤ n ∧ n ≤ 9223372036854775807 := by
  have h := hw
  simp only [Lit.wf, Bool.and_eq_true, decide_eq_true_eq] at h
  exact h
theorem gSyn : Tryz.prog.globalNamed "strconv.ErrSyntax" = some 1 := by kernel_rfl
theorem gRng : Tryz.prog.globalNamed "strconv.ErrRange" = some 2 := by kernel_rfl
theorem tSyn : (Tryz.prog.globals[1]?).map (·.type) = some 80 := by kernel_rfl
theorem tRng : (Tryz.prog.globals[2]?).map (·.type) = some 80 := by kernel_rfl
theorem Tryz.cells9 : Tryz.prog.cellsOf 9 = 1 := by kernel_rfl
theorem Tryz.cells158 : Tryz.prog.cellsOf 158 = 1 := by kernel_rfl
theorem Tryz.star : ("*" ++ "errors.errorString" : String) = "*errors.errorString" := by decide
theorem Tryz.rowErr (u : TypeId) (h : Tryz.prog.typeName? 3 u = some "*errors.errorString") : u = 156 :=
  typeName_ptr_named (nm := "errors.errorString") (by rw [Tryz.star]; kernel_rfl) (by kernel_rfl) (by decide) u (by rw [Tryz.star]; exact h)
theorem of_errs {W : World} {rest : List (String × DataW Unit)} (h2 : laidMet Tryz.prog (("internal/strconv.uint64pow10", Rows.laid_internal_strconv_uint64pow10) :: ("strconv.ErrRange", Rows.laid_strconv_ErrRange) :: ("strconv.ErrSyntax", Rows.laid_strconv_ErrSyntax) :: rest) W) : Env W := by
  have hT := Lib.tabIs_of_head gPow tPow Tryz.underlying151 Tryz.underlying128 Tryz.cells128 Tryz.cells151 (zs := Lib.pow10Tab) h2
  obtain ⟨a0, s0, hv0, _⟩ := laid_sentinel (laidMet.tail h2) gRng tRng Tryz.underlying80 Tryz.rowErr Tryz.underlying156 Tryz.underlying158 rfl rfl Tryz.underlying9 Tryz.cells158 Tryz.cells9
  obtain ⟨a1, s1, hv1, _⟩ := laid_sentinel (laidMet.tail (laidMet.tail h2)) gSyn tSyn Tryz.underlying80 Tryz.rowErr Tryz.underlying156 Tryz.underlying158 rfl rfl Tryz.underlying9 Tryz.cells158 Tryz.cells9
  refine ⟨hT, ⟨_, _, World.var?_cell gSyn hv1 0⟩, ⟨_, _, World.var?_cell gRng hv0 0⟩, ?_⟩
  have hc : W.cell? ⟨3, 0, none⟩ = some (.int .u64 1) := World.var?_cell gPow hT 0
  exact World.block_lt_of_cell? W _ hc
theorem gShapes : Tryz.prog.globalNamed "wapentake/memo.shapes" = some 0 := by kernel_rfl
theorem tShapes : (Tryz.prog.globals[0]?).map (·.type) = some 67 := by kernel_rfl
theorem Tryz.cells66 : Tryz.prog.cellsOf 66 = 7 := by kernel_rfl
theorem Tryz.cells64 : Tryz.prog.cellsOf 64 = 2 := by kernel_rfl
theorem Tryz.cells4 : Tryz.prog.cellsOf 4 = 1 := by kernel_rfl
theorem Tryz.cells3 : Tryz.prog.cellsOf 3 = 1 := by kernel_rfl
theorem list7 {α : Type} {l : List α} (h : l.length = 7) : ∃ a b c d e f g, l = [a, b, c, d, e, f, g] := by
  match l with
  | [a, b, c, d, e, f, g] => exact ⟨a, b, c, d, e, f, g, rfl⟩
  | [] => cases h
  | [_] => cases h
  | [_, _] => cases h
  | [_, _, _] => cases h
  | [_, _, _, _] => cases h
  | [_, _, _, _, _] => cases h
  | [_, _, _, _, _, _] => cases h
  | _ :: _ :: _ :: _ :: _ :: _ :: _ :: _ :: _ => simp at h
theorem list5 {α : Type} {l : List α} (h : l.length = 5) : ∃ a b c d e, l = [a, b, c, d, e] := by
  match l with
  | [a, b, c, d, e] => exact ⟨a, b, c, d, e, rfl⟩
  | [] => cases h
  | [_] => cases h
  | [_, _] => cases h
  | [_, _, _] => cases h
  | [_, _, _, _] => cases h
  | _ :: _ :: _ :: _ :: _ :: _ :: _ => simp at h
def spD {H : Type} (a b : Int) : DataW H := .agg [.lit (.int .i64 a), .lit (.int .i64 b)]
def shD {H : Type} (k : Nat) : DataW H := .agg [.lit (.bool (anyK k)), spD (vlo k) (vhi k), spD (nlo k) (nhi k), .lit (.int .i64 (txK k)), .lit (.int .i64 (tgK k))]
theorem shapesData {H : Type} : (Rows.laid_wapentake_memo_shapes : DataW H) = .agg ((List.range 13).map shD) := rfl
set_option maxRecDepth 100000 in
theorem span_cells {H : Type} {enc : TypeId × Value → H} {w : World} {base : Nat} {sp : Nat → Bool} {held : Bool} {fuel : Nat} {cs : List Value} {y : DataW H × List MemPlace} {a b : Int} (h : DataW.trod enc Tryz.prog w base sp held fuel 64 cs = some y) (hy : y.1 = spD a b) : cs = [.int .i64 a, .int .i64 b] := by
  obtain ⟨xs, n, _, rfl, hl, hlen, hf⟩ := DataW.trod_struct Tryz.underlying64 h
  rw [Tryz.cells64] at hl
  match cs, hl with
  | [c0, c1], _ =>
    match xs, hlen with
    | [z0, z1], _ =>
      have i0 := hf 0 _ rfl
      have i1 := hf 1 _ rfl
      simp [Tryz.cells3] at i0 i1
      obtain ⟨a0, e0, k0, _⟩ := DataW.trod_int Tryz.underlying3 i0
      obtain ⟨a1, e1, k1, _⟩ := DataW.trod_int Tryz.underlying3 i1
      simp at e0 e1
      rw [k0, k1] at hy
      simp [spD] at hy
      rw [e0, e1, hy.1, hy.2]
set_option maxRecDepth 100000 in
set_option maxHeartbeats 2000000 in
theorem shape_cells {H : Type} {enc : TypeId × Value → H} {w : World} {base : Nat} {sp : Nat → Bool} {held : Bool} {fuel k : Nat} {cs : List Value} {y : DataW H × List MemPlace} (h : DataW.trod enc Tryz.prog w base sp held fuel 66 cs = some y) (hy : y.1 = shD k) : cs = shc k := by
  obtain ⟨xs, n, _, rfl, hl, hlen, hf⟩ := DataW.trod_struct Tryz.underlying66 h
  rw [Tryz.cells66] at hl
  obtain ⟨c0, c1, c2, c3, c4, c5, c6, rfl⟩ := list7 hl
  obtain ⟨y0, y1, y2, y3, y4, rfl⟩ := list5 (by simpa using hlen)
  have i0 := hf 0 _ rfl
  have i1 := hf 1 _ rfl
  have i2 := hf 2 _ rfl
  have i3 := hf 3 _ rfl
  have i4 := hf 4 _ rfl
  simp [Tryz.cells3, Tryz.cells4, Tryz.cells64] at i0 i1 i2 i3 i4
  simp only [shD, List.map_cons, List.map_nil, DataW.agg.injEq, List.cons.injEq, and_true] at hy
  obtain ⟨b0, b1, b2, b3, b4⟩ := hy
  obtain ⟨a0, e0, k0⟩ := DataW.trod_bool Tryz.underlying4 i0
  have e1 := span_cells i1 b1
  have e2 := span_cells i2 b2
  obtain ⟨a3, e3, k3, _⟩ := DataW.trod_int Tryz.underlying3 i3
  obtain ⟨a4, e4, k4, _⟩ := DataW.trod_int Tryz.underlying3 i4
  rw [k0] at b0
  rw [k3] at b3
  rw [k4] at b4
  simp at b0 b3 b4 e0 e1 e2 e3 e4
  rw [shc, e0, e1.1, e1.2, e2.1, e2.2, e3, e4, b0, b3, b4]
set_option maxRecDepth 100000 in
theorem of_shapes {W : World} (h : laidMet Tryz.prog [("wapentake/memo.shapes", Rows.laid_wapentake_memo_shapes)] W) : EnvS W := by
  obtain ⟨ps, ⟨g0, t0, cs0, f0, p0, q0, hg0, ht0, hv0, hd0, _, _⟩, _, _⟩ := h
  obtain rfl := Option.some.inj (gShapes.symm.trans hg0)
  obtain rfl := Option.some.inj (tShapes.symm.trans ht0)
  obtain ⟨xs, m, rfl, hx, hlen, hn, hel⟩ := DataW.trod_array Tryz.underlying67 hd0
  rw [shapesData] at hx
  simp only [Prod.mk.injEq, DataW.agg.injEq] at hx
  intro k hk j v hj
  have hj7 : j < 7 := by
    have := (List.getElem?_eq_some_iff.1 hj).1
    simpa [shc] using this
  have he := hel k (by omega)
  have hxs : xs[k]?.map (·.1) = some (shD k) := by
    have := congrArg (·[k]?) hx.1
    simp only [List.getElem?_map] at this
    rw [← this, List.getElem?_range (by omega)]
    rfl
  obtain ⟨y, hy, hy1⟩ := Option.map_eq_some_iff.1 hxs
  rw [hy, Tryz.cells66] at he
  have hc := shape_cells he hy1
  have hcell := World.var?_cell hg0 hv0 (k * 7 + j)
  rw [hcell]
  have e := congrArg (·[j]?) hc
  rw [List.getElem?_take_of_lt hj7, List.getElem?_drop] at e
  rw [hj] at e
  simpa using e
theorem gIv : Tryz.prog.globalNamed "wapentake/blake.iv" = some 4 := by kernel_rfl
theorem gRows : Tryz.prog.globalNamed "wapentake/blake.rows" = some 5 := by kernel_rfl
theorem tIv : (Tryz.prog.globals[4]?).map (·.type) = some 141 := by kernel_rfl
theorem tRows : (Tryz.prog.globals[5]?).map (·.type) = some 163 := by kernel_rfl
theorem Tryz.cellsIv : Tryz.prog.cellsOf 141 = 8 := by kernel_rfl
theorem Tryz.cellsU32 : Tryz.prog.cellsOf 140 = 1 := by kernel_rfl
theorem Tryz.cellsRow : Tryz.prog.cellsOf 71 = 16 := by kernel_rfl
theorem Tryz.cellsU8 : Tryz.prog.cellsOf 5 = 1 := by kernel_rfl
theorem ivData {H : Type} : (Rows.laid_wapentake_blake_iv : DataW H) = Lib.tabData .u32 ivL := rfl
theorem rowsData {H : Type} : (Rows.laid_wapentake_blake_rows : DataW H) = .agg (rowsL.map (Lib.tabData .u8)) := rfl
theorem gv_map (k : IntKind) (v : List Int) (i : Nat) (hi : i < v.length) : (v.map fun z => Value.int k z)[i]? = some (.int k (gv v i)) := by
  simp [gv, List.getElem?_eq_getElem hi]

theorem of_tables {W : World} {rest : List (String × DataW Unit)} (h : laidMet Tryz.prog (("wapentake/blake.iv", Rows.laid_wapentake_blake_iv) :: ("wapentake/blake.rows", Rows.laid_wapentake_blake_rows) :: rest) W) : EnvB W := by
  obtain ⟨ps, ⟨g0, t0, cs0, f0, p0, q0, hg0, ht0, hv0, hd0, ⟨g1, t1, cs1, f1, p1, q1, hg1, ht1, hv1, hd1, _, _⟩, _⟩, _, _⟩ := h
  obtain rfl := Option.some.inj (gIv.symm.trans hg0)
  obtain rfl := Option.some.inj (gRows.symm.trans hg1)
  obtain rfl := Option.some.inj (tIv.symm.trans ht0)
  obtain rfl := Option.some.inj (tRows.symm.trans ht1)
  have h1 : Reads W 5 .u8 160 rowsF := by
    obtain ⟨xs, m, rfl, hx, hlen, hn, hel⟩ := DataW.trod_array Tryz.underlying163 hd1
    rw [rowsData] at hx
    simp only [Prod.mk.injEq, DataW.agg.injEq] at hx
    intro i hi
    have hi1 : i / 16 < 10 := by omega
    have hxs : xs[i / 16]?.map (·.1) = some (Lib.tabData .u8 (rowL (i / 16))) := by
      have := congrArg (·[i / 16]?) hx.1
      simp only [List.getElem?_map] at this
      rw [← this]
      have hl : i / 16 < rowsL.length := hi1
      rw [List.getElem?_eq_getElem hl]
      simp [rowL, List.getElem?_eq_getElem hl]
    obtain ⟨y, hy, hy1⟩ := Option.map_eq_some_iff.1 hxs
    have he := hel (i / 16) hi1
    rw [hy, Tryz.cellsRow] at he
    obtain ⟨y1, y2⟩ := y
    simp only at hy1
    subst hy1
    have hc := Lib.cells_of_tab Tryz.underlying71 Tryz.underlying5 Tryz.cellsU8 Tryz.cellsRow he
    have := World.var?_cell hg1 hv1 i
    rw [this]
    have hat : cs1.toList[i]? = some (.int .u8 (gv (rowL (i / 16)) ((i % 16 : Nat) : Int))) := by
      have e := congrArg (·[i % 16]?) hc
      rw [List.getElem?_take_of_lt (by omega), List.getElem?_drop, gv_map _ _ _ (by rw [rowL_len _ hi1]; omega)] at e
      rw [show i / 16 * 16 + i % 16 = i by omega] at e
      exact e
    rw [← rowsF_at _ hi1 _ (by omega), show i / 16 * 16 + i % 16 = i by omega] at hat
    simpa using hat
  refine ⟨?_, h1, ?_⟩
  · have hc := Lib.cells_of_tab Tryz.underlying141 Tryz.underlying140 Tryz.cellsU32 Tryz.cellsIv (zs := ivL) hd0
    intro i hi
    have := World.var?_cell hg0 hv0 i
    rw [this]
    have e := gv_map .u32 ivL i hi
    rw [← hc] at e
    simpa using e
  · have := h1 0 (by omega)
    unfold World.cell? at this
    by_cases hb : 5 < W.heap.size
    · exact hb
    · simp [Array.getElem?_eq_none (Nat.le_of_not_lt hb)] at this

def laidM : List (String × DataW Unit) := [("math/bits.deBruijn32tab", Rows.laid_math_bits_deBruijn32tab), ("math/bits.deBruijn64tab", Rows.laid_math_bits_deBruijn64tab), ("internal/strconv.uint64pow10", Rows.laid_internal_strconv_uint64pow10), ("strconv.ErrRange", Rows.laid_strconv_ErrRange), ("strconv.ErrSyntax", Rows.laid_strconv_ErrSyntax), ("wapentake/blake.iv", Rows.laid_wapentake_blake_iv), ("wapentake/blake.rows", Rows.laid_wapentake_blake_rows), ("wapentake/memo.shapes", Rows.laid_wapentake_memo_shapes)]
theorem doorM_met (os : Os) (args : Array Value) : laidMetH Tryz.prog laidM ((World.doorLaid Tryz.prog 161 os).forCall (fun _ _ => 0) ⟨#[], args, []⟩).memory :=
  laidMetH_of_parts3 (fuel := 8) (laidMet_of_run' 8 (by kernel_rfl) (by kernel_rfl)) (by kernel_rfl) (by kernel_rfl)
theorem of_laidM {W : World} (h : laidMetH Tryz.prog laidM W) : EnvH W := by
  rw [MakeChecks.laidMetH_plain _ _ _ (by kernel_rfl)] at h
  have h2 := laidMet.tail (laidMet.tail h)
  have h5 := laidMet.tail (laidMet.tail (laidMet.tail h2))
  exact ⟨⟨of_errs h2, of_shapes (laidMet.tail (laidMet.tail h5))⟩, of_tables h5⟩
end Go.Proofs.YtmkjcfakopbdhaaGreatDoor
