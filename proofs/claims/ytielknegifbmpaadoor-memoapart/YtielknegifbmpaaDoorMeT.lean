/- What the rows of this seat list of package variables gives the walks. -/
import Derived.Test.YtielknegifbmpaaDoorMeC
import Derived.Test.YtielknegifbmpaaDoorRows
import Derived.ProofKit
import Derived.LaidMore
import Derived.OpenShut
import Derived.ShutString
import Derived.SizedLaws
import Derived.Stop.Joined
import Derived.Stop.LaidErr
import Derived.Lib.LaidTab
import Derived.SliceStrings
namespace Go.Proofs.YtielknegifbmpaaDoor
open Go.ChangeShapes Go.WideShapes Go.ChangeAt Go.RowKit

theorem Tryd.own : ownKnob Tryd.prog.godebug = none := by kernel_rfl
theorem Tryd.laidOut : laidOutB Tryd.prog = true := by kernel_rfl
theorem tPow : (Tryd.prog.globals[3]?).map (·.type) = some 119 := by kernel_rfl
theorem Tryd.cells119 : Tryd.prog.cellsOf 119 = 20 := by kernel_rfl
theorem Tryd.cells105 : Tryd.prog.cellsOf 105 = 1 := by kernel_rfl
theorem powData {H : Type} : (Rows.laid_internal_strconv_uint64pow10 : DataW H) = Lib.tabData .u64 Lib.pow10Tab := rfl
theorem int_range {n : Int} (hw : (Lit.int .i64 n).wf = true) : -9223372036854775808 ≤ n ∧ n ≤ 9223372036854775807 := by
  have h := hw
  simp only [Lit.wf, Bool.and_eq_true, decide_eq_true_eq] at h
  exact h
theorem gSyn : Tryd.prog.globalNamed "strconv.ErrSyntax" = some 1 := by kernel_rfl
theorem gRng : Tryd.prog.globalNamed "strconv.ErrRange" = some 2 := by kernel_rfl
theorem tSyn : (Tryd.prog.globals[1]?).map (·.type) = some 73 := by kernel_rfl
theorem tRng : (Tryd.prog.globals[2]?).map (·.type) = some 73 := by kernel_rfl
theorem Tryd.cells9 : Tryd.prog.cellsOf 9 = 1 := by kernel_rfl
theorem Tryd.cells127 : Tryd.prog.cellsOf 127 = 1 := by kernel_rfl
theorem Tryd.star : ("*" ++ "errors.errorString" : String) = "*errors.errorString" := by decide
theorem Tryd.rowErr (u : TypeId) (h : Tryd.prog.typeName? 3 u = some "*errors.errorString") : u = 125 :=
  typeName_ptr_named (nm := "errors.errorString") (by rw [Tryd.star]; kernel_rfl) (by kernel_rfl) (by decide) u (by rw [Tryd.star]; exact h)
theorem of_errs {W : World} {rest : List (String × DataW Unit)} (h2 : laidMet Tryd.prog (("internal/strconv.uint64pow10", Rows.laid_internal_strconv_uint64pow10) :: ("strconv.ErrRange", Rows.laid_strconv_ErrRange) :: ("strconv.ErrSyntax", Rows.laid_strconv_ErrSyntax) :: rest) W) : Env W := by
  have hT := Lib.tabIs_of_head gPow tPow Tryd.underlying119 Tryd.underlying105 Tryd.cells105 Tryd.cells119 (zs := Lib.pow10Tab) h2
  obtain ⟨a0, s0, hv0, _⟩ := laid_sentinel (laidMet.tail h2) gRng tRng Tryd.underlying73 Tryd.rowErr Tryd.underlying125 Tryd.underlying127 rfl rfl Tryd.underlying9 Tryd.cells127 Tryd.cells9
  obtain ⟨a1, s1, hv1, _⟩ := laid_sentinel (laidMet.tail (laidMet.tail h2)) gSyn tSyn Tryd.underlying73 Tryd.rowErr Tryd.underlying125 Tryd.underlying127 rfl rfl Tryd.underlying9 Tryd.cells127 Tryd.cells9
  refine ⟨hT, ⟨_, _, World.var?_cell gSyn hv1 0⟩, ⟨_, _, World.var?_cell gRng hv0 0⟩, ?_⟩
  have hc : W.cell? ⟨3, 0, none⟩ = some (.int .u64 1) := World.var?_cell gPow hT 0
  exact World.block_lt_of_cell? W _ hc
theorem gShapes : Tryd.prog.globalNamed "wapentake/memo.shapes" = some 0 := by kernel_rfl
theorem tShapes : (Tryd.prog.globals[0]?).map (·.type) = some 67 := by kernel_rfl
theorem Tryd.cells66 : Tryd.prog.cellsOf 66 = 7 := by kernel_rfl
theorem Tryd.cells64 : Tryd.prog.cellsOf 64 = 2 := by kernel_rfl
theorem Tryd.cells4 : Tryd.prog.cellsOf 4 = 1 := by kernel_rfl
theorem Tryd.cells3 : Tryd.prog.cellsOf 3 = 1 := by kernel_rfl
theorem list7 {α : Type} {l : List α} (h : l.length = 7) : ∃ a b c d e f g, l = [a, b, c, d, e, f, g] := by
  match l with
  | [a, b, c, d, e, f, g] => exact ⟨a, b, c, d, e, f, g, rfl⟩
  | [] => cases h
  | [_] => cases h
  | [_, _] => cases h
  | [_, _, _] => cases h
  | [_, _, _, _] => cases h
  | [_, _, _, _, _] => cases h
  | [_, _, _, _, _, _] => cases h
  | _ :: _ :: _ :: _ :: _ :: _ :: _ :: _ :: _ => simp at h
theorem list5 {α : Type} {l : List α} (h : l.length = 5) : ∃ a b c d e, l = [a, b, c, d, e] := by
  match l with
  | [a, b, c, d, e] => exact ⟨a, b, c, d, e, rfl⟩
  | [] => cases h
  | [_] => cases h
  | [_, _] => cases h
  | [_, _, _] => cases h
  | [_, _, _, _] => cases h
  | _ :: _ :: _ :: _ :: _ :: _ :: _ => simp at h
def spD {H : Type} (a b : Int) : DataW H := .agg [.lit (.int .i64 a), .lit (.int .i64 b)]
def shD {H : Type} (k : Nat) : DataW H := .agg [.lit (.bool (anyK k)), spD (vlo k) (vhi k), spD (nlo k) (nhi k), .lit (.int .i64 (txK k)), .lit (.int .i64 (tgK k))]
theorem shapesData {H : Type} : (Rows.laid_wapentake_memo_shapes : DataW H) = .agg ((List.range 13).map shD) := rfl
set_option maxRecDepth 100000 in
theorem span_cells {H : Type} {enc : TypeId × Value → H} {w : World} {base : Nat} {sp : Nat → Bool} {held : Bool} {fuel : Nat} {cs : List Value} {y : DataW H × List MemPlace} {a b : Int} (h : DataW.trod enc Tryd.prog w base sp held fuel 64 cs = some y) (hy : y.1 = spD a b) : cs = [.int .i64 a, .int .i64 b] := by
  obtain ⟨xs, n, _, rfl, hl, hlen, hf⟩ := DataW.trod_struct Tryd.underlying64 h
  rw [Tryd.cells64] at hl
  match cs, hl with
  | [c0, c1], _ =>
    match xs, hlen with
    | [z0, z1], _ =>
      have i0 := hf 0 _ rfl
      have i1 := hf 1 _ rfl
      simp [Tryd.cells3] at i0 i1
      obtain ⟨a0, e0, k0, _⟩ := DataW.trod_int Tryd.underlying3 i0
      obtain ⟨a1, e1, k1, _⟩ := DataW.trod_int Tryd.underlying3 i1
      simp at e0 e1
      rw [k0, k1] at hy
      simp [spD] at hy
      rw [e0, e1, hy.1, hy.2]
set_option maxRecDepth 100000 in
set_option maxHeartbeats 2000000 in
theorem shape_cells {H : Type} {enc : TypeId × Value → H} {w : World} {base : Nat} {sp : Nat → Bool} {held : Bool} {fuel k : Nat} {cs : List Value} {y : DataW H × List MemPlace} (h : DataW.trod enc Tryd.prog w base sp held fuel 66 cs = some y) (hy : y.1 = shD k) : cs = shc k := by
  obtain ⟨xs, n, _, rfl, hl, hlen, hf⟩ := DataW.trod_struct Tryd.underlying66 h
  rw [Tryd.cells66] at hl
  obtain ⟨c0, c1, c2, c3, c4, c5, c6, rfl⟩ := list7 hl
  obtain ⟨y0, y1, y2, y3, y4, rfl⟩ := list5 (by simpa using hlen)
  have i0 := hf 0 _ rfl
  have i1 := hf 1 _ rfl
  have i2 := hf 2 _ rfl
  have i3 := hf 3 _ rfl
  have i4 := hf 4 _ rfl
  simp [Tryd.cells3, Tryd.cells4, Tryd.cells64] at i0 i1 i2 i3 i4
  simp only [shD, List.map_cons, List.map_nil, DataW.agg.injEq, List.cons.injEq, and_true] at hy
  obtain ⟨b0, b1, b2, b3, b4⟩ := hy
  obtain ⟨a0, e0, k0⟩ := DataW.trod_bool Tryd.underlying4 i0
  have e1 := span_cells i1 b1
  have e2 := span_cells i2 b2
  obtain ⟨a3, e3, k3, _⟩ := DataW.trod_int Tryd.underlying3 i3
  obtain ⟨a4, e4, k4, _⟩ := DataW.trod_int Tryd.underlying3 i4
  rw [k0] at b0
  rw [k3] at b3
  rw [k4] at b4
  simp at b0 b3 b4 e0 e1 e2 e3 e4
  rw [shc, e0, e1.1, e1.2, e2.1, e2.2, e3, e4, b0, b3, b4]
set_option maxRecDepth 100000 in
theorem of_shapes {W : World} (h : laidMet Tryd.prog [("wapentake/memo.shapes", Rows.laid_wapentake_memo_shapes)] W) : EnvS W := by
  obtain ⟨ps, ⟨g0, t0, cs0, f0, p0, q0, hg0, ht0, hv0, hd0, _, _⟩, _, _⟩ := h
  obtain rfl := Option.some.inj (gShapes.symm.trans hg0)
  obtain rfl := Option.some.inj (tShapes.symm.trans ht0)
  obtain ⟨xs, m, rfl, hx, hlen, hn, hel⟩ := DataW.trod_array Tryd.underlying67 hd0
  rw [shapesData] at hx
  simp only [Prod.mk.injEq, DataW.agg.injEq] at hx
  intro k hk j v hj
  have hj7 : j < 7 := by
    have := (List.getElem?_eq_some_iff.1 hj).1
    simpa [shc] using this
  have he := hel k (by omega)
  have hxs : xs[k]?.map (·.1) = some (shD k) := by
    have := congrArg (·[k]?) hx.1
    simp only [List.getElem?_map] at this
    rw [← this, List.getElem?_range (by omega)]
    rfl
  obtain ⟨y, hy, hy1⟩ := Option.map_eq_some_iff.1 hxs
  rw [hy, Tryd.cells66] at he
  have hc := shape_cells he hy1
  have hcell := World.var?_cell hg0 hv0 (k * 7 + j)
  rw [hcell]
  have e := congrArg (·[j]?) hc
  rw [List.getElem?_take_of_lt hj7, List.getElem?_drop] at e
  rw [hj] at e
  simpa using e
def laidM : List (String × DataW Unit) := [("math/bits.deBruijn32tab", Rows.laid_math_bits_deBruijn32tab), ("math/bits.deBruijn64tab", Rows.laid_math_bits_deBruijn64tab), ("internal/strconv.uint64pow10", Rows.laid_internal_strconv_uint64pow10), ("strconv.ErrRange", Rows.laid_strconv_ErrRange), ("strconv.ErrSyntax", Rows.laid_strconv_ErrSyntax), ("wapentake/memo.shapes", Rows.laid_wapentake_memo_shapes)]
theorem doorM_met (os : Os) (args : Array Value) : laidMetH Tryd.prog laidM ((World.doorLaid Tryd.prog 92 os).forCall (fun _ _ => 0) ⟨#[], args, []⟩).memory :=
  laidMetH_of_parts3 (fuel := 8) (laidMet_of_run' 8 (by kernel_rfl) (by kernel_rfl)) (by kernel_rfl) (by kernel_rfl)
theorem of_laidM {W : World} (h : laidMetH Tryd.prog laidM W) : EnvM W := by
  rw [MakeChecks.laidMetH_plain _ _ _ (by kernel_rfl)] at h
  have h2 := laidMet.tail (laidMet.tail h)
  exact ⟨of_errs h2, of_shapes (laidMet.tail (laidMet.tail (laidMet.tail h2)))⟩
end Go.Proofs.YtielknegifbmpaaDoor
