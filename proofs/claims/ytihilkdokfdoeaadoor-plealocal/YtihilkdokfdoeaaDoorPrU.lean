/- What the rows of this seat list of package variables gives the walks; operations that came in, opened. -/
import Derived.Test.YtihilkdokfdoeaaDoorPa3
import Derived.Test.YtihilkdokfdoeaaDoorRows
import Derived.ProofKit
import Derived.LaidMore
import Derived.OpenShut
import Derived.ShutString
import Derived.SizedLaws
import Derived.Stop.Joined
import Derived.Stop.LaidErr
import Derived.Lib.LaidTab
import Derived.SliceStrings
import Derived.Lib.SmallJoins
import Derived.Deep.SlicePairs
import Derived.Deep.Slices
import Derived.Deep.Strs
namespace Go.Proofs.YtihilkdokfdoeaaDoor
open Go.ChangeShapes Go.WideShapes Go.ChangeAt Go.RowKit Go.Deep

theorem Tryd.own : ownKnob Tryd.prog.godebug = none := by kernel_rfl
theorem int_range {n : Int} (hw : (Lit.int .i64 n).wf = true) : -9223372036854775808 ≤ n ∧ n ≤ 9223372036854775807 := by
  have h := hw
  simp only [Lit.wf, Bool.and_eq_true, decide_eq_true_eq] at h
  exact h
theorem gIv : Tryd.prog.globalNamed "wapentake/blake.iv" = some 0 := by kernel_rfl
theorem gRows : Tryd.prog.globalNamed "wapentake/blake.rows" = some 1 := by kernel_rfl
theorem tIv : (Tryd.prog.globals[0]?).map (·.type) = some 144 := by kernel_rfl
theorem tRows : (Tryd.prog.globals[1]?).map (·.type) = some 168 := by kernel_rfl
theorem Tryd.cellsIv : Tryd.prog.cellsOf 144 = 8 := by kernel_rfl
theorem Tryd.cellsU32 : Tryd.prog.cellsOf 143 = 1 := by kernel_rfl
theorem Tryd.cellsRow : Tryd.prog.cellsOf 167 = 16 := by kernel_rfl
theorem Tryd.cellsU8 : Tryd.prog.cellsOf 5 = 1 := by kernel_rfl
theorem ivData {H : Type} : (Rows.laid_wapentake_blake_iv : DataW H) = Lib.tabData .u32 ivL := rfl
theorem rowsData {H : Type} : (Rows.laid_wapentake_blake_rows : DataW H) = .agg (rowsL.map (Lib.tabData .u8)) := rfl
theorem gv_map (k : IntKind) (v : List Int) (i : Nat) (hi : i < v.length) : (v.map fun z => Value.int k z)[i]? = some (.int k (gv v i)) := by
  simp [gv, List.getElem?_eq_getElem hi]

theorem of_tables {W : World} {rest : List (String × DataW Unit)} (h : laidMet Tryd.prog (("wapentake/blake.iv", Rows.laid_wapentake_blake_iv) :: ("wapentake/blake.rows", Rows.laid_wapentake_blake_rows) :: rest) W) : EnvK W := by
  obtain ⟨ps, ⟨g0, t0, cs0, f0, p0, q0, hg0, ht0, hv0, hd0, ⟨g1, t1, cs1, f1, p1, q1, hg1, ht1, hv1, hd1, _, _⟩, _⟩, _, _⟩ := h
  obtain rfl := Option.some.inj (gIv.symm.trans hg0)
  obtain rfl := Option.some.inj (gRows.symm.trans hg1)
  obtain rfl := Option.some.inj (tIv.symm.trans ht0)
  obtain rfl := Option.some.inj (tRows.symm.trans ht1)
  have h1 : Reads W 1 .u8 160 rowsF := by
    obtain ⟨xs, m, rfl, hx, hlen, hn, hel⟩ := DataW.trod_array Tryd.underlying168 hd1
    rw [rowsData] at hx
    simp only [Prod.mk.injEq, DataW.agg.injEq] at hx
    intro i hi
    have hi1 : i / 16 < 10 := by omega
    have hxs : xs[i / 16]?.map (·.1) = some (Lib.tabData .u8 (rowL (i / 16))) := by
      have := congrArg (·[i / 16]?) hx.1
      simp only [List.getElem?_map] at this
      rw [← this]
      have hl : i / 16 < rowsL.length := hi1
      rw [List.getElem?_eq_getElem hl]
      simp [rowL, List.getElem?_eq_getElem hl]
    obtain ⟨y, hy, hy1⟩ := Option.map_eq_some_iff.1 hxs
    have he := hel (i / 16) hi1
    rw [hy, Tryd.cellsRow] at he
    obtain ⟨y1, y2⟩ := y
    simp only at hy1
    subst hy1
    have hc := Lib.cells_of_tab Tryd.underlying167 Tryd.underlying5 Tryd.cellsU8 Tryd.cellsRow he
    have := World.var?_cell hg1 hv1 i
    rw [this]
    have hat : cs1.toList[i]? = some (.int .u8 (gv (rowL (i / 16)) ((i % 16 : Nat) : Int))) := by
      have e := congrArg (·[i % 16]?) hc
      rw [List.getElem?_take_of_lt (by omega), List.getElem?_drop, gv_map _ _ _ (by rw [rowL_len _ hi1]; omega)] at e
      rw [show i / 16 * 16 + i % 16 = i by omega] at e
      exact e
    rw [← rowsF_at _ hi1 _ (by omega), show i / 16 * 16 + i % 16 = i by omega] at hat
    simpa using hat
  refine ⟨?_, h1, ?_⟩
  · have hc := Lib.cells_of_tab Tryd.underlying144 Tryd.underlying143 Tryd.cellsU32 Tryd.cellsIv (zs := ivL) hd0
    intro i hi
    have := World.var?_cell hg0 hv0 i
    rw [this]
    have e := gv_map .u32 ivL i hi
    rw [← hc] at e
    simpa using e
  · have := h1 0 (by omega)
    unfold World.cell? at this
    by_cases hb : 1 < W.heap.size
    · exact hb
    · simp [Array.getElem?_eq_none (Nat.le_of_not_lt hb)] at this


def laidB : List (String × DataW Unit) := [("wapentake/blake.iv", Rows.laid_wapentake_blake_iv), ("wapentake/blake.rows", Rows.laid_wapentake_blake_rows)]
theorem doorB_met (os : Os) (args : Array Value) : laidMetH Tryd.prog laidB ((World.doorLaid Tryd.prog 125 os).forCall (fun _ _ => 0) ⟨#[], args, []⟩).memory :=
  laidMetH_of_parts3 (fuel := 8) (laidMet_of_run' 8 (by kernel_rfl) (by kernel_rfl)) (by kernel_rfl) (by kernel_rfl)
theorem of_laidB {W : World} (h : laidMetH Tryd.prog laidB W) : EnvK W := by
  rw [MakeChecks.laidMetH_plain _ _ _ (by kernel_rfl)] at h
  exact of_tables h
theorem weightsAll_mem {H : Type} {P : Program} {e : TypeId} : ∀ {ds : List (DataW H)} {d : DataW H}, d ∈ ds → ∀ n ∈ d.weights P e, n ∈ DataW.weightsAll P e ds
  | d0 :: ds, d, hd, n, hn => by
    simp only [DataW.weightsAll, List.mem_append]
    rcases List.mem_cons.1 hd with rfl | h
    · exact Or.inl hn
    · exact Or.inr (weightsAll_mem h n hn)
theorem Tryd.cells47 : Tryd.prog.cellsOf 47 = 4 := by kernel_rfl
theorem Tryd.cells9 : Tryd.prog.cellsOf 9 = 1 := by kernel_rfl
theorem list4 {cs : List Value} (h : cs.length = 4) : ∃ c0 c1 c2 c3, cs = [c0, c1, c2, c3] := by
  match cs, h with
  | [c0, c1, c2, c3], _ => exact ⟨c0, c1, c2, c3, rfl⟩
theorem list4' {α : Type} {xs : List α} (h : xs.length = 4) : ∃ y0 y1 y2 y3, xs = [y0, y1, y2, y3] := by
  match xs, h with
  | [y0, y1, y2, y3], _ => exact ⟨y0, y1, y2, y3, rfl⟩

set_option maxRecDepth 100000 in
set_option maxHeartbeats 1000000 in
theorem open_op_cells {H : Type} {enc : TypeId × Value → H} {W : World} {fuel : Nat} {cs : List Value} {y : DataW H × List MemPlace} (h : DataW.trod enc Tryd.prog W 0 (fun _ => true) true fuel 47 cs = some y) :
    ∃ s : Opr, cs = ocs s ∧ s.k.length ∈ y.1.weights Tryd.prog 47 := by
  obtain ⟨xs, n, _, rfl, hl, hlen, hf⟩ := DataW.trod_struct Tryd.underlying47 h
  rw [Tryd.cells47] at hl
  obtain ⟨c0, c1, c2, c3, rfl⟩ := list4 hl
  obtain ⟨y0, y1, y2, y3, rfl⟩ := list4' (by simpa using hlen)
  have h0 := hf 0 _ rfl
  have h1 := hf 1 _ rfl
  have h2 := hf 2 _ rfl
  have h3 := hf 3 _ rfl
  simp [Tryd.cells3, Tryd.cells9] at h0 h1 h2 h3
  obtain ⟨a0, e0, _, _⟩ := DataW.trod_int Tryd.underlying3 h0
  obtain ⟨a1, e1, k1, _⟩ := DataW.trod_string Tryd.underlying9 h1
  obtain ⟨a2, e2, _, _⟩ := DataW.trod_string Tryd.underlying9 h2
  obtain ⟨a3, e3, _, _⟩ := DataW.trod_string Tryd.underlying9 h3
  simp at e0 e1 e2 e3
  subst e0 e1 e2 e3
  refine ⟨⟨a0, a1.data.toList, a2.data.toList, a3.data.toList⟩, by simp [ocs, bs_data], ?_⟩
  simp [DataW.weights, DataW.weightsEach, Tryd.underlying47, k1]
end Go.Proofs.YtihilkdokfdoeaaDoor
