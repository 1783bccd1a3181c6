/- What the rows of this seat list of blake's two tables gives the walks: the cells of the starting values and of the ten rows hold their numbers; the heap that the program's own initialisers leave meets that condition. -/
import Derived.Test.YtnachkdclmcaiabDoorBkI
import Derived.Test.YtnachkdclmcaiabDoorRows
import Derived.ProofKit
import Derived.LaidMore
import Derived.OpenShut
import Derived.ShutString
import Derived.SizedLaws
import Derived.Stop.Joined
import Derived.Lib.LaidTab
namespace Go.Proofs.YtnachkdclmcaiabDoor
open Go.ChangeShapes Go.WideShapes Go.ChangeAt Go.RowKit

theorem Tryd.own : ownKnob Tryd.prog.godebug = none := by kernel_rfl
theorem Tryd.laidOut : laidOutB Tryd.prog = true := by kernel_rfl
theorem gIv : Tryd.prog.globalNamed "wapentake/blake.iv" = some 0 := by kernel_rfl
theorem gRows : Tryd.prog.globalNamed "wapentake/blake.rows" = some 1 := by kernel_rfl
theorem tIv : (Tryd.prog.globals[0]?).map (·.type) = some 68 := by kernel_rfl
theorem tRows : (Tryd.prog.globals[1]?).map (·.type) = some 87 := by kernel_rfl
theorem Tryd.cells68 : Tryd.prog.cellsOf 68 = 8 := by kernel_rfl
theorem Tryd.cells67 : Tryd.prog.cellsOf 67 = 1 := by kernel_rfl
theorem Tryd.cells86 : Tryd.prog.cellsOf 86 = 16 := by kernel_rfl
theorem Tryd.cells87 : Tryd.prog.cellsOf 87 = 160 := by kernel_rfl
theorem Tryd.cells5 : Tryd.prog.cellsOf 5 = 1 := by kernel_rfl

def laidL : List (String × DataW Unit) := [("wapentake/blake.iv", Rows.laid_wapentake_blake_iv), ("wapentake/blake.rows", Rows.laid_wapentake_blake_rows)]
theorem ivData {H : Type} : (Rows.laid_wapentake_blake_iv : DataW H) = Lib.tabData .u32 ivL := rfl
theorem rowsData {H : Type} : (Rows.laid_wapentake_blake_rows : DataW H) = .agg (rowsL.map (Lib.tabData .u8)) := rfl

theorem door_met (os : Os) (args : Array Value) : laidMetH Tryd.prog laidL ((World.doorLaid Tryd.prog 82 os).forCall (fun _ _ => 0) ⟨#[], args, []⟩).memory :=
  laidMetH_of_parts3 (fuel := 8) (laidMet_of_run' 8 (by kernel_rfl) (by kernel_rfl)) (by kernel_rfl) (by kernel_rfl)

theorem gv_map (k : IntKind) (v : List Int) (i : Nat) (hi : i < v.length) : (v.map fun z => Value.int k z)[i]? = some (.int k (gv v i)) := by
  simp [gv, List.getElem?_eq_getElem hi]

theorem of_laid {W : World} (h : laidMetH Tryd.prog laidL W) : Reads W 0 .u32 8 ivL ∧ Reads W 1 .u8 160 rowsF ∧ 1 < W.heap.size := by
  rw [MakeChecks.laidMetH_plain _ _ _ (by kernel_rfl)] at h
  obtain ⟨ps, ⟨g0, t0, cs0, f0, p0, q0, hg0, ht0, hv0, hd0, ⟨g1, t1, cs1, f1, p1, q1, hg1, ht1, hv1, hd1, _, _⟩, _⟩, _, _⟩ := h
  obtain rfl := Option.some.inj (gIv.symm.trans hg0)
  obtain rfl := Option.some.inj (gRows.symm.trans hg1)
  obtain rfl := Option.some.inj (tIv.symm.trans ht0)
  obtain rfl := Option.some.inj (tRows.symm.trans ht1)
  have h1 : Reads W 1 .u8 160 rowsF := by
    obtain ⟨xs, m, rfl, hx, hlen, hn, hel⟩ := DataW.trod_array Tryd.underlying87 hd1
    rw [rowsData] at hx
    simp only [Prod.mk.injEq, DataW.agg.injEq] at hx
    intro i hi
    have hi1 : i / 16 < 10 := by omega
    have hxs : xs[i / 16]?.map (·.1) = some (Lib.tabData .u8 (rowL (i / 16))) := by
      have := congrArg (·[i / 16]?) hx.1
      simp only [List.getElem?_map] at this
      rw [← this]
      have hl : i / 16 < rowsL.length := hi1
      rw [List.getElem?_eq_getElem hl]
      simp [rowL, List.getElem?_eq_getElem hl]
    obtain ⟨y, hy, hy1⟩ := Option.map_eq_some_iff.1 hxs
    have he := hel (i / 16) hi1
    rw [hy, Tryd.cells86] at he
    obtain ⟨y1, y2⟩ := y
    simp only at hy1
    subst hy1
    have hc := Lib.cells_of_tab Tryd.underlying86 Tryd.underlying5 Tryd.cells5 Tryd.cells86 he
    have := World.var?_cell hg1 hv1 i
    rw [this]
    have hat : cs1.toList[i]? = some (.int .u8 (gv (rowL (i / 16)) ((i % 16 : Nat) : Int))) := by
      have e := congrArg (·[i % 16]?) hc
      rw [List.getElem?_take_of_lt (by omega), List.getElem?_drop, gv_map _ _ _ (by rw [rowL_len _ hi1]; omega)] at e
      rw [show i / 16 * 16 + i % 16 = i by omega] at e
      exact e
    rw [← rowsF_at _ hi1 _ (by omega), show i / 16 * 16 + i % 16 = i by omega] at hat
    simpa using hat
  refine ⟨?_, h1, ?_⟩
  · have hc := Lib.cells_of_tab Tryd.underlying68 Tryd.underlying67 Tryd.cells67 Tryd.cells68 (zs := ivL) hd0
    intro i hi
    have := World.var?_cell hg0 hv0 i
    rw [this]
    have e := gv_map .u32 ivL i hi
    rw [← hc] at e
    simpa using e
  · have := h1 0 (by omega)
    unfold World.cell? at this
    by_cases hb : 1 < W.heap.size
    · exact hb
    · simp [Array.getElem?_eq_none (Nat.le_of_not_lt hb)] at this
end Go.Proofs.YtnachkdclmcaiabDoor
