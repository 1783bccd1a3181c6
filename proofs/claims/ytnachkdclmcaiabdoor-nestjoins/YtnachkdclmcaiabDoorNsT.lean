/- What the rows of this seat list of the library's package variables gives the walks: the table of the powers of ten, and the two error variables; the heap that the program's own initialisers leave meets that condition; and a list of texts that came in, opened. -/
import Derived.Test.YtnachkdclmcaiabDoorNsV
import Derived.Test.YtnachkdclmcaiabDoorRows
import Derived.ProofKit
import Derived.LaidMore
import Derived.OpenShut
import Derived.ShutString
import Derived.SizedLaws
import Derived.Stop.Joined
import Derived.Stop.LaidErr
import Derived.Lib.LaidTab
import Derived.SliceStrings
namespace Go.Proofs.YtnachkdclmcaiabDoor
open Go.ChangeShapes Go.WideShapes Go.ChangeAt Go.RowKit

theorem Tryd.own : ownKnob Tryd.prog.godebug = none := by kernel_rfl
theorem Tryd.laidOut : laidOutB Tryd.prog = true := by kernel_rfl
theorem gSyn : Tryd.prog.globalNamed "strconv.ErrSyntax" = some 4 := by kernel_rfl
theorem gRng : Tryd.prog.globalNamed "strconv.ErrRange" = some 5 := by kernel_rfl
theorem tSyn : (Tryd.prog.globals[4]?).map (·.type) = some 43 := by kernel_rfl
theorem tRng : (Tryd.prog.globals[5]?).map (·.type) = some 43 := by kernel_rfl
theorem tPow : (Tryd.prog.globals[3]?).map (·.type) = some 111 := by kernel_rfl
theorem Tryd.cells9 : Tryd.prog.cellsOf 9 = 1 := by kernel_rfl
theorem Tryd.cells111 : Tryd.prog.cellsOf 111 = 20 := by kernel_rfl
theorem Tryd.cells73 : Tryd.prog.cellsOf 73 = 1 := by kernel_rfl
theorem Tryd.cells131 : Tryd.prog.cellsOf 131 = 1 := by kernel_rfl
theorem Tryd.star : ("*" ++ "errors.errorString" : String) = "*errors.errorString" := by decide
theorem Tryd.row129 (u : TypeId) (h : Tryd.prog.typeName? 3 u = some "*errors.errorString") : u = 129 :=
  typeName_ptr_named (nm := "errors.errorString") (by rw [Tryd.star]; kernel_rfl) (by kernel_rfl) (by decide) u (by rw [Tryd.star]; exact h)

def laidL : List (String × DataW Unit) := [("math/bits.deBruijn32tab", Rows.laid_math_bits_deBruijn32tab), ("math/bits.deBruijn64tab", Rows.laid_math_bits_deBruijn64tab), ("internal/strconv.uint64pow10", Rows.laid_internal_strconv_uint64pow10), ("strconv.ErrRange", Rows.laid_strconv_ErrRange), ("strconv.ErrSyntax", Rows.laid_strconv_ErrSyntax)]
theorem powData {H : Type} : (Rows.laid_internal_strconv_uint64pow10 : DataW H) = Lib.tabData .u64 Lib.pow10Tab := rfl

theorem door_met (os : Os) (args : Array Value) : laidMetH Tryd.prog laidL ((World.doorLaid Tryd.prog 82 os).forCall (fun _ _ => 0) ⟨#[], args, []⟩).memory :=
  laidMetH_of_parts3 (fuel := 8) (laidMet_of_run' 8 (by kernel_rfl) (by kernel_rfl)) (by kernel_rfl) (by kernel_rfl)

theorem of_laid {W : World} (h : laidMetH Tryd.prog laidL W) : Env W := by
  rw [MakeChecks.laidMetH_plain _ _ _ (by kernel_rfl)] at h
  have h2 := laidMet.tail (laidMet.tail h)
  have hT := Lib.tabIs_of_head gPow tPow Tryd.underlying111 Tryd.underlying73 Tryd.cells73 Tryd.cells111 (zs := Lib.pow10Tab) h2
  obtain ⟨a0, s0, hv0, _⟩ := laid_sentinel (laidMet.tail h2) gRng tRng Tryd.underlying43 Tryd.row129 Tryd.underlying129 Tryd.underlying131 rfl rfl Tryd.underlying9 Tryd.cells131 Tryd.cells9
  obtain ⟨a1, s1, hv1, _⟩ := laid_sentinel (laidMet.tail (laidMet.tail h2)) gSyn tSyn Tryd.underlying43 Tryd.row129 Tryd.underlying129 Tryd.underlying131 rfl rfl Tryd.underlying9 Tryd.cells131 Tryd.cells9
  refine ⟨hT, ⟨_, _, World.var?_cell gSyn hv1 0⟩, ⟨_, _, World.var?_cell gRng hv0 0⟩, ?_⟩
  exact World.block_lt_of_cell? W _ (World.var?_cell gRng hv0 0)

theorem weightsAll_mem {H : Type} {P : Program} {e : TypeId} : ∀ {ds : List (DataW H)} {d : DataW H}, d ∈ ds → ∀ n ∈ d.weights P e, n ∈ DataW.weightsAll P e ds
  | d0 :: ds, d, hd, n, hn => by
    simp only [DataW.weightsAll, List.mem_append]
    rcases List.mem_cons.1 hd with rfl | h
    · exact Or.inl hn
    · exact Or.inr (weightsAll_mem h n hn)
theorem Tryd.bytes9 : Tryd.prog.bytesOf 9 = 16 := by kernel_rfl

set_option maxRecDepth 100000 in
/-- A list of texts that came in, opened. -/
theorem open_texts {H : Type} {enc : TypeId × Value → H} {W : World} {base : Nat} {v : Value} {d : DataW H} {p : List MemPlace} {ts : List TypeId} {ds : List (DataW H)} {j : Nat} (hval : Value.okWide Tryd.prog W .any base 22 v)
    (h : ∃ fuel, DataW.trod enc Tryd.prog W 0 (fun _ => true) true fuel 22 v.cells.toList = some (d, p)) (hsz : (DataW.weightsEach Tryd.prog ts ds).all (· ≤ reachBytes) = true) (ht : ts[j]? = some 22) (hd : ds[j]? = some d) :
    ∃ l : List (List UInt8), Sp W v l ∧ l.length ≤ 140737488355328 ∧ ∀ t ∈ l, t.length ≤ 140737488355328 := by
  obtain ⟨a, len, cap, rfl⟩ := okWide_slice Tryd.underlying22 hval
  obtain ⟨fuel, hf⟩ := h
  rcases open_strings Tryd.underlying22 Tryd.underlying9 Tryd.cells9 hf with ⟨hcs, _⟩ | ⟨x, l, c, ss, hcs, _, hl, hm, hzz, hx, hcell, _⟩
  · simp [Value.cells] at hcs
    obtain ⟨rfl, rfl, rfl⟩ := hcs
    exact ⟨[], .inl ⟨rfl, rfl⟩, by simp, by simp⟩
  · simp [Value.cells] at hcs
    obtain ⟨rfl, rfl, rfl⟩ := hcs
    simp only [Prod.mk.injEq] at hx
    have hss : ss.length = cap := by simpa using hzz
    have hlen : ((ss.take len).map (·.data.toList)).length = len := by simp; omega
    have h16 := sized_slice hsz ht (hx.1 ▸ hd) Tryd.underlying22
    rw [Tryd.bytes9] at h16
    have hmax : len ≤ 140737488355328 := by
      have e1 : (ChangeShapes.strs (ss.take len) : List (DataW H)).length = len := by simp [ChangeShapes.strs]; omega
      rw [e1] at h16
      unfold reachBytes at h16
      omega
    refine ⟨(ss.take len).map (·.data.toList), ?_, by rw [hlen]; exact hmax, ?_⟩
    · by_cases h00 : len = 0
      · subst h00
        exact .inr <| .inl ⟨by simp, x, cap, rfl⟩
      · obtain ⟨b, off, spot⟩ := x
        have hc0 := hcell 0 (by omega)
        have hspot : spot = none := by simpa [Addr.add] using World.cell?_spot hc0
        subst hspot
        have hb := World.block_lt_of_cell? W _ hc0
        have hbb : b < W.heap.size := by simpa [Addr.add] using hb
        refine .inr <| .inr ⟨b, off, cap, by rw [hlen], hbb, fun i t hti => ?_⟩
        have hi : i < len := by rw [← hlen]; exact (List.getElem?_eq_some_iff.1 hti).1
        have hci := hcell i (by omega)
        rw [Addr.add_mid] at hci
        rw [hci]
        rw [List.getElem?_map, List.getElem?_take_of_lt hi] at hti
        obtain ⟨y, hy, rfl⟩ := Option.map_eq_some_iff.1 hti
        rw [List.getD_eq_getElem?_getD, hy, Option.getD_some, bs_data]
    · intro t htm
      obtain ⟨y, hy, rfl⟩ := List.mem_map.1 htm
      have hm2 : (DataW.lit (.string y.data.toList) : DataW H) ∈ (ChangeShapes.strs (ss.take len) : List (DataW H)) := List.mem_map.2 ⟨y, hy, rfl⟩
      have hw : y.data.toList.length ≤ reachBytes := by
        refine of_decide_eq_true (List.all_eq_true.1 hsz _ (DataW.weights_mem_each ht (hx.1 ▸ hd) _ ?_))
        simp only [DataW.weights, Tryd.underlying22, List.mem_cons, List.mem_append]
        exact Or.inr (Or.inl (weightsAll_mem hm2 _ (by simp [DataW.weights])))
      unfold reachBytes at hw
      omega
end Go.Proofs.YtnachkdclmcaiabDoor
