/- What the rows of this seat list of package variables gives the walks; operations that came in, opened. -/
import Derived.Test.YtihilkdokfdoeaaDoorPa3
import Derived.Test.YtihilkdokfdoeaaDoorRows
import Derived.ProofKit
import Derived.LaidMore
import Derived.OpenShut
import Derived.ShutString
import Derived.SizedLaws
import Derived.Stop.Joined
import Derived.Stop.LaidErr
import Derived.Lib.LaidTab
import Derived.SliceStrings
import Derived.Lib.SmallJoins
import Derived.Deep.SlicePairs
import Derived.Deep.Slices
import Derived.Deep.Strs
import Derived.Test.YtihilkdokfdoeaaDoorPl1
namespace Go.Proofs.YtihilkdokfdoeaaDoor
section
open Go.ChangeShapes Go.WideShapes Go.ChangeAt Go.RowKit Go.Deep

theorem Tryd.own : ownKnob Tryd.prog.godebug = none := by kernel_rfl
theorem int_range {n : Int} (hw : (Lit.int .i64 n).wf = true) : -9223372036854775808 ≤ n ∧ n ≤ 9223372036854775807 := by
  have h := hw
  simp only [Lit.wf, Bool.and_eq_true, decide_eq_true_eq] at h
  exact h
theorem gIv : Tryd.prog.globalNamed "wapentake/blake.iv" = some 0 := by kernel_rfl
theorem gRows : Tryd.prog.globalNamed "wapentake/blake.rows" = some 1 := by kernel_rfl
theorem tIv : (Tryd.prog.globals[0]?).map (·.type) = some 144 := by kernel_rfl
theorem tRows : (Tryd.prog.globals[1]?).map (·.type) = some 168 := by kernel_rfl
theorem Tryd.cellsIv : Tryd.prog.cellsOf 144 = 8 := by kernel_rfl
theorem Tryd.cellsU32 : Tryd.prog.cellsOf 143 = 1 := by kernel_rfl
theorem Tryd.cellsRow : Tryd.prog.cellsOf 167 = 16 := by kernel_rfl
theorem Tryd.cellsU8 : Tryd.prog.cellsOf 5 = 1 := by kernel_rfl
theorem ivData {H : Type} : (Rows.laid_wapentake_blake_iv : DataW H) = Lib.tabData .u32 ivL := rfl
theorem rowsData {H : Type} : (Rows.laid_wapentake_blake_rows : DataW H) = .agg (rowsL.map (Lib.tabData .u8)) := rfl
theorem gv_map (k : IntKind) (v : List Int) (i : Nat) (hi : i < v.length) : (v.map fun z => Value.int k z)[i]? = some (.int k (gv v i)) := by
  simp [gv, List.getElem?_eq_getElem hi]

theorem of_tables {W : World} {rest : List (String × DataW Unit)} (h : laidMet Tryd.prog (("wapentake/blake.iv", Rows.laid_wapentake_blake_iv) :: ("wapentake/blake.rows", Rows.laid_wapentake_blake_rows) :: rest) W) : EnvK W := by
  obtain ⟨ps, ⟨g0, t0, cs0, f0, p0, q0, hg0, ht0, hv0, hd0, ⟨g1, t1, cs1, f1, p1, q1, hg1, ht1, hv1, hd1, _, _⟩, _⟩, _, _⟩ := h
  obtain rfl := Option.some.inj (gIv.symm.trans hg0)
  obtain rfl := Option.some.inj (gRows.symm.trans hg1)
  obtain rfl := Option.some.inj (tIv.symm.trans ht0)
  obtain rfl := Option.some.inj (tRows.symm.trans ht1)
  have h1 : Reads W 1 .u8 160 rowsF := by
    obtain ⟨xs, m, rfl, hx, hlen, hn, hel⟩ := DataW.trod_array Tryd.underlying168 hd1
    rw [rowsData] at hx
    simp only [Prod.mk.injEq, DataW.agg.injEq] at hx
    intro i hi
    have hi1 : i / 16 < 10 := by omega
    have hxs : xs[i / 16]?.map (·.1) = some (Lib.tabData .u8 (rowL (i / 16))) := by
      have := congrArg (·[i / 16]?) hx.1
      simp only [List.getElem?_map] at this
      rw [← this]
      have hl : i / 16 < rowsL.length := hi1
      rw [List.getElem?_eq_getElem hl]
      simp [rowL, List.getElem?_eq_getElem hl]
    obtain ⟨y, hy, hy1⟩ := Option.map_eq_some_iff.1 hxs
    have he := hel (i / 16) hi1
    rw [hy, Tryd.cellsRow] at he
    obtain ⟨y1, y2⟩ := y
    simp only at hy1
    subst hy1
    have hc := Lib.cells_of_tab Tryd.underlying167 Tryd.underlying5 Tryd.cellsU8 Tryd.cellsRow he
    have := World.var?_cell hg1 hv1 i
    rw [this]
    have hat : cs1.toList[i]? = some (.int .u8 (gv (rowL (i / 16)) ((i % 16 : Nat) : Int))) := by
      have e := congrArg (·[i % 16]?) hc
      rw [List.getElem?_take_of_lt (by omega), List.getElem?_drop, gv_map _ _ _ (by rw [rowL_len _ hi1]; omega)] at e
      rw [show i / 16 * 16 + i % 16 = i by omega] at e
      exact e
    rw [← rowsF_at _ hi1 _ (by omega), show i / 16 * 16 + i % 16 = i by omega] at hat
    simpa using hat
  refine ⟨?_, h1, ?_⟩
  · have hc := Lib.cells_of_tab Tryd.underlying144 Tryd.underlying143 Tryd.cellsU32 Tryd.cellsIv (zs := ivL) hd0
    intro i hi
    have := World.var?_cell hg0 hv0 i
    rw [this]
    have e := gv_map .u32 ivL i hi
    rw [← hc] at e
    simpa using e
  · have := h1 0 (by omega)
    unfold World.cell? at this
    by_cases hb : 1 < W.heap.size
    · exact hb
    · simp [Array.getElem?_eq_none (Nat.le_of_not_lt hb)] at this


def laidB : List (String × DataW Unit) := [("wapentake/blake.iv", Rows.laid_wapentake_blake_iv), ("wapentake/blake.rows", Rows.laid_wapentake_blake_rows)]
theorem doorB_met (os : Os) (args : Array Value) : laidMetH Tryd.prog laidB ((World.doorLaid Tryd.prog 125 os).forCall (fun _ _ => 0) ⟨#[], args, []⟩).memory :=
  laidMetH_of_parts3 (fuel := 8) (laidMet_of_run' 8 (by kernel_rfl) (by kernel_rfl)) (by kernel_rfl) (by kernel_rfl)
theorem of_laidB {W : World} (h : laidMetH Tryd.prog laidB W) : EnvK W := by
  rw [MakeChecks.laidMetH_plain _ _ _ (by kernel_rfl)] at h
  exact of_tables h
theorem weightsAll_mem {H : Type} {P : Program} {e : TypeId} : ∀ {ds : List (DataW H)} {d : DataW H}, d ∈ ds → ∀ n ∈ d.weights P e, n ∈ DataW.weightsAll P e ds
  | d0 :: ds, d, hd, n, hn => by
    simp only [DataW.weightsAll, List.mem_append]
    rcases List.mem_cons.1 hd with rfl | h
    · exact Or.inl hn
    · exact Or.inr (weightsAll_mem h n hn)
theorem Tryd.cells47 : Tryd.prog.cellsOf 47 = 4 := by kernel_rfl
theorem Tryd.cells9 : Tryd.prog.cellsOf 9 = 1 := by kernel_rfl
theorem list4 {cs : List Value} (h : cs.length = 4) : ∃ c0 c1 c2 c3, cs = [c0, c1, c2, c3] := by
  match cs, h with
  | [c0, c1, c2, c3], _ => exact ⟨c0, c1, c2, c3, rfl⟩
theorem list4' {α : Type} {xs : List α} (h : xs.length = 4) : ∃ y0 y1 y2 y3, xs = [y0, y1, y2, y3] := by
  match xs, h with
  | [y0, y1, y2, y3], _ => exact ⟨y0, y1, y2, y3, rfl⟩

set_option maxRecDepth 100000 in
set_option maxHeartbeats 1000000 in
theorem open_op_cells {H : Type} {enc : TypeId × Value → H} {W : World} {fuel : Nat} {cs : List Value} {y : DataW H × List MemPlace} (h : DataW.trod enc Tryd.prog W 0 (fun _ => true) true fuel 47 cs = some y) :
    ∃ s : Opr, cs = ocs s ∧ s.k.length ∈ y.1.weights Tryd.prog 47 := by
  obtain ⟨xs, n, _, rfl, hl, hlen, hf⟩ := DataW.trod_struct Tryd.underlying47 h
  rw [Tryd.cells47] at hl
  obtain ⟨c0, c1, c2, c3, rfl⟩ := list4 hl
  obtain ⟨y0, y1, y2, y3, rfl⟩ := list4' (by simpa using hlen)
  have h0 := hf 0 _ rfl
  have h1 := hf 1 _ rfl
  have h2 := hf 2 _ rfl
  have h3 := hf 3 _ rfl
  simp [Tryd.cells3, Tryd.cells9] at h0 h1 h2 h3
  obtain ⟨a0, e0, _, _⟩ := DataW.trod_int Tryd.underlying3 h0
  obtain ⟨a1, e1, k1, _⟩ := DataW.trod_string Tryd.underlying9 h1
  obtain ⟨a2, e2, _, _⟩ := DataW.trod_string Tryd.underlying9 h2
  obtain ⟨a3, e3, _, _⟩ := DataW.trod_string Tryd.underlying9 h3
  simp at e0 e1 e2 e3
  subst e0 e1 e2 e3
  refine ⟨⟨a0, a1.data.toList, a2.data.toList, a3.data.toList⟩, by simp [ocs, bs_data], ?_⟩
  simp [DataW.weights, DataW.weightsEach, Tryd.underlying47, k1]
end
section
open Go.ChangeShapes Go.WideShapes Go.ChangeAt Go.RowKit Go.Deep

theorem Tryd.cells49 : Tryd.prog.cellsOf 49 = 2 := by kernel_rfl
theorem Tryd.cells27 : Tryd.prog.cellsOf 27 = 1 := by kernel_rfl
theorem Tryd.cells51 : Tryd.prog.cellsOf 51 = 10 := by kernel_rfl
theorem Tryd.cells56 : Tryd.prog.cellsOf 56 = 5 := by kernel_rfl
theorem list10 {cs : List Value} (h : cs.length = 10) : ∃ c0 c1 c2 c3 c4 c5 c6 c7 c8 c9, cs = [c0, c1, c2, c3, c4, c5, c6, c7, c8, c9] := by
  match cs, h with
  | [c0, c1, c2, c3, c4, c5, c6, c7, c8, c9], _ => exact ⟨c0, c1, c2, c3, c4, c5, c6, c7, c8, c9, rfl⟩
theorem list5 {cs : List Value} (h : cs.length = 5) : ∃ c0 c1 c2 c3 c4, cs = [c0, c1, c2, c3, c4] := by
  match cs, h with
  | [c0, c1, c2, c3, c4], _ => exact ⟨c0, c1, c2, c3, c4, rfl⟩
theorem list2 {cs : List Value} (h : cs.length = 2) : ∃ c0 c1, cs = [c0, c1] := by
  match cs, h with
  | [c0, c1], _ => exact ⟨c0, c1, rfl⟩
theorem list6' {α : Type} {xs : List α} (h : xs.length = 6) : ∃ y0 y1 y2 y3 y4 y5, xs = [y0, y1, y2, y3, y4, y5] := by
  match xs, h with
  | [y0, y1, y2, y3, y4, y5], _ => exact ⟨y0, y1, y2, y3, y4, y5, rfl⟩
theorem list2' {α : Type} {xs : List α} (h : xs.length = 2) : ∃ y0 y1, xs = [y0, y1] := by
  match xs, h with
  | [y0, y1], _ => exact ⟨y0, y1, rfl⟩

set_option maxRecDepth 100000 in
set_option maxHeartbeats 1000000 in
theorem open_an_cells {H : Type} {enc : TypeId × Value → H} {W : World} {fuel : Nat} {cs : List Value} {y : DataW H × List MemPlace} (h : DataW.trod enc Tryd.prog W 0 (fun _ => true) true fuel 49 cs = some y) :
    ∃ a : An, cs = acs a := by
  obtain ⟨xs, n, _, rfl, hl, hlen, hf⟩ := DataW.trod_struct Tryd.underlying49 h
  rw [Tryd.cells49] at hl
  obtain ⟨c0, c1, rfl⟩ := list2 hl
  obtain ⟨y0, y1, rfl⟩ := list2' (by simpa using hlen)
  have h0 := hf 0 _ rfl
  have h1 := hf 1 _ rfl
  simp [Tryd.cells27, Tryd.cells9] at h0 h1
  obtain ⟨a0, e0, _, _⟩ := DataW.trod_int Tryd.underlying27 h0
  obtain ⟨a1, e1, _, _⟩ := DataW.trod_string Tryd.underlying9 h1
  simp at e0 e1
  subst e0 e1
  exact ⟨(a1.data.toList, a0), by simp [acs, bs_data]⟩
set_option maxRecDepth 100000 in
set_option maxHeartbeats 1000000 in
theorem open_call_cells {H : Type} {enc : TypeId × Value → H} {W : World} {fuel : Nat} {cs : List Value} {y : DataW H × List MemPlace} (h : DataW.trod enc Tryd.prog W 0 (fun _ => true) true fuel 51 cs = some y) :
    ∃ c : Cl, cs = ccs c ∧ wfK (ck c) ∧ c.op.k.length ∈ y.1.weights Tryd.prog 51 := by
  obtain ⟨xs, n, _, rfl, hl, hlen, hf⟩ := DataW.trod_struct Tryd.underlying51 h
  rw [Tryd.cells51] at hl
  obtain ⟨c0, c1, c2, c3, c4, c5, c6, c7, c8, c9, rfl⟩ := list10 hl
  obtain ⟨y0, y1, y2, y3, y4, y5, rfl⟩ := list6' (by simpa using hlen)
  have h0 := hf 0 _ rfl
  have h1 := hf 1 _ rfl
  have h2 := hf 2 _ rfl
  have h3 := hf 3 _ rfl
  have h4 := hf 4 _ rfl
  have h5 := hf 5 _ rfl
  simp [Tryd.cells3, Tryd.cells47, Tryd.cells49] at h0 h1 h2 h3 h4 h5
  obtain ⟨a0, e0, _, w0⟩ := DataW.trod_int Tryd.underlying3 h0
  obtain ⟨a1, e1, _, w1⟩ := DataW.trod_int Tryd.underlying3 h1
  obtain ⟨s, e2, hwt⟩ := open_op_cells h2
  obtain ⟨a3, e3, _, _⟩ := DataW.trod_int Tryd.underlying3 h3
  obtain ⟨a4, e4, _, _⟩ := DataW.trod_int Tryd.underlying3 h4
  obtain ⟨a5, e5⟩ := open_an_cells h5
  simp [ocs, acs] at e0 e1 e2 e3 e4 e5
  obtain ⟨f0, f1, f2, f3⟩ := e2
  obtain ⟨f4, f5⟩ := e5
  subst e0 e1 e3 e4 f0 f1 f2 f3 f4 f5
  refine ⟨⟨a0, a1, s, a3, a4, a5⟩, rfl, ⟨w0, w1⟩, ?_⟩
  simp [DataW.weights, DataW.weightsEach, Tryd.underlying51]
  exact Or.inr (Or.inr (Or.inl hwt))
set_option maxRecDepth 100000 in
set_option maxHeartbeats 1000000 in
theorem open_pt_cells {H : Type} {enc : TypeId × Value → H} {W : World} {fuel : Nat} {cs : List Value} {y : DataW H × List MemPlace} (h : DataW.trod enc Tryd.prog W 0 (fun _ => true) true fuel 56 cs = some y) :
    ∃ p : Pt, cs = pks p ∧ wfK (pk2 p) := by
  obtain ⟨xs, n, _, rfl, hl, hlen, hf⟩ := DataW.trod_struct Tryd.underlying56 h
  rw [Tryd.cells56] at hl
  obtain ⟨c0, c1, c2, c3, c4, rfl⟩ := list5 hl
  obtain ⟨y0, y1, y2, y3, rfl⟩ := list4' (by simpa using hlen)
  have h0 := hf 0 _ rfl
  have h1 := hf 1 _ rfl
  have h2 := hf 2 _ rfl
  have h3 := hf 3 _ rfl
  simp [Tryd.cells3, Tryd.cells49] at h0 h1 h2 h3
  obtain ⟨a0, e0, _, _⟩ := DataW.trod_int Tryd.underlying3 h0
  obtain ⟨a1, e1, _, w1⟩ := DataW.trod_int Tryd.underlying3 h1
  obtain ⟨a2, e2, _, w2⟩ := DataW.trod_int Tryd.underlying3 h2
  obtain ⟨a3, e3⟩ := open_an_cells h3
  simp [acs] at e0 e1 e2 e3
  obtain ⟨f4, f5⟩ := e3
  subst e0 e1 e2 f4 f5
  exact ⟨⟨a0, a1, a2, a3⟩, rfl, w1, w2⟩
set_option maxRecDepth 100000 in
set_option maxHeartbeats 1000000 in
/-- A slice of structs whose elements open. -/
theorem open_structs {α : Type} {f : α → List Value} {s : Nat} {Q : α → Prop} (a0 : α) {H : Type} {enc : TypeId × Value → H} {W : World} {base : Nat} {v : Value} {d : DataW H} {p : List MemPlace} {T e : TypeId} (hT : Tryd.prog.underlying T = some (.slice e)) (hs : Tryd.prog.cellsOf e = s) (hs0 : 0 < s) (hf : ∀ a, (f a).length = s)
    (ho : ∀ {fuel : Nat} {cs : List Value} {y : DataW H × List MemPlace}, DataW.trod enc Tryd.prog W 0 (fun _ => true) true fuel e cs = some y → ∃ a, cs = f a ∧ Q a)
    (hval : Value.okWide Tryd.prog W .any base T v) (h : DataW.Trod enc Tryd.prog W 0 (fun _ => true) true T v d p) :
    ∃ l : List α, SlF f s W v l ∧ ∀ a ∈ l, Q a := by
  obtain ⟨a, len, cap, rfl⟩ := okWide_slice hT hval
  obtain ⟨fuel, hfu⟩ := h
  rcases open_slice hT hfu with ⟨hcs, _⟩ | ⟨x, l, c, m, n, D, Pl, hcs, _, hl, hm, hmm, hdd, hx⟩
  · simp [Value.cells] at hcs
    obtain ⟨rfl, rfl, rfl⟩ := hcs
    exact ⟨[], .inl ⟨rfl, none, 0, rfl⟩, fun o ho => by cases ho⟩
  · simp [Value.cells] at hcs
    obtain ⟨rfl, rfl, rfl⟩ := hcs
    have hmc : m = cap := by simpa using hmm
    subst hmc
    by_cases h0 : len = 0
    · subst h0; exact ⟨[], .inl ⟨rfl, _, _, rfl⟩, fun o ho => by cases ho⟩
    · have each : ∀ i, i < m → ∃ z : α, (∀ k u, (f z)[k]? = some u → W.cell? (x.add (i * s + k)) = some u) ∧ Q z := by
        intro i hi
        obtain ⟨cs', h1, h2⟩ := hx i hi
        rw [hs] at h1
        obtain ⟨_, hlen, hcell⟩ := World.cells?_some h1
        obtain ⟨z, e1, e2⟩ := ho h2
        refine ⟨z, fun k u hu => ?_, e2⟩
        have hk : k < s := by
          have := (List.getElem?_eq_some_iff.1 hu).1
          rw [hf] at this
          exact this
        have := hcell k hk
        rw [Addr.add_add] at this
        rw [this, e1]
        exact hu
      obtain ⟨b, off, spot⟩ := x
      obtain ⟨s0, hc0, _⟩ := each 0 (by omega)
      obtain ⟨u0, hu0⟩ : ∃ u, (f s0)[0]? = some u := ⟨_, List.getElem?_eq_getElem (by rw [hf]; exact hs0)⟩
      have hc00 := hc0 0 u0 hu0
      have hspot : spot = none := by simpa [Addr.add] using World.cell?_spot hc00
      subst hspot
      have hbb : b < W.heap.size := by simpa [Addr.add] using World.block_lt_of_cell? W _ hc00
      obtain ⟨g, hg⟩ : ∃ g : Nat → α, ∀ i, i < m → (∀ k u, (f (g i))[k]? = some u → W.cell? ((⟨b, off, none⟩ : Addr).add (i * s + k)) = some u) ∧ Q (g i) :=
        ⟨fun i => if h : i < m then (each i h).choose else a0, fun i hi => by simp only [dif_pos hi]; exact (each i hi).choose_spec⟩
      refine ⟨(List.range len).map g, .inr ⟨b, off, m, by simp, hbb, fun i z hz k u hu => ?_⟩, fun o ho => ?_⟩
      · have hi : i < len := by have := (List.getElem?_eq_some_iff.1 hz).1; simpa using this
        rw [List.getElem?_map, List.getElem?_range hi] at hz
        simp at hz
        subst hz
        have := (hg i (by omega)).1 k u hu
        rw [Addr.add_mid] at this
        rw [Nat.add_assoc]
        exact this
      · obtain ⟨i, hi, rfl⟩ := List.mem_map.1 ho
        have hi' : i < len := List.mem_range.1 hi
        exact (hg i (by omega)).2
set_option maxRecDepth 100000 in
set_option maxHeartbeats 1000000 in
/-- Likewise, with what they weigh. -/
theorem open_structs_w {α : Type} {f : α → List Value} {s : Nat} {Q : α → Prop} (kw : α → Nat) (a0 : α) {H : Type} {enc : TypeId × Value → H} {W : World} {base : Nat} {v : Value} {d : DataW H} {p : List MemPlace} {T e : TypeId} (hT : Tryd.prog.underlying T = some (.slice e)) (hs : Tryd.prog.cellsOf e = s) (hs0 : 0 < s) (hf : ∀ a, (f a).length = s)
    (ho : ∀ {fuel : Nat} {cs : List Value} {y : DataW H × List MemPlace}, DataW.trod enc Tryd.prog W 0 (fun _ => true) true fuel e cs = some y → ∃ a, cs = f a ∧ Q a ∧ kw a ∈ y.1.weights Tryd.prog e)
    (hval : Value.okWide Tryd.prog W .any base T v) (h : DataW.Trod enc Tryd.prog W 0 (fun _ => true) true T v d p) (hsz : ∀ m ∈ d.weights Tryd.prog T, m ≤ reachBytes) :
    ∃ l : List α, SlF f s W v l ∧ (∀ a ∈ l, Q a ∧ kw a ≤ reachBytes) ∧ l.length * Tryd.prog.bytesOf e ≤ reachBytes := by
  obtain ⟨a, len, cap, rfl⟩ := okWide_slice hT hval
  obtain ⟨fuel, hfu⟩ := h
  rcases open_slice hT hfu with ⟨hcs, _⟩ | ⟨x, l, c, m, n, D, Pl, hcs, _, hl, hm, hmm, hdd, hx⟩
  · simp [Value.cells] at hcs
    obtain ⟨rfl, rfl, rfl⟩ := hcs
    exact ⟨[], .inl ⟨rfl, none, 0, rfl⟩, fun o ho => (by cases ho), (by simp)⟩
  · simp [Value.cells] at hcs
    obtain ⟨rfl, rfl, rfl⟩ := hcs
    have hmc : m = cap := by simpa using hmm
    subst hmc
    simp only [Prod.mk.injEq] at hdd
    by_cases h0 : len = 0
    · subst h0; exact ⟨[], .inl ⟨rfl, _, _, rfl⟩, fun o ho => (by cases ho), (by simp)⟩
    · have each : ∀ i, i < m → ∃ z : α, (∀ k u, (f z)[k]? = some u → W.cell? (x.add (i * s + k)) = some u) ∧ Q z ∧ kw z ∈ (D i).weights Tryd.prog e := by
        intro i hi
        obtain ⟨cs', h1, h2⟩ := hx i hi
        rw [hs] at h1
        obtain ⟨_, hlen, hcell⟩ := World.cells?_some h1
        obtain ⟨z, e1, e2⟩ := ho h2
        refine ⟨z, fun k u hu => ?_, e2⟩
        have hk : k < s := by
          have := (List.getElem?_eq_some_iff.1 hu).1
          rw [hf] at this
          exact this
        have := hcell k hk
        rw [Addr.add_add] at this
        rw [this, e1]
        exact hu
      obtain ⟨b, off, spot⟩ := x
      obtain ⟨s0, hc0, _⟩ := each 0 (by omega)
      obtain ⟨u0, hu0⟩ : ∃ u, (f s0)[0]? = some u := ⟨_, List.getElem?_eq_getElem (by rw [hf]; exact hs0)⟩
      have hc00 := hc0 0 u0 hu0
      have hspot : spot = none := by simpa [Addr.add] using World.cell?_spot hc00
      subst hspot
      have hbb : b < W.heap.size := by simpa [Addr.add] using World.block_lt_of_cell? W _ hc00
      obtain ⟨g, hg⟩ : ∃ g : Nat → α, ∀ i, i < m → (∀ k u, (f (g i))[k]? = some u → W.cell? ((⟨b, off, none⟩ : Addr).add (i * s + k)) = some u) ∧ Q (g i) ∧ kw (g i) ∈ (D i).weights Tryd.prog e :=
        ⟨fun i => if h : i < m then (each i h).choose else a0, fun i hi => by simp only [dif_pos hi]; exact (each i hi).choose_spec⟩
      refine ⟨(List.range len).map g, .inr ⟨b, off, m, by simp, hbb, fun i z hz k u hu => ?_⟩, fun o ho => ?_, ?_⟩
      · have hi : i < len := by have := (List.getElem?_eq_some_iff.1 hz).1; simpa using this
        rw [List.getElem?_map, List.getElem?_range hi] at hz
        simp at hz
        subst hz
        have := (hg i (by omega)).1 k u hu
        rw [Addr.add_mid] at this
        rw [Nat.add_assoc]
        exact this
      · obtain ⟨i, hi, rfl⟩ := List.mem_map.1 ho
        have hi' : i < len := List.mem_range.1 hi
        refine ⟨(hg i (by omega)).2.1, hsz _ ?_⟩
        rw [hdd.1]
        simp only [DataW.weights, hT, List.mem_cons, List.mem_append]
        exact Or.inr (Or.inl (weightsAll_mem (List.mem_map.2 ⟨i, hi, rfl⟩) _ (hg i (by omega)).2.2))
      · rw [List.length_map, List.length_range]
        refine Nat.le_trans (Nat.mul_le_mul_right _ (Nat.le_add_right len (m - len))) (hsz _ ?_)
        rw [hdd.1]
        simp only [DataW.weights, hT, List.length_map, List.length_range, List.mem_cons, true_or]
set_option maxRecDepth 100000 in
theorem open_calls {H : Type} {enc : TypeId × Value → H} {W : World} {base : Nat} {v : Value} {d : DataW H} {p : List MemPlace} {ts : List TypeId} {ds : List (DataW H)} {j : Nat} (hval : Value.okWide Tryd.prog W .any base 22 v) (h : DataW.Trod enc Tryd.prog W 0 (fun _ => true) true 22 v d p) (hsz : (DataW.weightsEach Tryd.prog ts ds).all (· ≤ reachBytes) = true) (ht : ts[j]? = some 22) (hd : ds[j]? = some d) :
    ∃ l : List Cl, SlF ccs 10 W v l ∧ (∀ c ∈ l, wfK (ck c)) ∧ (∀ c ∈ l, c.op.k.length ≤ 140737488351232) ∧ l.length ≤ 3000000000000 := by
  obtain ⟨l, h1, h2, h3⟩ := open_structs_w (Q := fun c => wfK (ck c)) (fun c : Cl => c.op.k.length) clZ Tryd.underlying22 Tryd.cells51 (by decide) (fun _ => rfl) (fun h => open_call_cells h) hval h (fun m hm => of_decide_eq_true (List.all_eq_true.1 hsz _ (DataW.weights_mem_each ht hd _ hm)))
  rw [show Tryd.prog.bytesOf 51 = 112 by kernel_rfl] at h3
  unfold reachBytes at h2 h3
  exact ⟨l, h1, fun c hc => (h2 c hc).1, fun c hc => by have := (h2 c hc).2; omega, by omega⟩
set_option maxRecDepth 100000 in
theorem open_points {H : Type} {enc : TypeId × Value → H} {W : World} {base : Nat} {v : Value} {d : DataW H} {p : List MemPlace} (hval : Value.okWide Tryd.prog W .any base 23 v) (h : DataW.Trod enc Tryd.prog W 0 (fun _ => true) true 23 v d p) : ∃ l : List Pt, SlF pks 5 W v l ∧ ∀ c ∈ l, wfK (pk2 c) :=
  open_structs ⟨0, 0, 0, ([], 0)⟩ Tryd.underlying23 Tryd.cells56 (by decide) (fun _ => rfl) (fun h => open_pt_cells h) hval h
end
section
open Go.ChangeShapes Go.WideShapes Go.ChangeAt Go.RowKit Go.Deep

theorem Tryd.cells22 : Tryd.prog.cellsOf 22 = 1 := by kernel_rfl
theorem Tryd.cells23 : Tryd.prog.cellsOf 23 = 1 := by kernel_rfl
theorem Tryd.cells37 : Tryd.prog.cellsOf 37 = 2 := by kernel_rfl
set_option maxRecDepth 100000 in
set_option maxHeartbeats 1000000 in
/-- A slice of structs within cells. -/
theorem open_structs_c {α : Type} {f : α → List Value} {s : Nat} {Q : α → Prop} (kw : α → Nat → Prop) (a0 : α) {H : Type} {enc : TypeId × Value → H} {W : World} {fuel : Nat} {cs : List Value} {y : DataW H × List MemPlace} {T e : TypeId} (hT : Tryd.prog.underlying T = some (.slice e)) (hs : Tryd.prog.cellsOf e = s) (hs0 : 0 < s) (hf : ∀ a, (f a).length = s)
    (ho : ∀ {fuel : Nat} {cs : List Value} {y : DataW H × List MemPlace}, DataW.trod enc Tryd.prog W 0 (fun _ => true) true fuel e cs = some y → ∃ a, cs = f a ∧ Q a ∧ ∀ mw, kw a mw → mw ∈ y.1.weights Tryd.prog e)
    (h : DataW.trod enc Tryd.prog W 0 (fun _ => true) true fuel T cs = some y) (hsz : ∀ m ∈ y.1.weights Tryd.prog T, m ≤ reachBytes) :
    ∃ (v : Value) (l : List α), cs = [v] ∧ SlF f s W v l ∧ (∀ a ∈ l, Q a ∧ ∀ mw, kw a mw → mw ≤ reachBytes) ∧ l.length * Tryd.prog.bytesOf e ≤ reachBytes := by
  rcases open_slice hT h with ⟨hcs, _⟩ | ⟨x, len, cap, m, n, D, Pl, hcs, _, hl, hm, hmm, hdd, hx⟩
  · exact ⟨_, [], hcs, .inl ⟨rfl, none, 0, rfl⟩, fun o ho => (by cases ho), (by simp)⟩
  · subst hcs
    have hmc : m = cap := by simpa using hmm
    subst hmc
    have hdd1 : y.1 = _ := congrArg Prod.fst hdd
    simp only at hdd1
    by_cases h0 : len = 0
    · subst h0; exact ⟨_, [], rfl, .inl ⟨rfl, _, _, rfl⟩, fun o ho => (by cases ho), (by simp)⟩
    · have each : ∀ i, i < m → ∃ z : α, (∀ k u, (f z)[k]? = some u → W.cell? (x.add (i * s + k)) = some u) ∧ Q z ∧ ∀ mw, kw z mw → mw ∈ (D i).weights Tryd.prog e := by
        intro i hi
        obtain ⟨cs', h1, h2⟩ := hx i hi
        rw [hs] at h1
        obtain ⟨_, hlen, hcell⟩ := World.cells?_some h1
        obtain ⟨z, e1, e2⟩ := ho h2
        refine ⟨z, fun k u hu => ?_, e2⟩
        have hk : k < s := by
          have := (List.getElem?_eq_some_iff.1 hu).1
          rw [hf] at this
          exact this
        have := hcell k hk
        rw [Addr.add_add] at this
        rw [this, e1]
        exact hu
      obtain ⟨b, off, spot⟩ := x
      obtain ⟨s0, hc0, _⟩ := each 0 (by omega)
      obtain ⟨u0, hu0⟩ : ∃ u, (f s0)[0]? = some u := ⟨_, List.getElem?_eq_getElem (by rw [hf]; exact hs0)⟩
      have hc00 := hc0 0 u0 hu0
      have hspot : spot = none := by simpa [Addr.add] using World.cell?_spot hc00
      subst hspot
      have hbb : b < W.heap.size := by simpa [Addr.add] using World.block_lt_of_cell? W _ hc00
      obtain ⟨g, hg⟩ : ∃ g : Nat → α, ∀ i, i < m → (∀ k u, (f (g i))[k]? = some u → W.cell? ((⟨b, off, none⟩ : Addr).add (i * s + k)) = some u) ∧ Q (g i) ∧ ∀ mw, kw (g i) mw → mw ∈ (D i).weights Tryd.prog e :=
        ⟨fun i => if h : i < m then (each i h).choose else a0, fun i hi => by simp only [dif_pos hi]; exact (each i hi).choose_spec⟩
      refine ⟨_, (List.range len).map g, rfl, .inr ⟨b, off, m, by simp, hbb, fun i z hz k u hu => ?_⟩, fun o ho => ?_, ?_⟩
      · have hi : i < len := by have := (List.getElem?_eq_some_iff.1 hz).1; simpa using this
        rw [List.getElem?_map, List.getElem?_range hi] at hz
        simp at hz
        subst hz
        have := (hg i (by omega)).1 k u hu
        rw [Addr.add_mid] at this
        rw [Nat.add_assoc]
        exact this
      · obtain ⟨i, hi, rfl⟩ := List.mem_map.1 ho
        have hi' : i < len := List.mem_range.1 hi
        refine ⟨(hg i (by omega)).2.1, fun mw hmw => hsz _ ?_⟩
        rw [hdd1]
        simp only [DataW.weights, hT, List.mem_cons, List.mem_append]
        exact Or.inr (Or.inl (weightsAll_mem (List.mem_map.2 ⟨i, hi, rfl⟩) _ ((hg i (by omega)).2.2 mw hmw)))
      · rw [List.length_map, List.length_range]
        refine Nat.le_trans (Nat.mul_le_mul_right _ (Nat.le_add_right len (m - len))) (hsz _ ?_)
        rw [hdd1]
        simp only [DataW.weights, hT, List.length_map, List.length_range, List.mem_cons, true_or]
set_option maxRecDepth 100000 in
set_option maxHeartbeats 1000000 in
theorem open_part {H : Type} {enc : TypeId × Value → H} {W : World} {fuel : Nat} {cs : List Value} {y : DataW H × List MemPlace} (h : DataW.trod enc Tryd.prog W 0 (fun _ => true) true fuel 37 cs = some y) (hsz : ∀ m ∈ y.1.weights Tryd.prog 37, m ≤ reachBytes) :
    ∃ (u v : Value) (lc : List Cl) (lp : List Pt), cs = [u, v] ∧ SlF ccs 10 W u lc ∧ SlF pks 5 W v lp ∧ (∀ c ∈ lc, wfK (ck c)) ∧ (∀ p ∈ lp, wfK (pk2 p)) ∧ (∀ c ∈ lc, c.op.k.length ≤ 140737488351232) ∧ lc.length ≤ 3000000000000 := by
  obtain ⟨xs, n, _, rfl, hl, hlen, hf⟩ := DataW.trod_struct Tryd.underlying37 h
  rw [Tryd.cells37] at hl
  obtain ⟨c0, c1, rfl⟩ := list2 hl
  obtain ⟨y0, y1, rfl⟩ := list2' (by simpa using hlen)
  have h0 := hf 0 _ rfl
  have h1 := hf 1 _ rfl
  simp [Tryd.cells22, Tryd.cells23] at h0 h1
  have hw0 : ∀ m ∈ y0.1.weights Tryd.prog 22, m ≤ reachBytes := fun m hm => hsz m (by simp [DataW.weights, DataW.weightsEach, Tryd.underlying37]; exact Or.inl hm)
  have hw1 : ∀ m ∈ y1.1.weights Tryd.prog 23, m ≤ reachBytes := fun m hm => hsz m (by simp [DataW.weights, DataW.weightsEach, Tryd.underlying37]; exact Or.inr hm)
  obtain ⟨u, lc, e1, a1, a2, a3⟩ := open_structs_c (Q := fun c => wfK (ck c)) (fun (c : Cl) m => m = c.op.k.length) clZ Tryd.underlying22 Tryd.cells51 (by decide) (fun _ => rfl) (fun h => by obtain ⟨c, g1, g2, g3⟩ := open_call_cells h; exact ⟨c, g1, g2, fun m hm => by rw [hm]; exact g3⟩) h0 hw0
  obtain ⟨v, lp, e2, b1, b2, _⟩ := open_structs_c (Q := fun p => wfK (pk2 p)) (fun (_ : Pt) _ => False) ⟨0, 0, 0, ([], 0)⟩ Tryd.underlying23 Tryd.cells56 (by decide) (fun _ => rfl) (fun h => by obtain ⟨p, g1, g2⟩ := open_pt_cells h; exact ⟨p, g1, g2, fun m hm => hm.elim⟩) h1 hw1
  simp only [List.cons.injEq, and_true] at e1 e2
  subst e1
  subst e2
  rw [show Tryd.prog.bytesOf 51 = 112 by kernel_rfl] at a3
  unfold reachBytes at a2 a3
  exact ⟨_, _, lc, lp, rfl, a1, b1, fun c hc => (a2 c hc).1, fun p hp => (b2 p hp).1, fun c hc => by have := (a2 c hc).2 _ rfl; omega, by omega⟩
set_option maxRecDepth 100000 in
set_option maxHeartbeats 1000000 in
theorem open_parts {H : Type} {enc : TypeId × Value → H} {W : World} {base : Nat} {v : Value} {d : DataW H} {p : List MemPlace} {ts : List TypeId} {ds : List (DataW H)} {j : Nat} (hval : Value.okWide Tryd.prog W .any base 26 v) (h : DataW.Trod enc Tryd.prog W 0 (fun _ => true) true 26 v d p) (hsz : (DataW.weightsEach Tryd.prog ts ds).all (· ≤ reachBytes) = true) (ht : ts[j]? = some 26) (hd : ds[j]? = some d) :
    ∃ (a : Option Addr) (n cap : Nat) (pc : Nat → List Cl) (pp : Nat → List Pt), v = .slice a n cap ∧ PSl W a pc pp n ∧ ∀ i, i < n → (∀ c ∈ pc i, wfK (ck c)) ∧ (∀ q ∈ pp i, wfK (pk2 q)) ∧ (∀ c ∈ pc i, c.op.k.length ≤ 140737488351232) ∧ (pc i).length ≤ 3000000000000 := by
  have hszd : ∀ m ∈ d.weights Tryd.prog 26, m ≤ reachBytes := fun m hm => of_decide_eq_true (List.all_eq_true.1 hsz _ (DataW.weights_mem_each ht hd _ hm))
  obtain ⟨a, len, cap, rfl⟩ := okWide_slice Tryd.underlying26 hval
  obtain ⟨fuel, hfu⟩ := h
  rcases open_slice Tryd.underlying26 hfu with ⟨hcs, _⟩ | ⟨x, l, c, m, n, D, Pl, hcs, _, hl, hm, hmm, hdd, hx⟩
  · simp [Value.cells] at hcs
    obtain ⟨rfl, rfl, rfl⟩ := hcs
    exact ⟨none, 0, 0, fun _ => [], fun _ => [], rfl, fun i hi => by omega, fun i hi => by omega⟩
  · simp [Value.cells] at hcs
    obtain ⟨rfl, rfl, rfl⟩ := hcs
    have hmc : m = cap := by simpa using hmm
    subst hmc
    simp only [Prod.mk.injEq] at hdd
    by_cases h0 : len = 0
    · subst h0; exact ⟨_, 0, _, fun _ => [], fun _ => [], rfl, fun i hi => by omega, fun i hi => by omega⟩
    · have each : ∀ i, i < len → ∃ z : Value × Value × List Cl × List Pt, W.cell? (x.add (i * 2)) = some z.1 ∧ W.cell? (x.add (i * 2 + 1)) = some z.2.1 ∧ SlF ccs 10 W z.1 z.2.2.1 ∧ SlF pks 5 W z.2.1 z.2.2.2 ∧ (∀ c ∈ z.2.2.1, wfK (ck c)) ∧ (∀ q ∈ z.2.2.2, wfK (pk2 q)) ∧ (∀ c ∈ z.2.2.1, c.op.k.length ≤ 140737488351232) ∧ z.2.2.1.length ≤ 3000000000000 := by
        intro i hi
        obtain ⟨cs', h1, h2⟩ := hx i (by omega)
        rw [Tryd.cells37] at h1
        obtain ⟨_, hlen, hcell⟩ := World.cells?_some h1
        obtain ⟨u, v, lc, lp, e1, e2, e3, e4⟩ := open_part h2 fun mw hmw => hszd mw (by
          rw [hdd.1]
          simp only [DataW.weights, Tryd.underlying26, List.mem_cons, List.mem_append]
          exact Or.inr (Or.inl (weightsAll_mem (List.mem_map.2 ⟨i, List.mem_range.2 hi, rfl⟩) _ hmw)))
        subst e1
        have k0 := hcell 0 (by omega)
        have k1 := hcell 1 (by omega)
        rw [Addr.add_add] at k0 k1
        exact ⟨(u, v, lc, lp), k0, k1, e2, e3, e4⟩
      obtain ⟨b, off, spot⟩ := x
      obtain ⟨z0, hc0, _⟩ := each 0 (by omega)
      have hspot : spot = none := by simpa [Addr.add] using World.cell?_spot hc0
      subst hspot
      have hbb : b < W.heap.size := by simpa [Addr.add] using World.block_lt_of_cell? W _ hc0
      obtain ⟨g, hg⟩ : ∃ g : Nat → Value × Value × List Cl × List Pt, ∀ i, i < len → W.cell? ((⟨b, off, none⟩ : Addr).add (i * 2)) = some (g i).1 ∧ W.cell? ((⟨b, off, none⟩ : Addr).add (i * 2 + 1)) = some (g i).2.1 ∧ SlF ccs 10 W (g i).1 (g i).2.2.1 ∧ SlF pks 5 W (g i).2.1 (g i).2.2.2 ∧ (∀ c ∈ (g i).2.2.1, wfK (ck c)) ∧ (∀ q ∈ (g i).2.2.2, wfK (pk2 q)) ∧ (∀ c ∈ (g i).2.2.1, c.op.k.length ≤ 140737488351232) ∧ (g i).2.2.1.length ≤ 3000000000000 :=
        ⟨fun i => if h : i < len then (each i h).choose else z0, fun i hi => by simp only [dif_pos hi]; exact (each i hi).choose_spec⟩
      refine ⟨some ⟨b, off, none⟩, len, m, fun i => (g i).2.2.1, fun i => (g i).2.2.2, rfl, fun i hi => ?_, fun i hi => (hg i hi).2.2.2.2⟩
      obtain ⟨k1, k2, k3, k4, _⟩ := hg i hi
      rw [Addr.add_mid] at k1 k2
      exact ⟨b, off, _, _, rfl, hbb, k1, by rw [Nat.add_assoc]; exact k2, k3, k4⟩
end
end Go.Proofs.YtihilkdokfdoeaaDoor
