/- Arguments that came in, opened: an operation, operations, texts. -/
import Derived.Test.YtmkmidahfcjcgaaDoorTbT
import Derived.Test.YtmkmidahfcjcgaaDoorTbA
import Derived.Lib.SmallJoins
import Derived.Deep.SlicePairs
import Derived.Deep.Slices
import Derived.Deep.Strs
namespace Go.Proofs.YtmkmidahfcjcgaaDoor
open Go.ChangeShapes Go.WideShapes Go.ChangeAt Go.RowKit Go.Deep

theorem Tryd.cells31 : Tryd.prog.cellsOf 31 = 4 := by kernel_rfl
theorem Tryd.cells3 : Tryd.prog.cellsOf 3 = 1 := by kernel_rfl
/-- An operation: its kind, key, value, old one. -/
structure Op4 where
  kind : Int
  k : List UInt8
  v : List UInt8
  o : List UInt8
def Op4.cells (s : Op4) : List Value := [.int .i64 s.kind, .string (bs s.k), .string (bs s.v), .string (bs s.o)]
theorem list4 {cs : List Value} (h : cs.length = 4) : ∃ c0 c1 c2 c3, cs = [c0, c1, c2, c3] := by
  match cs, h with
  | [c0, c1, c2, c3], _ => exact ⟨c0, c1, c2, c3, rfl⟩
theorem list4' {α : Type} {xs : List α} (h : xs.length = 4) : ∃ y0 y1 y2 y3, xs = [y0, y1, y2, y3] := by
  match xs, h with
  | [y0, y1, y2, y3], _ => exact ⟨y0, y1, y2, y3, rfl⟩
set_option maxRecDepth 100000 in
set_option maxHeartbeats 1000000 in
theorem open_op_cells {H : Type} {enc : TypeId × Value → H} {W : World} {fuel : Nat} {cs : List Value} {y : DataW H × List MemPlace} (h : DataW.trod enc Tryd.prog W 0 (fun _ => true) true fuel 31 cs = some y) :
    ∃ s : Op4, cs = s.cells := by
  obtain ⟨xs, n, _, rfl, hl, hlen, hf⟩ := DataW.trod_struct Tryd.underlying31 h
  rw [Tryd.cells31] at hl
  obtain ⟨c0, c1, c2, c3, rfl⟩ := list4 hl
  obtain ⟨y0, y1, y2, y3, rfl⟩ := list4' (by simpa using hlen)
  have h0 := hf 0 _ rfl
  have h1 := hf 1 _ rfl
  have h2 := hf 2 _ rfl
  have h3 := hf 3 _ rfl
  simp [Tryd.cells3, Tryd.cells9] at h0 h1 h2 h3
  obtain ⟨a0, e0, _, _⟩ := DataW.trod_int Tryd.underlying3 h0
  obtain ⟨a1, e1, _, _⟩ := DataW.trod_string Tryd.underlying9 h1
  obtain ⟨a2, e2, _, _⟩ := DataW.trod_string Tryd.underlying9 h2
  obtain ⟨a3, e3, _, _⟩ := DataW.trod_string Tryd.underlying9 h3
  simp at e0 e1 e2 e3
  subst e0 e1 e2 e3
  exact ⟨⟨a0, a1.data.toList, a2.data.toList, a3.data.toList⟩, by simp [Op4.cells, bs_data]⟩
set_option maxRecDepth 100000 in
theorem open_op {H : Type} {enc : TypeId × Value → H} {W : World} {base : Nat} {v : Value} {d : DataW H} {p : List MemPlace} (hval : Value.okWide Tryd.prog W .any base 31 v) (h : DataW.Trod enc Tryd.prog W 0 (fun _ => true) true 31 v d p) :
    ∃ s : Op4, v = opV s.kind s.k s.v s.o := by
  obtain ⟨cs, rfl, hcs⟩ := okWide_struct Tryd.underlying31 hval
  obtain ⟨fuel, hf⟩ := h
  obtain ⟨s, h1⟩ := open_op_cells hf
  refine ⟨s, ?_⟩
  simp [Value.cells] at h1
  unfold opV
  have : cs = s.cells.toArray := by rw [← h1]
  rw [this]
  rfl
/-- A slice of operations, as it lies. -/
def Ol (w : World) (v : Value) (l : List Op4) : Prop :=
  (l = [] ∧ ∃ a c, v = .slice a 0 c) ∨ ∃ b o cap, v = .slice (some ⟨b, o, none⟩) l.length cap ∧ b < w.heap.size ∧ ∀ i s, l[i]? = some s → ∀ k u, s.cells[k]? = some u → w.cell? ⟨b, o + i * 4 + k, none⟩ = some u
theorem Ol.on {w w' : World} {v : Value} {l : List Op4} (h : Ol w v l) (hb : Below w.heap.size w w') : Ol w' v l := by
  rcases h with h | ⟨b, o, cap, rfl, h1, h2⟩
  · exact .inl h
  · exact .inr ⟨b, o, cap, rfl, Nat.lt_of_lt_of_le h1 hb.size, fun i s hs k u hu => (hb.cell (p := ⟨b, o + i * 4 + k, none⟩) h1).trans (h2 i s hs k u hu)⟩
theorem Ol.slice {w : World} {v : Value} {l : List Op4} (h : Ol w v l) : ∃ a c, v = .slice a l.length c := by
  rcases h with ⟨rfl, a, c, rfl⟩ | ⟨b, o, cap, rfl, _⟩
  · exact ⟨a, c, rfl⟩
  · exact ⟨_, _, rfl⟩
theorem Ol.at {w : World} {a : Option Addr} {c : Nat} {l : List Op4} (h : Ol w (.slice a l.length c) l) {i : Nat} {s : Op4} (hs : l[i]? = some s) :
    ∃ b o, a = some ⟨b, o, none⟩ ∧ b < w.heap.size ∧ w.cell? ⟨b, o + i * 4, none⟩ = some (.int .i64 s.kind) ∧ w.cell? ⟨b, o + i * 4 + 1, none⟩ = some (.string (bs s.k)) ∧ w.cell? ⟨b, o + i * 4 + 2, none⟩ = some (.string (bs s.v)) ∧ w.cell? ⟨b, o + i * 4 + 3, none⟩ = some (.string (bs s.o)) := by
  rcases h with ⟨rfl, _⟩ | ⟨b, o, cap, e, h1, h2⟩
  · simp at hs
  · simp only [Value.slice.injEq, true_and] at e
    obtain ⟨rfl, rfl⟩ := e
    exact ⟨b, o, rfl, h1, h2 i s hs 0 _ rfl, h2 i s hs 1 _ rfl, h2 i s hs 2 _ rfl, h2 i s hs 3 _ rfl⟩
set_option maxRecDepth 100000 in
set_option maxHeartbeats 1000000 in
theorem open_ops {H : Type} {enc : TypeId × Value → H} {W : World} {base : Nat} {v : Value} {d : DataW H} {p : List MemPlace} (hval : Value.okWide Tryd.prog W .any base 22 v) (h : DataW.Trod enc Tryd.prog W 0 (fun _ => true) true 22 v d p) : ∃ l : List Op4, Ol W v l := by
  obtain ⟨a, len, cap, rfl⟩ := okWide_slice Tryd.underlying22 hval
  obtain ⟨fuel, hf⟩ := h
  rcases open_slice Tryd.underlying22 hf with ⟨hcs, _⟩ | ⟨x, l, c, m, n, D, Pl, hcs, _, hl, hm, hmm, hdd, hx⟩
  · simp [Value.cells] at hcs
    obtain ⟨rfl, rfl, rfl⟩ := hcs
    exact ⟨[], .inl ⟨rfl, none, 0, rfl⟩⟩
  · simp [Value.cells] at hcs
    obtain ⟨rfl, rfl, rfl⟩ := hcs
    have hmc : m = cap := by simpa using hmm
    subst hmc
    by_cases h0 : len = 0
    · subst h0; exact ⟨[], .inl ⟨rfl, _, _, rfl⟩⟩
    · have each : ∀ i, i < m → ∃ s : Op4, ∀ k u, s.cells[k]? = some u → W.cell? (x.add (i * 4 + k)) = some u := by
        intro i hi
        obtain ⟨cs', h1, h2⟩ := hx i hi
        rw [Tryd.cells31] at h1
        obtain ⟨_, hlen, hcell⟩ := World.cells?_some h1
        obtain ⟨s, e1⟩ := open_op_cells h2
        refine ⟨s, fun k u hu => ?_⟩
        have hk : k < 4 := by
          have := (List.getElem?_eq_some_iff.1 hu).1
          simpa [Op4.cells] using this
        have := hcell k hk
        rw [Addr.add_add] at this
        rw [this, e1]
        exact hu
      obtain ⟨b, off, spot⟩ := x
      obtain ⟨s0, hc0⟩ := each 0 (by omega)
      have hc00 := hc0 0 _ rfl
      have hspot : spot = none := by simpa [Addr.add] using World.cell?_spot hc00
      subst hspot
      have hbb : b < W.heap.size := by simpa [Addr.add] using World.block_lt_of_cell? W _ hc00
      obtain ⟨f, hf⟩ : ∃ f : Nat → Op4, ∀ i, i < m → ∀ k u, (f i).cells[k]? = some u → W.cell? ((⟨b, off, none⟩ : Addr).add (i * 4 + k)) = some u :=
        ⟨fun i => if h : i < m then (each i h).choose else ⟨0, [], [], []⟩, fun i hi => by simp only [dif_pos hi]; exact (each i hi).choose_spec⟩
      refine ⟨(List.range len).map f, .inr ⟨b, off, m, by simp, hbb, fun i s hs k u hu => ?_⟩⟩
      have hi : i < len := by have := (List.getElem?_eq_some_iff.1 hs).1; simpa using this
      rw [List.getElem?_map, List.getElem?_range hi] at hs
      simp at hs
      subst hs
      have := hf i (by omega) k u hu
      rw [Addr.add_mid] at this
      rw [Nat.add_assoc]
      exact this
theorem Tryd.bytes9 : Tryd.prog.bytesOf 9 = 16 := by kernel_rfl
set_option maxRecDepth 100000 in
theorem open_texts {H : Type} {enc : TypeId × Value → H} {W : World} {base : Nat} {v : Value} {d : DataW H} {p : List MemPlace} {ts : List TypeId} {ds : List (DataW H)} {j : Nat} (hval : Value.okWide Tryd.prog W .any base 52 v)
    (h : ∃ fuel, DataW.trod enc Tryd.prog W 0 (fun _ => true) true fuel 52 v.cells.toList = some (d, p)) (hsz : (DataW.weightsEach Tryd.prog ts ds).all (· ≤ reachBytes) = true) (ht : ts[j]? = some 52) (hd : ds[j]? = some d) :
    ∃ l : List (List UInt8), Sl W v l ∧ l.length ≤ 140737488355328 ∧ ∀ t ∈ l, t.length ≤ 140737488355328 := by
  obtain ⟨a, len, cap, rfl⟩ := okWide_slice Tryd.underlying52 hval
  obtain ⟨fuel, hf⟩ := h
  rcases open_strings Tryd.underlying52 Tryd.underlying9 Tryd.cells9 hf with ⟨hcs, _⟩ | ⟨x, l, c, ss, hcs, _, hl, hm, hzz, hx, hcell, _⟩
  · simp [Value.cells] at hcs
    obtain ⟨rfl, rfl, rfl⟩ := hcs
    exact ⟨[], .inl ⟨rfl, none, 0, rfl⟩, by simp, by simp⟩
  · simp [Value.cells] at hcs
    obtain ⟨rfl, rfl, rfl⟩ := hcs
    simp only [Prod.mk.injEq] at hx
    have hss : ss.length = cap := by simpa using hzz
    have hlen : ((ss.take len).map (·.data.toList)).length = len := by simp; omega
    have h16 := sized_slice hsz ht (hx.1 ▸ hd) Tryd.underlying52
    rw [Tryd.bytes9] at h16
    have hmax : len ≤ 140737488355328 := by
      have e1 : (ChangeShapes.strs (ss.take len) : List (DataW H)).length = len := by simp [ChangeShapes.strs]; omega
      rw [e1] at h16
      unfold reachBytes at h16
      omega
    refine ⟨(ss.take len).map (·.data.toList), ?_, by rw [hlen]; exact hmax, ?_⟩
    · by_cases h00 : len = 0
      · subst h00
        exact .inl ⟨by simp, _, _, rfl⟩
      · obtain ⟨b, off, spot⟩ := x
        have hc0 := hcell 0 (by omega)
        have hspot : spot = none := by simpa [Addr.add] using World.cell?_spot hc0
        subst hspot
        have hb := World.block_lt_of_cell? W _ hc0
        have hbb : b < W.heap.size := by simpa [Addr.add] using hb
        refine .inr ⟨b, off, cap, by rw [hlen], hbb, fun i t hti => ?_⟩
        have hi : i < len := by rw [← hlen]; exact (List.getElem?_eq_some_iff.1 hti).1
        have hci := hcell i (by omega)
        rw [Addr.add_mid] at hci
        rw [hci]
        rw [List.getElem?_map, List.getElem?_take_of_lt hi] at hti
        obtain ⟨y, hy, rfl⟩ := Option.map_eq_some_iff.1 hti
        rw [List.getD_eq_getElem?_getD, hy, Option.getD_some, bs_data]
    · intro t htm
      obtain ⟨y, hy, rfl⟩ := List.mem_map.1 htm
      have hm2 : (DataW.lit (.string y.data.toList) : DataW H) ∈ (ChangeShapes.strs (ss.take len) : List (DataW H)) := List.mem_map.2 ⟨y, hy, rfl⟩
      have hw : y.data.toList.length ≤ reachBytes := by
        refine of_decide_eq_true (List.all_eq_true.1 hsz _ (DataW.weights_mem_each ht (hx.1 ▸ hd) _ ?_))
        simp only [DataW.weights, Tryd.underlying52, List.mem_cons, List.mem_append]
        exact Or.inr (Or.inl (weightsAll_mem hm2 _ (by simp [DataW.weights])))
      unfold reachBytes at hw
      omega
end Go.Proofs.YtmkmidahfcjcgaaDoor
