/- Arguments that came in, opened: a step, steps. -/
import Derived.Test.YtmggfkhfiggloaaDoorMkT
import Derived.Test.YtmggfkhfiggloaaDoorMkC
import Derived.Lib.SmallJoins
import Derived.Deep.SlicePairs
import Derived.Deep.Slices
import Derived.Deep.Strs
namespace Go.Proofs.YtmggfkhfiggloaaDoor
open Go.ChangeShapes Go.WideShapes Go.ChangeAt Go.RowKit Go.Deep

theorem Tryd.cells49 : Tryd.prog.cellsOf 49 = 3 := by kernel_rfl
theorem Tryd.cells47 : Tryd.prog.cellsOf 47 = 1 := by kernel_rfl
theorem Tryd.cells51 : Tryd.prog.cellsOf 51 = 8 := by kernel_rfl
theorem Tryd.cells94 : Tryd.prog.cellsOf 94 = 2 := by kernel_rfl
theorem Tryd.cells3 : Tryd.prog.cellsOf 3 = 1 := by kernel_rfl
theorem Tryd.bytes94 : Tryd.prog.bytesOf 94 = 24 := by kernel_rfl

set_option maxRecDepth 100000 in
theorem open_tags {H : Type} {enc : TypeId × Value → H} {W : World} {fuel : Nat} {v : Value} {y : DataW H × List MemPlace} (h : DataW.trod enc Tryd.prog W 0 (fun _ => true) true fuel 47 [v] = some y) :
    ∃ l : List Tg, Tp W v l ∧ ((∀ m ∈ y.1.weights Tryd.prog 47, m ≤ reachBytes) → l.length * 24 ≤ reachBytes) := by
  rcases open_slice_pairs Tryd.underlying47 Tryd.underlying94 Tryd.cells94 rfl rfl Tryd.cells3 Tryd.cells9 h with ⟨hcs, _⟩ | ⟨a, len, cap, m, n, V0, V1, D0, D1, P0, P1, hcs, _, hl, hm, hmm, hy, hx⟩
  · simp at hcs; subst hcs; exact ⟨[], Tp.nil _, fun _ => by simp⟩
  · simp at hcs
    subst hcs
    have hmc : m = cap := by simpa using hmm
    subst hmc
    by_cases h0 : len = 0
    · subst h0; exact ⟨[], .inr (.inl ⟨rfl, a, m, rfl⟩), fun _ => by simp⟩
    · have each : ∀ i, i < m → ∃ t : Tg, W.cell? (a.add (i * 2)) = some (.int .i64 t.1) ∧ W.cell? (a.add (i * 2 + 1)) = some (.string (bs t.2)) := by
        intro i hi
        obtain ⟨h1, h2, h3, h4⟩ := hx i hi
        obtain ⟨z, e1, _, _⟩ := DataW.trod_int Tryd.underlying3 h3
        obtain ⟨s, e2, _, _⟩ := DataW.trod_string Tryd.underlying9 h4
        simp at e1 e2
        rw [e1] at h1
        rw [e2] at h2
        exact ⟨(z, s.data.toList), h1, by rw [bs_data]; exact h2⟩
      obtain ⟨b, off, spot⟩ := a
      obtain ⟨t0, hc0, _⟩ := each 0 (by omega)
      have hspot : spot = none := by simpa [Addr.add] using World.cell?_spot hc0
      subst hspot
      have hbb : b < W.heap.size := by simpa [Addr.add] using World.block_lt_of_cell? W _ hc0
      obtain ⟨f, hf⟩ : ∃ f : Nat → Tg, ∀ i, i < m → W.cell? ((⟨b, off, none⟩ : Addr).add (i * 2)) = some (.int .i64 (f i).1) ∧ W.cell? ((⟨b, off, none⟩ : Addr).add (i * 2 + 1)) = some (.string (bs (f i).2)) :=
        ⟨fun i => if h : i < m then (each i h).choose else (0, []), fun i hi => by simp only [dif_pos hi]; exact (each i hi).choose_spec⟩
      refine ⟨(List.range len).map f, .inr <| .inr ⟨b, off, m, by simp, by simpa using hl, hbb, fun i t ht => ?_⟩, fun hw => ?_⟩
      · have hi : i < len := by have := (List.getElem?_eq_some_iff.1 ht).1; simpa using this
        rw [List.getElem?_map, List.getElem?_range hi] at ht
        simp at ht
        subst ht
        have := hf i (by omega)
        rw [Addr.add_mid, Addr.add_mid] at this
        exact this
      · have := hw ((len + (m - len)) * 24) (by
          rw [hy]
          simp only [DataW.weights, Tryd.underlying47, Tryd.bytes94, List.mem_cons, List.length_map, List.length_range]
          exact .inl trivial)
        simp only [List.length_map, List.length_range]
        omega
/-- A step's eight cells. -/
structure Sp where
  what : Int
  no : Int
  n : Int
  st : List UInt8
  tg : List UInt8
  ct : List UInt8
  cg : Int
  T : List Tg
  u : Value
def Sp.cells (s : Sp) : List Value := [.int .i64 s.what, .int .i64 s.no, .int .i64 s.n, .string (bs s.st), .string (bs s.tg), .string (bs s.ct), .int .i64 s.cg, s.u]
def wf64 (n : Int) : Prop := -9223372036854775808 ≤ n ∧ n ≤ 9223372036854775807
structure Sp.Ok (s : Sp) : Prop where
  wn : wf64 s.n
  st : s.st.length ≤ reachBytes
  T : s.T.length * 24 ≤ reachBytes
theorem list8 {cs : List Value} (h : cs.length = 8) : ∃ c0 c1 c2 c3 c4 c5 c6 c7, cs = [c0, c1, c2, c3, c4, c5, c6, c7] := by
  match cs, h with
  | [c0, c1, c2, c3, c4, c5, c6, c7], _ => exact ⟨c0, c1, c2, c3, c4, c5, c6, c7, rfl⟩
theorem list6 {α : Type} {xs : List α} (h : xs.length = 6) : ∃ y0 y1 y2 y3 y4 y5, xs = [y0, y1, y2, y3, y4, y5] := by
  match xs, h with
  | [y0, y1, y2, y3, y4, y5], _ => exact ⟨y0, y1, y2, y3, y4, y5, rfl⟩
set_option maxRecDepth 100000 in
set_option maxHeartbeats 1000000 in
theorem open_step_cells {H : Type} {enc : TypeId × Value → H} {W : World} {fuel : Nat} {cs : List Value} {y : DataW H × List MemPlace} (h : DataW.trod enc Tryd.prog W 0 (fun _ => true) true fuel 51 cs = some y) :
    ∃ s : Sp, cs = s.cells ∧ Tp W s.u s.T ∧ ((∀ m ∈ y.1.weights Tryd.prog 51, m ≤ reachBytes) → s.Ok) := by
  obtain ⟨xs, n, _, rfl, hl, hlen, hf⟩ := DataW.trod_struct Tryd.underlying51 h
  rw [Tryd.cells51] at hl
  obtain ⟨c0, c1, c2, c3, c4, c5, c6, c7, rfl⟩ := list8 hl
  obtain ⟨y0, y1, y2, y3, y4, y5, rfl⟩ := list6 (by simpa using hlen)
  have h0 := hf 0 _ rfl
  have h1 := hf 1 _ rfl
  have h2 := hf 2 _ rfl
  have h3 := hf 3 _ rfl
  have h4 := hf 4 _ rfl
  have h5 := hf 5 _ rfl
  simp [Tryd.cells3, Tryd.cells9, Tryd.cells49] at h0 h1 h2 h3 h4 h5
  obtain ⟨a0, e0, _, _⟩ := DataW.trod_int Tryd.underlying3 h0
  obtain ⟨a1, e1, _, _⟩ := DataW.trod_int Tryd.underlying3 h1
  obtain ⟨a2, e2, _, w2⟩ := DataW.trod_int Tryd.underlying3 h2
  obtain ⟨a3, e3, k3, _⟩ := DataW.trod_string Tryd.underlying9 h3
  obtain ⟨a4, e4, _, _⟩ := DataW.trod_string Tryd.underlying9 h4
  obtain ⟨z0, z1, z2, n2, hag, _, t0, t1, t2⟩ := trod_struct3 Tryd.underlying49 h5
  simp [Tryd.cells3, Tryd.cells9, Tryd.cells47] at t0 t1 t2
  obtain ⟨a5, e5, _, _⟩ := DataW.trod_string Tryd.underlying9 t0
  obtain ⟨a6, e6, _, _⟩ := DataW.trod_int Tryd.underlying3 t1
  obtain ⟨l, hT, hlw⟩ := open_tags t2
  simp at e0 e1 e2 e3 e4 e5 e6
  subst e0 e1 e2 e3 e4 e5 e6
  refine ⟨⟨a0, a1, a2, a3.data.toList, a4.data.toList, a5.data.toList, a6, l, c7⟩, by simp [Sp.cells, bs_data], hT, fun hw => ?_⟩
  have hwe : ∀ m ∈ DataW.weightsEach Tryd.prog [3, 3, 3, 9, 9, 49] [y0.1, y1.1, y2.1, y3.1, y4.1, y5.1], m ≤ reachBytes := by
    intro m hm
    refine hw m ?_
    simp only [DataW.weights, Tryd.underlying51]
    exact hm
  simp only [DataW.weightsEach, List.mem_append] at hwe
  refine ⟨int_range w2, ?_, hlw fun m hm => ?_⟩
  · refine hwe _ (.inr (.inr (.inr (.inl ?_))))
    rw [k3]
    simp [DataW.weights]
  · refine hwe m (.inr (.inr (.inr (.inr (.inr (.inl ?_))))))
    rw [hag]
    simp only [DataW.weights, Tryd.underlying49]
    simp [DataW.weightsEach, hm]
set_option maxRecDepth 100000 in
theorem open_step {H : Type} {enc : TypeId × Value → H} {W : World} {base : Nat} {v : Value} {d : DataW H} {p : List MemPlace} (hval : Value.okWide Tryd.prog W .any base 51 v) (h : DataW.Trod enc Tryd.prog W 0 (fun _ => true) true 51 v d p) :
    ∃ s : Sp, v = .agg s.cells.toArray ∧ Tp W s.u s.T := by
  obtain ⟨cs, rfl, hcs⟩ := okWide_struct Tryd.underlying51 hval
  obtain ⟨fuel, hf⟩ := h
  obtain ⟨s, h1, h2, _⟩ := open_step_cells hf
  refine ⟨s, ?_, h2⟩
  simp [Value.cells] at h1
  rw [← h1]
end Go.Proofs.YtmggfkhfiggloaaDoor
