/- Arguments that came in, opened: changes, and their best orders. -/
import Derived.Test.YtifalaigfinciaaGreatDoorShT
import Derived.Test.YtifalaigfinciaaGreatDoorShI
import Derived.Lib.SmallJoins
import Derived.Deep.SlicePairs
import Derived.Deep.Slices
import Derived.Deep.Strs
namespace Go.Proofs.YtifalaigfinciaaGreatDoor
open Go.ChangeShapes Go.WideShapes Go.ChangeAt Go.RowKit Go.Deep

theorem Tryz.cells24 : Tryz.prog.cellsOf 24 = 3 := by kernel_rfl
theorem Tryz.cells22 : Tryz.prog.cellsOf 22 = 1 := by kernel_rfl
theorem Tryz.cells25 : Tryz.prog.cellsOf 25 = 1 := by kernel_rfl
theorem Tryz.cells34 : Tryz.prog.cellsOf 34 = 5 := by kernel_rfl
theorem Tryz.cells27 : Tryz.prog.cellsOf 27 = 6 := by kernel_rfl
theorem Tryz.cells82 : Tryz.prog.cellsOf 82 = 2 := by kernel_rfl
theorem Tryz.cells3 : Tryz.prog.cellsOf 3 = 1 := by kernel_rfl
theorem Tryz.bytes82 : Tryz.prog.bytesOf 82 = 24 := by kernel_rfl
theorem Tryz.bytes34 : Tryz.prog.bytesOf 34 = 64 := by kernel_rfl

set_option maxRecDepth 100000 in
theorem open_tags {H : Type} {enc : TypeId × Value → H} {W : World} {fuel : Nat} {v : Value} {y : DataW H × List MemPlace} (h : DataW.trod enc Tryz.prog W 0 (fun _ => true) true fuel 22 [v] = some y) :
    ∃ l : List Tg, Tp W v l ∧ ((∀ m ∈ y.1.weights Tryz.prog 22, m ≤ reachBytes) → l.length * 24 ≤ reachBytes) := by
  rcases open_slice_pairs Tryz.underlying22 Tryz.underlying82 Tryz.cells82 rfl rfl Tryz.cells3 Tryz.cells9 h with ⟨hcs, _⟩ | ⟨a, len, cap, m, n, V0, V1, D0, D1, P0, P1, hcs, _, hl, hm, hmm, hy, hx⟩
  · simp at hcs; subst hcs; exact ⟨[], Tp.nil _, fun _ => by simp⟩
  · simp at hcs
    subst hcs
    have hmc : m = cap := by simpa using hmm
    subst hmc
    by_cases h0 : len = 0
    · subst h0; exact ⟨[], .inr (.inl ⟨rfl, a, m, rfl⟩), fun _ => by simp⟩
    · have each : ∀ i, i < m → ∃ t : Tg, W.cell? (a.add (i * 2)) = some (.int .i64 t.1) ∧ W.cell? (a.add (i * 2 + 1)) = some (.string (bs t.2)) := by
        intro i hi
        obtain ⟨h1, h2, h3, h4⟩ := hx i hi
        obtain ⟨z, e1, _, _⟩ := DataW.trod_int Tryz.underlying3 h3
        obtain ⟨s, e2, _, _⟩ := DataW.trod_string Tryz.underlying9 h4
        simp at e1 e2
        rw [e1] at h1
        rw [e2] at h2
        exact ⟨(z, s.data.toList), h1, by rw [bs_data]; exact h2⟩
      obtain ⟨b, off, spot⟩ := a
      obtain ⟨t0, hc0, _⟩ := each 0 (by omega)
      have hspot : spot = none := by simpa [Addr.add] using World.cell?_spot hc0
      subst hspot
      have hbb : b < W.heap.size := by simpa [Addr.add] using World.block_lt_of_cell? W _ hc0
      obtain ⟨f, hf⟩ : ∃ f : Nat → Tg, ∀ i, i < m → W.cell? ((⟨b, off, none⟩ : Addr).add (i * 2)) = some (.int .i64 (f i).1) ∧ W.cell? ((⟨b, off, none⟩ : Addr).add (i * 2 + 1)) = some (.string (bs (f i).2)) :=
        ⟨fun i => if h : i < m then (each i h).choose else (0, []), fun i hi => by simp only [dif_pos hi]; exact (each i hi).choose_spec⟩
      refine ⟨(List.range len).map f, .inr <| .inr ⟨b, off, m, by simp, by simpa using hl, hbb, fun i t ht => ?_⟩, fun hw => ?_⟩
      · have hi : i < len := by have := (List.getElem?_eq_some_iff.1 ht).1; simpa using this
        rw [List.getElem?_map, List.getElem?_range hi] at ht
        simp at ht
        subst ht
        have := hf i (by omega)
        rw [Addr.add_mid, Addr.add_mid] at this
        exact this
      · have := hw ((len + (m - len)) * 24) (by
          rw [hy]
          simp only [DataW.weights, Tryz.underlying22, Tryz.bytes82, List.mem_cons, List.length_map, List.length_range]
          exact .inl trivial)
        simp only [List.length_map, List.length_range]
        omega
/-- The tags of a best order, as they lie. -/
def TagsOf (W : World) (b : Bv) : Prop := ∃ T, Tp W (.slice b.ta b.tn b.tc) T
def b5 (b : Bv) : List Value := [.int .i64 b.n, .int .i64 b.v, .string (bs b.t), .int .i64 b.g, .slice b.ta b.tn b.tc]
theorem list5 {cs : List Value} (h : cs.length = 5) : ∃ c0 c1 c2 c3 c4, cs = [c0, c1, c2, c3, c4] := by
  match cs, h with
  | [c0, c1, c2, c3, c4], _ => exact ⟨c0, c1, c2, c3, c4, rfl⟩
theorem list6 {cs : List Value} (h : cs.length = 6) : ∃ c0 c1 c2 c3 c4 c5, cs = [c0, c1, c2, c3, c4, c5] := by
  match cs, h with
  | [c0, c1, c2, c3, c4, c5], _ => exact ⟨c0, c1, c2, c3, c4, c5, rfl⟩
theorem list3 {α : Type} {xs : List α} (h : xs.length = 3) : ∃ y0 y1 y2, xs = [y0, y1, y2] := by
  match xs, h with
  | [y0, y1, y2], _ => exact ⟨y0, y1, y2, rfl⟩
theorem list4 {α : Type} {xs : List α} (h : xs.length = 4) : ∃ y0 y1 y2 y3, xs = [y0, y1, y2, y3] := by
  match xs, h with
  | [y0, y1, y2, y3], _ => exact ⟨y0, y1, y2, y3, rfl⟩
set_option maxRecDepth 100000 in
set_option maxHeartbeats 1000000 in
theorem open_best_cells {H : Type} {enc : TypeId × Value → H} {W : World} {fuel : Nat} {cs : List Value} {y : DataW H × List MemPlace} (h : DataW.trod enc Tryz.prog W 0 (fun _ => true) true fuel 34 cs = some y) :
    ∃ b : Bv, cs = b5 b ∧ TagsOf W b := by
  obtain ⟨xs, n, _, rfl, hl, hlen, hf⟩ := DataW.trod_struct Tryz.underlying34 h
  rw [Tryz.cells34] at hl
  obtain ⟨c0, c1, c2, c3, c4, rfl⟩ := list5 hl
  obtain ⟨y0, y1, y2, rfl⟩ := list3 (by simpa using hlen)
  have h0 := hf 0 _ rfl
  have h1 := hf 1 _ rfl
  have h2 := hf 2 _ rfl
  simp [Tryz.cells3, Tryz.cells24] at h0 h1 h2
  obtain ⟨a0, e0, _, _⟩ := DataW.trod_int Tryz.underlying3 h0
  obtain ⟨a1, e1, _, _⟩ := DataW.trod_int Tryz.underlying3 h1
  obtain ⟨z0, z1, z2, n2, hag, _, t0, t1, t2⟩ := trod_struct3 Tryz.underlying24 h2
  simp [Tryz.cells3, Tryz.cells9, Tryz.cells22] at t0 t1 t2
  obtain ⟨a5, e5, _, _⟩ := DataW.trod_string Tryz.underlying9 t0
  obtain ⟨a6, e6, _, _⟩ := DataW.trod_int Tryz.underlying3 t1
  obtain ⟨l, hT, _⟩ := open_tags t2
  simp at e0 e1 e5 e6
  subst e0 e1 e5 e6
  obtain ⟨ta, tc, rfl⟩ := hT.tl.slice
  exact ⟨⟨a0, a1, a5.data.toList, a6, ta, l.length, tc⟩, by simp [b5, bs_data], l, hT⟩
set_option maxRecDepth 100000 in
set_option maxHeartbeats 1000000 in
theorem open_bests {H : Type} {enc : TypeId × Value → H} {W : World} {fuel : Nat} {v : Value} {y : DataW H × List MemPlace} (h : DataW.trod enc Tryz.prog W 0 (fun _ => true) true fuel 25 [v] = some y) :
    ∃ l : List Bv, Bl W.heap.size W v l ∧ (∀ b ∈ l, TagsOf W b) ∧ ((∀ m ∈ y.1.weights Tryz.prog 25, m ≤ reachBytes) → l.length * 64 ≤ reachBytes) := by
  rcases open_slice Tryz.underlying25 h with ⟨hcs, _⟩ | ⟨x, len, cap, m, n, D, Pl, hcs, _, hl, hm, hmm, hdd, hx⟩
  · simp at hcs
    subst hcs
    exact ⟨[], .inl ⟨rfl, none, 0, rfl⟩, by simp, fun _ => by simp⟩
  · simp at hcs
    subst hcs
    have hmc : m = cap := by simpa using hmm
    subst hmc
    by_cases h0 : len = 0
    · subst h0; exact ⟨[], .inl ⟨rfl, _, _, rfl⟩, by simp, fun _ => by simp⟩
    · have each : ∀ i, i < m → ∃ s : Bv, (∀ k u, (b5 s)[k]? = some u → W.cell? (x.add (i * 5 + k)) = some u) ∧ TagsOf W s := by
        intro i hi
        obtain ⟨cs', h1, h2⟩ := hx i hi
        rw [Tryz.cells34] at h1
        obtain ⟨_, hlen, hcell⟩ := World.cells?_some h1
        obtain ⟨s, e1, e2⟩ := open_best_cells h2
        refine ⟨s, fun k u hu => ?_, e2⟩
        have hk : k < 5 := by
          have := (List.getElem?_eq_some_iff.1 hu).1
          simpa [b5] using this
        have := hcell k hk
        rw [Addr.add_add] at this
        rw [this, e1]
        exact hu
      obtain ⟨b, off, spot⟩ := x
      obtain ⟨s0, hc0, _⟩ := each 0 (by omega)
      have hc00 := hc0 0 _ rfl
      have hspot : spot = none := by simpa [Addr.add] using World.cell?_spot hc00
      subst hspot
      have hbb : b < W.heap.size := by simpa [Addr.add] using World.block_lt_of_cell? W _ hc00
      obtain ⟨f, hf⟩ : ∃ f : Nat → Bv, ∀ i, i < m → (∀ k u, (b5 (f i))[k]? = some u → W.cell? ((⟨b, off, none⟩ : Addr).add (i * 5 + k)) = some u) ∧ TagsOf W (f i) :=
        ⟨fun i => if h : i < m then (each i h).choose else ⟨0, 0, [], 0, none, 0, 0⟩, fun i hi => by simp only [dif_pos hi]; exact (each i hi).choose_spec⟩
      refine ⟨(List.range len).map f, .inr ⟨b, off, m, by simp, hbb, fun i s hs => ?_⟩, fun s hs => ?_, fun hw => ?_⟩
      · have hi : i < len := by have := (List.getElem?_eq_some_iff.1 hs).1; simpa using this
        rw [List.getElem?_map, List.getElem?_range hi] at hs
        simp at hs
        subst hs
        have g1 := (hf i (by omega)).1
        have q : ∀ k u, (b5 (f i))[k]? = some u → W.cell? ⟨b, off + i * 5 + k, none⟩ = some u := fun k u hu => by
          have := g1 k u hu
          rw [Addr.add_mid] at this
          rw [Nat.add_assoc]
          exact this
        exact ⟨q 0 _ rfl, q 1 _ rfl, q 2 _ rfl, q 3 _ rfl, q 4 _ rfl⟩
      · obtain ⟨i, hi, rfl⟩ := List.mem_map.1 hs
        exact (hf i (by have := List.mem_range.1 hi; omega)).2
      · have := hw ((len + (m - len)) * 64) (by
          rw [hdd]
          simp only [DataW.weights, Tryz.underlying25, Tryz.bytes34, List.mem_cons, List.length_map, List.length_range]
          exact .inl trivial)
        simp only [List.length_map, List.length_range]
        omega
set_option maxRecDepth 100000 in
set_option maxHeartbeats 1000000 in
theorem open_change_cells {H : Type} {enc : TypeId × Value → H} {W : World} {fuel : Nat} {cs : List Value} {y : DataW H × List MemPlace} (h : DataW.trod enc Tryz.prog W 0 (fun _ => true) true fuel 27 cs = some y) :
    ∃ c : Cv, cs = c6 c ∧ Bl W.heap.size W c.bv c.bl ∧ (∀ b ∈ c.bl, TagsOf W b) ∧ (∃ T, Tp W (.slice c.ma c.mn c.mc) T) ∧ ((∀ m ∈ y.1.weights Tryz.prog 27, m ≤ reachBytes) → c.bl.length * 64 ≤ reachBytes) := by
  obtain ⟨xs, n, _, rfl, hl, hlen, hf⟩ := DataW.trod_struct Tryz.underlying27 h
  rw [Tryz.cells27] at hl
  obtain ⟨c0, c1, c2, c3, c4, c5, rfl⟩ := list6 hl
  obtain ⟨y0, y1, y2, y3, rfl⟩ := list4 (by simpa using hlen)
  have h0 := hf 0 _ rfl
  have h1 := hf 1 _ rfl
  have h2 := hf 2 _ rfl
  have h3 := hf 3 _ rfl
  simp [Tryz.cells3, Tryz.cells24, Tryz.cells25] at h0 h1 h2 h3
  obtain ⟨a0, e0, _, _⟩ := DataW.trod_int Tryz.underlying3 h0
  obtain ⟨a1, e1, _, _⟩ := DataW.trod_int Tryz.underlying3 h1
  obtain ⟨z0, z1, z2, n2, hag, _, t0, t1, t2⟩ := trod_struct3 Tryz.underlying24 h2
  simp [Tryz.cells3, Tryz.cells9, Tryz.cells22] at t0 t1 t2
  obtain ⟨a5, e5, _, _⟩ := DataW.trod_string Tryz.underlying9 t0
  obtain ⟨a6, e6, _, _⟩ := DataW.trod_int Tryz.underlying3 t1
  obtain ⟨l, hT, _⟩ := open_tags t2
  obtain ⟨bl, hB, hTg, hw3⟩ := open_bests h3
  simp at e0 e1 e5 e6
  subst e0 e1 e5 e6
  obtain ⟨ta, tc, rfl⟩ := hT.tl.slice
  refine ⟨⟨a0, a1, a5.data.toList, a6, ta, l.length, tc, c5, bl⟩, by simp [c6, bs_data], hB, hTg, ⟨l, hT⟩, fun hw => hw3 fun m hm => hw m ?_⟩
  have hwe : m ∈ DataW.weightsEach Tryz.prog [3, 3, 24, 25] [y0.1, y1.1, y2.1, y3.1] := by
    simp only [DataW.weightsEach, List.mem_append]
    exact .inr (.inr (.inr (.inl hm)))
  simp only [DataW.weights, Tryz.underlying27]
  exact hwe
set_option maxRecDepth 100000 in
theorem open_change {H : Type} {enc : TypeId × Value → H} {W : World} {base : Nat} {v : Value} {d : DataW H} {p : List MemPlace} (hval : Value.okWide Tryz.prog W .any base 27 v) (h : DataW.Trod enc Tryz.prog W 0 (fun _ => true) true 27 v d p) :
    ∃ c : Cv, v = .agg (c6 c).toArray ∧ Bl W.heap.size W c.bv c.bl ∧ (∀ b ∈ c.bl, TagsOf W b) ∧ (∃ T, Tp W (.slice c.ma c.mn c.mc) T) := by
  obtain ⟨cs, rfl, hcs⟩ := okWide_struct Tryz.underlying27 hval
  obtain ⟨fuel, hf⟩ := h
  obtain ⟨s, h1, h2, h3, h4, _⟩ := open_change_cells hf
  refine ⟨s, ?_, h2, h3, h4⟩
  simp [Value.cells] at h1
  rw [← h1]
end Go.Proofs.YtifalaigfinciaaGreatDoor
