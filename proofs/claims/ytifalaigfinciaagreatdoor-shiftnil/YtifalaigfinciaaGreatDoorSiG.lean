/- A change that came in, opened, with its tags and its numbers' ranges. -/
import Derived.Test.YtifalaigfinciaaGreatDoorShU
import Derived.Test.YtifalaigfinciaaGreatDoorShY
namespace Go.Proofs.YtifalaigfinciaaGreatDoor
open Go.ChangeShapes Go.WideShapes Go.ChangeAt Go.RowKit Go.Deep

set_option maxRecDepth 100000 in
set_option maxHeartbeats 1000000 in
theorem open_entry_cells {H : Type} {enc : TypeId × Value → H} {W : World} {fuel : Nat} {cs : List Value} {y : DataW H × List MemPlace} (h : DataW.trod enc Tryz.prog W 0 (fun _ => true) true fuel 34 cs = some y) :
    ∃ (b : Bq) (ta : Option Addr) (tc : Nat), cs = [.int .i64 b.n, .int .i64 b.v, .string (bs b.x), .int .i64 b.g, .slice ta b.T.length tc] ∧ Tl W (.slice ta b.T.length tc) b.T ∧ wf64 b.n ∧ wf64 b.v := by
  obtain ⟨xs, n, _, rfl, hl, hlen, hf⟩ := DataW.trod_struct Tryz.underlying34 h
  rw [Tryz.cells34] at hl
  obtain ⟨c0, c1, c2, c3, c4, rfl⟩ := list5 hl
  obtain ⟨y0, y1, y2, rfl⟩ := list3 (by simpa using hlen)
  have h0 := hf 0 _ rfl
  have h1 := hf 1 _ rfl
  have h2 := hf 2 _ rfl
  simp [Tryz.cells3, Tryz.cells24] at h0 h1 h2
  obtain ⟨a0, e0, _, w0⟩ := DataW.trod_int Tryz.underlying3 h0
  obtain ⟨a1, e1, _, w1⟩ := DataW.trod_int Tryz.underlying3 h1
  obtain ⟨z0, z1, z2, n2, hag, _, t0, t1, t2⟩ := trod_struct3 Tryz.underlying24 h2
  simp [Tryz.cells3, Tryz.cells9, Tryz.cells22] at t0 t1 t2
  obtain ⟨a5, e5, _, _⟩ := DataW.trod_string Tryz.underlying9 t0
  obtain ⟨a6, e6, _, _⟩ := DataW.trod_int Tryz.underlying3 t1
  obtain ⟨l, hT, _⟩ := open_tags t2
  simp at e0 e1 e5 e6
  subst e0 e1 e5 e6
  obtain ⟨ta, tc, rfl⟩ := hT.tl.slice
  exact ⟨⟨a0, a1, a5.data.toList, a6, l⟩, ta, tc, by simp [bs_data], hT.tl, int_range w0, int_range w1⟩
set_option maxRecDepth 100000 in
set_option maxHeartbeats 1000000 in
theorem open_entries {H : Type} {enc : TypeId × Value → H} {W : World} {fuel : Nat} {v : Value} {y : DataW H × List MemPlace} (h : DataW.trod enc Tryz.prog W 0 (fun _ => true) true fuel 25 [v] = some y) :
    ∃ l : List Bq, Ml W.heap.size W v l ∧ ∀ b ∈ l, wf64 b.n ∧ wf64 b.v := by
  rcases open_slice Tryz.underlying25 h with ⟨hcs, _⟩ | ⟨x, len, cap, m, n, D, Pl, hcs, _, hl, hm, hmm, hdd, hx⟩
  · simp at hcs
    subst hcs
    exact ⟨[], .inl ⟨rfl, none, 0, rfl⟩, by simp⟩
  · simp at hcs
    subst hcs
    have hmc : m = cap := by simpa using hmm
    subst hmc
    by_cases h0 : len = 0
    · subst h0; exact ⟨[], .inl ⟨rfl, _, _, rfl⟩, by simp⟩
    · have each : ∀ i, i < m → ∃ s : Bq × Option Addr × Nat, (∀ k u, [Value.int .i64 s.1.n, .int .i64 s.1.v, .string (bs s.1.x), .int .i64 s.1.g, .slice s.2.1 s.1.T.length s.2.2][k]? = some u → W.cell? (x.add (i * 5 + k)) = some u) ∧ Tl W (.slice s.2.1 s.1.T.length s.2.2) s.1.T ∧ wf64 s.1.n ∧ wf64 s.1.v := by
        intro i hi
        obtain ⟨cs', h1, h2⟩ := hx i hi
        rw [Tryz.cells34] at h1
        obtain ⟨_, hlen, hcell⟩ := World.cells?_some h1
        obtain ⟨s, ta, tc, e1, e2, e3⟩ := open_entry_cells h2
        refine ⟨(s, ta, tc), fun k u hu => ?_, e2, e3⟩
        have hk : k < 5 := by
          have := (List.getElem?_eq_some_iff.1 hu).1
          simpa using this
        have := hcell k hk
        rw [Addr.add_add] at this
        rw [this, e1]
        exact hu
      obtain ⟨b, off, spot⟩ := x
      obtain ⟨s0, hc0, _⟩ := each 0 (by omega)
      have hc00 := hc0 0 _ rfl
      have hspot : spot = none := by simpa [Addr.add] using World.cell?_spot hc00
      subst hspot
      have hbb : b < W.heap.size := by simpa [Addr.add] using World.block_lt_of_cell? W _ hc00
      obtain ⟨f, hf⟩ : ∃ f : Nat → Bq × Option Addr × Nat, ∀ i, i < m → (∀ k u, [Value.int .i64 (f i).1.n, .int .i64 (f i).1.v, .string (bs (f i).1.x), .int .i64 (f i).1.g, .slice (f i).2.1 (f i).1.T.length (f i).2.2][k]? = some u → W.cell? ((⟨b, off, none⟩ : Addr).add (i * 5 + k)) = some u) ∧ Tl W (.slice (f i).2.1 (f i).1.T.length (f i).2.2) (f i).1.T ∧ wf64 (f i).1.n ∧ wf64 (f i).1.v :=
        ⟨fun i => if h : i < m then (each i h).choose else (⟨0, 0, [], 0, []⟩, none, 0), fun i hi => by simp only [dif_pos hi]; exact (each i hi).choose_spec⟩
      refine ⟨(List.range len).map fun i => (f i).1, .inr ⟨b, off, m, by simp, hbb, fun i s hs => ?_⟩, fun s hs => ?_⟩
      · have hi : i < len := by have := (List.getElem?_eq_some_iff.1 hs).1; simpa using this
        rw [List.getElem?_map, List.getElem?_range hi] at hs
        simp at hs
        subst hs
        obtain ⟨g1, g2, _⟩ := hf i (by omega)
        have q : ∀ k u, [Value.int .i64 (f i).1.n, .int .i64 (f i).1.v, .string (bs (f i).1.x), .int .i64 (f i).1.g, .slice (f i).2.1 (f i).1.T.length (f i).2.2][k]? = some u → W.cell? ⟨b, off + i * 5 + k, none⟩ = some u := fun k u hu => by
          have := g1 k u hu
          rw [Addr.add_mid] at this
          rw [Nat.add_assoc]
          exact this
        exact ⟨_, _, q 0 _ rfl, q 1 _ rfl, q 2 _ rfl, q 3 _ rfl, q 4 _ rfl, g2⟩
      · obtain ⟨i, hi, rfl⟩ := List.mem_map.1 hs
        exact (hf i (by have := List.mem_range.1 hi; omega)).2.2
/-- Entries that lie so, as best orders whose tags are not looked at. -/
theorem Ml.bl {n : Nat} {W : World} {v : Value} {l : List Bq} (h : Ml n W v l) : ∃ bl : List Bv, Bl n W v bl ∧ bl.map (fun b => (b.t, b.tn)) = l.map (fun b => (b.x, b.T.length)) := by
  rcases h with ⟨rfl, h⟩ | ⟨b, o, cap, rfl, hlt, h⟩
  · exact ⟨[], .inl ⟨rfl, h⟩, rfl⟩
  · have each : ∀ i, i < l.length → ∃ x : Bv, (W.cell? ⟨b, o + i * 5, none⟩ = some (.int .i64 x.n) ∧ W.cell? ⟨b, o + i * 5 + 1, none⟩ = some (.int .i64 x.v) ∧ W.cell? ⟨b, o + i * 5 + 2, none⟩ = some (.string (bs x.t)) ∧ W.cell? ⟨b, o + i * 5 + 3, none⟩ = some (.int .i64 x.g) ∧ W.cell? ⟨b, o + i * 5 + 4, none⟩ = some (.slice x.ta x.tn x.tc)) ∧ (l.map (fun b => (b.x, b.T.length)))[i]? = some (x.t, x.tn) := by
      intro i hi
      obtain ⟨e, he⟩ : ∃ e, l[i]? = some e := ⟨_, List.getElem?_eq_getElem hi⟩
      obtain ⟨ta, tc, h0, h1, h2, h3, h4, _⟩ := h i e he
      exact ⟨⟨e.n, e.v, e.x, e.g, ta, e.T.length, tc⟩, ⟨h0, h1, h2, h3, h4⟩, by rw [List.getElem?_map, he]; rfl⟩
    obtain ⟨f, hf⟩ : ∃ f : Nat → Bv, ∀ i, i < l.length → (W.cell? ⟨b, o + i * 5, none⟩ = some (.int .i64 (f i).n) ∧ W.cell? ⟨b, o + i * 5 + 1, none⟩ = some (.int .i64 (f i).v) ∧ W.cell? ⟨b, o + i * 5 + 2, none⟩ = some (.string (bs (f i).t)) ∧ W.cell? ⟨b, o + i * 5 + 3, none⟩ = some (.int .i64 (f i).g) ∧ W.cell? ⟨b, o + i * 5 + 4, none⟩ = some (.slice (f i).ta (f i).tn (f i).tc)) ∧ (l.map (fun b => (b.x, b.T.length)))[i]? = some ((f i).t, (f i).tn) :=
      ⟨fun i => if h : i < l.length then (each i h).choose else ⟨0, 0, [], 0, none, 0, 0⟩, fun i hi => by simp only [dif_pos hi]; exact (each i hi).choose_spec⟩
    refine ⟨(List.range l.length).map f, .inr ⟨b, o, cap, by simp, hlt, fun i x hx => ?_⟩, ?_⟩
    · have hi : i < l.length := by have := (List.getElem?_eq_some_iff.1 hx).1; simpa using this
      rw [List.getElem?_map, List.getElem?_range hi] at hx
      simp at hx
      subst hx
      exact (hf i hi).1
    · refine List.ext_getElem? fun i => ?_
      by_cases hi : i < l.length
      · rw [(hf i hi).2, List.map_map, List.getElem?_map, List.getElem?_range hi]; rfl
      · rw [List.getElem?_eq_none (by simpa using hi), List.getElem?_eq_none (by simpa using hi)]
set_option maxRecDepth 100000 in
set_option maxHeartbeats 1000000 in
theorem open_change2 {H : Type} {enc : TypeId × Value → H} {W : World} {base : Nat} {v : Value} {d : DataW H} {p : List MemPlace} (hval : Value.okWide Tryz.prog W .any base 27 v) (h : DataW.Trod enc Tryz.prog W 0 (fun _ => true) true 27 v d p) :
    ∃ (c : Bq) (l : List Bq) (ma : Option Addr) (mc : Nat) (bu : Value), v = .agg #[.int .i64 c.n, .int .i64 c.v, .string (bs c.x), .int .i64 c.g, .slice ma c.T.length mc, bu] ∧ Tl W (.slice ma c.T.length mc) c.T ∧ Ml W.heap.size W bu l ∧ ∀ b ∈ c :: l, wf64 b.n ∧ wf64 b.v := by
  obtain ⟨cs, rfl, hcs⟩ := okWide_struct Tryz.underlying27 hval
  obtain ⟨fuel, hf0⟩ := h
  obtain ⟨xs, n, _, _, hl, hlen, hf⟩ := DataW.trod_struct Tryz.underlying27 hf0
  rw [Tryz.cells27] at hl
  obtain ⟨c0, c1, c2, c3, c4, c5, hc⟩ := list6 hl
  obtain ⟨y0, y1, y2, y3, rfl⟩ := list4 (by simpa using hlen)
  rw [hc] at hf
  have h0 := hf 0 _ rfl
  have h1 := hf 1 _ rfl
  have h2 := hf 2 _ rfl
  have h3 := hf 3 _ rfl
  simp [Tryz.cells3, Tryz.cells24, Tryz.cells25] at h0 h1 h2 h3
  obtain ⟨a0, e0, _, w0⟩ := DataW.trod_int Tryz.underlying3 h0
  obtain ⟨a1, e1, _, w1⟩ := DataW.trod_int Tryz.underlying3 h1
  obtain ⟨z0, z1, z2, n2, hag, _, t0, t1, t2⟩ := trod_struct3 Tryz.underlying24 h2
  simp [Tryz.cells3, Tryz.cells9, Tryz.cells22] at t0 t1 t2
  obtain ⟨a5, e5, _, _⟩ := DataW.trod_string Tryz.underlying9 t0
  obtain ⟨a6, e6, _, _⟩ := DataW.trod_int Tryz.underlying3 t1
  obtain ⟨T, hT, _⟩ := open_tags t2
  obtain ⟨l, hM, hw⟩ := open_entries h3
  simp at e0 e1 e5 e6
  subst e0 e1 e5 e6
  obtain ⟨ta, tc, rfl⟩ := hT.tl.slice
  refine ⟨⟨a0, a1, a5.data.toList, a6, T⟩, l, ta, tc, c5, ?_, hT.tl, hM, fun b hb => ?_⟩
  · simp [Value.cells] at hc
    refine congrArg Value.agg (Array.ext' ?_)
    rw [hc]
    simp [bs_data]
  · rcases List.mem_cons.1 hb with rfl | hb
    · exact ⟨int_range w0, int_range w1⟩
    · exact hw b hb
end Go.Proofs.YtifalaigfinciaaGreatDoor
