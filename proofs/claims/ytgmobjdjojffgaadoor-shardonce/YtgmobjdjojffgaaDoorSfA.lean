/- Steps that came in, opened; large, walked. -/
import Derived.Test.YtgmobjdjojffgaaDoorTbU
import Derived.Test.YtgmobjdjojffgaaDoorSeD
namespace Go.Proofs.YtgmobjdjojffgaaDoor
open Go.ChangeShapes Go.WideShapes Go.ChangeAt Go.RowKit Go.Deep

/-- A slice of steps. -/
def Stl (w : World) (v : Value) (l : List St8) : Prop :=
  (l = [] ∧ ∃ a c, v = .slice a 0 c) ∨ ∃ b o cap, v = .slice (some ⟨b, o, none⟩) l.length cap ∧ b < w.heap.size ∧ ∀ (i : Nat) (s : St8), l[i]? = some s → ∀ (k : Nat) (u : Value), s.cells[k]? = some u → w.cell? ⟨b, o + i * 8 + k, none⟩ = some u
theorem Stl.on {w w' : World} {v : Value} {l : List St8} (h : Stl w v l) (hb : Below w.heap.size w w') : Stl w' v l := by
  rcases h with h | ⟨b, o, cap, rfl, h1, h2⟩
  · exact .inl h
  · exact .inr ⟨b, o, cap, rfl, Nat.lt_of_lt_of_le h1 hb.size, fun i s hs k u hu => (hb.cell (p := ⟨b, o + i * 8 + k, none⟩) h1).trans (h2 i s hs k u hu)⟩
theorem Stl.slice {w : World} {v : Value} {l : List St8} (h : Stl w v l) : ∃ a c, v = .slice a l.length c := by
  rcases h with ⟨rfl, a, c, rfl⟩ | ⟨b, o, cap, rfl, _⟩
  · exact ⟨a, c, rfl⟩
  · exact ⟨_, _, rfl⟩
theorem Stl.row {w : World} {a : Option Addr} {c : Nat} {l : List St8} (h : Stl w (.slice a l.length c) l) {i : Nat} {s : St8} (hs : l[i]? = some s) :
    ∃ b o, a = some ⟨b, o, none⟩ ∧ b < w.heap.size ∧ ∀ (k : Nat) (u : Value), s.cells[k]? = some u → w.cell? ⟨b, o + i * 8 + k, none⟩ = some u := by
  rcases h with ⟨rfl, _⟩ | ⟨b, o, cap, e, h1, h2⟩
  · simp at hs
  · simp only [Value.slice.injEq, true_and] at e
    obtain ⟨rfl, rfl⟩ := e
    exact ⟨b, o, rfl, h1, h2 i s hs⟩
set_option maxRecDepth 100000 in
set_option maxHeartbeats 1000000 in
theorem open_step_more {H : Type} {enc : TypeId × Value → H} {W : World} {fuel : Nat} {cs : List Value} {y : DataW H × List MemPlace} (h : DataW.trod enc Tryd.prog W 0 (fun _ => true) true fuel 44 cs = some y) :
    ∃ s : St8, cs = s.cells ∧ ∃ y0 y1 y2 y3, y.1 = .agg [y0, y1, y2, y3, .lit (.string s.t)] := by
  obtain ⟨xs, n, _, rfl, hl, hlen, hf⟩ := DataW.trod_struct Tryd.underlying44 h
  rw [Tryd.cells44] at hl
  obtain ⟨c0, c1, c2, c3, c4, c5, c6, c7, rfl⟩ := list8 hl
  obtain ⟨y0, y1, y2, y3, y4, rfl⟩ := list5' (by simpa using hlen)
  have h0 := hf 0 _ rfl
  have h1 := hf 1 _ rfl
  have h2 := hf 2 _ rfl
  have h3 := hf 3 _ rfl
  have h4 := hf 4 _ rfl
  simp [Tryd.cells3, Tryd.cells9, Tryd.cells42] at h0 h1 h2 h3 h4
  obtain ⟨a0, e0, _, _⟩ := DataW.trod_int Tryd.underlying3 h0
  obtain ⟨a1, e1, _, _⟩ := DataW.trod_int Tryd.underlying3 h1
  obtain ⟨a2, e2, _, _⟩ := DataW.trod_int Tryd.underlying3 h2
  obtain ⟨x, e3⟩ := open_op_cells h3
  obtain ⟨a4, e4, k4, _⟩ := DataW.trod_string Tryd.underlying9 h4
  simp [Op4.cells] at e0 e1 e2 e3 e4
  obtain ⟨e3, e5, e6, e7⟩ := e3
  subst e0 e1 e2 e3 e4 e5 e6 e7
  refine ⟨⟨a0, a1, a2, x, a4.data.toList⟩, by simp [St8.cells, bs_data], y0.1, y1.1, y2.1, y3.1, ?_⟩
  rw [k4]
  rfl
set_option maxRecDepth 100000 in
set_option maxHeartbeats 1000000 in
theorem open_steps {H : Type} {enc : TypeId × Value → H} {W : World} {base : Nat} {v : Value} {d : DataW H} {p : List MemPlace} {ts : List TypeId} {ds : List (DataW H)} {j : Nat} (hval : Value.okWide Tryd.prog W .any base 37 v) (h : DataW.Trod enc Tryd.prog W 0 (fun _ => true) true 37 v d p)
    (hsz : (DataW.weightsEach Tryd.prog ts ds).all (· ≤ reachBytes) = true) (ht : ts[j]? = some 37) (hd : ds[j]? = some d) : ∃ l : List St8, Stl W v l ∧ (∀ s ∈ l, s.t.length ≤ 140737488355328) ∧ l.length ≤ 9223372036854775807 := by
  obtain ⟨a, len, cap, rfl⟩ := okWide_slice Tryd.underlying37 hval
  obtain ⟨fuel, hf⟩ := h
  rcases open_slice Tryd.underlying37 hf with ⟨hcs, _⟩ | ⟨x, l, c, m, n, D, Pl, hcs, _, hl, hm, hmm, hdd, hx⟩
  · simp [Value.cells] at hcs
    obtain ⟨rfl, rfl, rfl⟩ := hcs
    exact ⟨[], .inl ⟨rfl, none, 0, rfl⟩, by simp, by simp⟩
  · simp [Value.cells] at hcs
    obtain ⟨rfl, rfl, rfl⟩ := hcs
    have hmc : m = cap := by simpa using hmm
    subst hmc
    by_cases h0 : len = 0
    · subst h0; exact ⟨[], .inl ⟨rfl, _, _, rfl⟩, by simp, by simp⟩
    · have each : ∀ i, i < m → ∃ s : St8, (∀ (k : Nat) (u : Value), s.cells[k]? = some u → W.cell? (x.add (i * 8 + k)) = some u) ∧ ∃ y0 y1 y2 y3, D i = .agg [y0, y1, y2, y3, .lit (.string s.t)] := by
        intro i hi
        obtain ⟨cs', h1, h2⟩ := hx i hi
        rw [Tryd.cells44] at h1
        obtain ⟨_, hlen, hcell⟩ := World.cells?_some h1
        obtain ⟨s, e1, hy⟩ := open_step_more h2
        refine ⟨s, fun k u hu => ?_, hy⟩
        have hk : k < 8 := by
          have := (List.getElem?_eq_some_iff.1 hu).1
          simpa [St8.cells] using this
        have := hcell k hk
        rw [Addr.add_add] at this
        rw [this, e1]
        exact hu
      obtain ⟨b, off, spot⟩ := x
      obtain ⟨s0, hc0, _⟩ := each 0 (by omega)
      have hc00 := hc0 0 _ rfl
      have hspot : spot = none := by simpa [Addr.add] using World.cell?_spot hc00
      subst hspot
      have hbb : b < W.heap.size := by simpa [Addr.add] using World.block_lt_of_cell? W _ hc00
      obtain ⟨f, hf⟩ : ∃ f : Nat → St8, ∀ i, i < m → (∀ (k : Nat) (u : Value), (f i).cells[k]? = some u → W.cell? ((⟨b, off, none⟩ : Addr).add (i * 8 + k)) = some u) ∧ ∃ y0 y1 y2 y3, D i = .agg [y0, y1, y2, y3, .lit (.string (f i).t)] :=
        ⟨fun i => if h : i < m then (each i h).choose else ⟨0, 0, 0, ⟨0, [], [], []⟩, []⟩, fun i hi => by simp only [dif_pos hi]; exact (each i hi).choose_spec⟩
      refine ⟨(List.range len).map f, .inr ⟨b, off, m, by simp, hbb, fun i s hs k u hu => ?_⟩, fun s hs => ?_, by unfold maxLen at hm; simp; omega⟩
      · have hi : i < len := by have := (List.getElem?_eq_some_iff.1 hs).1; simpa using this
        rw [List.getElem?_map, List.getElem?_range hi] at hs
        simp at hs
        subst hs
        have := (hf i (by omega)).1 k u hu
        rw [Addr.add_mid] at this
        rw [Nat.add_assoc]
        exact this
      · obtain ⟨i, hi, rfl⟩ := List.mem_map.1 hs
        have hil := List.mem_range.1 hi
        obtain ⟨y0, y1, y2, y3, hDi⟩ := (hf i (by omega)).2
        have hw : (f i).t.length ∈ (DataW.agg [y0, y1, y2, y3, .lit (.string (f i).t)]).weights Tryd.prog 44 := by
          simp only [DataW.weights, Tryd.underlying44]
          simp [DataW.weightsEach, DataW.weights]
        have hm2 : D i ∈ (List.range len).map D := List.mem_map.2 ⟨i, hi, rfl⟩
        have hd2 := congrArg Prod.fst hdd
        simp only at hd2
        have hwt : (f i).t.length ≤ reachBytes := by
          refine of_decide_eq_true (List.all_eq_true.1 hsz _ (DataW.weights_mem_each ht (hd2 ▸ hd) _ ?_))
          simp only [DataW.weights, Tryd.underlying37, List.mem_cons, List.mem_append]
          exact Or.inr (Or.inl (weightsAll_mem hm2 _ (by rw [hDi]; exact hw)))
        unfold reachBytes at hwt
        omega
end Go.Proofs.YtgmobjdjojffgaaDoor
