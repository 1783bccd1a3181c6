/- Calls and points that came in, opened, with what they weigh. -/
import Derived.Test.YtihilkdokfdoeaaDoorPrU
namespace Go.Proofs.YtihilkdokfdoeaaDoor
open Go.ChangeShapes Go.WideShapes Go.ChangeAt Go.RowKit Go.Deep

theorem Tryd.cells49 : Tryd.prog.cellsOf 49 = 2 := by kernel_rfl
theorem Tryd.cells27 : Tryd.prog.cellsOf 27 = 1 := by kernel_rfl
theorem Tryd.cells51 : Tryd.prog.cellsOf 51 = 10 := by kernel_rfl
theorem Tryd.cells56 : Tryd.prog.cellsOf 56 = 5 := by kernel_rfl
theorem list10 {cs : List Value} (h : cs.length = 10) : ∃ c0 c1 c2 c3 c4 c5 c6 c7 c8 c9, cs = [c0, c1, c2, c3, c4, c5, c6, c7, c8, c9] := by
  match cs, h with
  | [c0, c1, c2, c3, c4, c5, c6, c7, c8, c9], _ => exact ⟨c0, c1, c2, c3, c4, c5, c6, c7, c8, c9, rfl⟩
theorem list5 {cs : List Value} (h : cs.length = 5) : ∃ c0 c1 c2 c3 c4, cs = [c0, c1, c2, c3, c4] := by
  match cs, h with
  | [c0, c1, c2, c3, c4], _ => exact ⟨c0, c1, c2, c3, c4, rfl⟩
theorem list2 {cs : List Value} (h : cs.length = 2) : ∃ c0 c1, cs = [c0, c1] := by
  match cs, h with
  | [c0, c1], _ => exact ⟨c0, c1, rfl⟩
theorem list6' {α : Type} {xs : List α} (h : xs.length = 6) : ∃ y0 y1 y2 y3 y4 y5, xs = [y0, y1, y2, y3, y4, y5] := by
  match xs, h with
  | [y0, y1, y2, y3, y4, y5], _ => exact ⟨y0, y1, y2, y3, y4, y5, rfl⟩
theorem list2' {α : Type} {xs : List α} (h : xs.length = 2) : ∃ y0 y1, xs = [y0, y1] := by
  match xs, h with
  | [y0, y1], _ => exact ⟨y0, y1, rfl⟩

set_option maxRecDepth 100000 in
set_option maxHeartbeats 1000000 in
theorem open_an_cells {H : Type} {enc : TypeId × Value → H} {W : World} {fuel : Nat} {cs : List Value} {y : DataW H × List MemPlace} (h : DataW.trod enc Tryd.prog W 0 (fun _ => true) true fuel 49 cs = some y) :
    ∃ a : An, cs = acs a := by
  obtain ⟨xs, n, _, rfl, hl, hlen, hf⟩ := DataW.trod_struct Tryd.underlying49 h
  rw [Tryd.cells49] at hl
  obtain ⟨c0, c1, rfl⟩ := list2 hl
  obtain ⟨y0, y1, rfl⟩ := list2' (by simpa using hlen)
  have h0 := hf 0 _ rfl
  have h1 := hf 1 _ rfl
  simp [Tryd.cells27, Tryd.cells9] at h0 h1
  obtain ⟨a0, e0, _, _⟩ := DataW.trod_int Tryd.underlying27 h0
  obtain ⟨a1, e1, _, _⟩ := DataW.trod_string Tryd.underlying9 h1
  simp at e0 e1
  subst e0 e1
  exact ⟨(a1.data.toList, a0), by simp [acs, bs_data]⟩
set_option maxRecDepth 100000 in
set_option maxHeartbeats 1000000 in
theorem open_call_cells {H : Type} {enc : TypeId × Value → H} {W : World} {fuel : Nat} {cs : List Value} {y : DataW H × List MemPlace} (h : DataW.trod enc Tryd.prog W 0 (fun _ => true) true fuel 51 cs = some y) :
    ∃ c : Cl, cs = ccs c ∧ wfK (ck c) ∧ c.op.k.length ∈ y.1.weights Tryd.prog 51 := by
  obtain ⟨xs, n, _, rfl, hl, hlen, hf⟩ := DataW.trod_struct Tryd.underlying51 h
  rw [Tryd.cells51] at hl
  obtain ⟨c0, c1, c2, c3, c4, c5, c6, c7, c8, c9, rfl⟩ := list10 hl
  obtain ⟨y0, y1, y2, y3, y4, y5, rfl⟩ := list6' (by simpa using hlen)
  have h0 := hf 0 _ rfl
  have h1 := hf 1 _ rfl
  have h2 := hf 2 _ rfl
  have h3 := hf 3 _ rfl
  have h4 := hf 4 _ rfl
  have h5 := hf 5 _ rfl
  simp [Tryd.cells3, Tryd.cells47, Tryd.cells49] at h0 h1 h2 h3 h4 h5
  obtain ⟨a0, e0, _, w0⟩ := DataW.trod_int Tryd.underlying3 h0
  obtain ⟨a1, e1, _, w1⟩ := DataW.trod_int Tryd.underlying3 h1
  obtain ⟨s, e2, hwt⟩ := open_op_cells h2
  obtain ⟨a3, e3, _, _⟩ := DataW.trod_int Tryd.underlying3 h3
  obtain ⟨a4, e4, _, _⟩ := DataW.trod_int Tryd.underlying3 h4
  obtain ⟨a5, e5⟩ := open_an_cells h5
  simp [ocs, acs] at e0 e1 e2 e3 e4 e5
  obtain ⟨f0, f1, f2, f3⟩ := e2
  obtain ⟨f4, f5⟩ := e5
  subst e0 e1 e3 e4 f0 f1 f2 f3 f4 f5
  refine ⟨⟨a0, a1, s, a3, a4, a5⟩, rfl, ⟨w0, w1⟩, ?_⟩
  simp [DataW.weights, DataW.weightsEach, Tryd.underlying51]
  exact Or.inr (Or.inr (Or.inl hwt))
set_option maxRecDepth 100000 in
set_option maxHeartbeats 1000000 in
theorem open_pt_cells {H : Type} {enc : TypeId × Value → H} {W : World} {fuel : Nat} {cs : List Value} {y : DataW H × List MemPlace} (h : DataW.trod enc Tryd.prog W 0 (fun _ => true) true fuel 56 cs = some y) :
    ∃ p : Pt, cs = pks p ∧ wfK (pk2 p) := by
  obtain ⟨xs, n, _, rfl, hl, hlen, hf⟩ := DataW.trod_struct Tryd.underlying56 h
  rw [Tryd.cells56] at hl
  obtain ⟨c0, c1, c2, c3, c4, rfl⟩ := list5 hl
  obtain ⟨y0, y1, y2, y3, rfl⟩ := list4' (by simpa using hlen)
  have h0 := hf 0 _ rfl
  have h1 := hf 1 _ rfl
  have h2 := hf 2 _ rfl
  have h3 := hf 3 _ rfl
  simp [Tryd.cells3, Tryd.cells49] at h0 h1 h2 h3
  obtain ⟨a0, e0, _, _⟩ := DataW.trod_int Tryd.underlying3 h0
  obtain ⟨a1, e1, _, w1⟩ := DataW.trod_int Tryd.underlying3 h1
  obtain ⟨a2, e2, _, w2⟩ := DataW.trod_int Tryd.underlying3 h2
  obtain ⟨a3, e3⟩ := open_an_cells h3
  simp [acs] at e0 e1 e2 e3
  obtain ⟨f4, f5⟩ := e3
  subst e0 e1 e2 f4 f5
  exact ⟨⟨a0, a1, a2, a3⟩, rfl, w1, w2⟩
set_option maxRecDepth 100000 in
set_option maxHeartbeats 1000000 in
/-- A slice of structs whose elements open. -/
theorem open_structs {α : Type} {f : α → List Value} {s : Nat} {Q : α → Prop} (a0 : α) {H : Type} {enc : TypeId × Value → H} {W : World} {base : Nat} {v : Value} {d : DataW H} {p : List MemPlace} {T e : TypeId} (hT : Tryd.prog.underlying T = some (.slice e)) (hs : Tryd.prog.cellsOf e = s) (hs0 : 0 < s) (hf : ∀ a, (f a).length = s)
    (ho : ∀ {fuel : Nat} {cs : List Value} {y : DataW H × List MemPlace}, DataW.trod enc Tryd.prog W 0 (fun _ => true) true fuel e cs = some y → ∃ a, cs = f a ∧ Q a)
    (hval : Value.okWide Tryd.prog W .any base T v) (h : DataW.Trod enc Tryd.prog W 0 (fun _ => true) true T v d p) :
    ∃ l : List α, SlF f s W v l ∧ ∀ a ∈ l, Q a := by
  obtain ⟨a, len, cap, rfl⟩ := okWide_slice hT hval
  obtain ⟨fuel, hfu⟩ := h
  rcases open_slice hT hfu with ⟨hcs, _⟩ | ⟨x, l, c, m, n, D, Pl, hcs, _, hl, hm, hmm, hdd, hx⟩
  · simp [Value.cells] at hcs
    obtain ⟨rfl, rfl, rfl⟩ := hcs
    exact ⟨[], .inl ⟨rfl, none, 0, rfl⟩, fun o ho => by cases ho⟩
  · simp [Value.cells] at hcs
    obtain ⟨rfl, rfl, rfl⟩ := hcs
    have hmc : m = cap := by simpa using hmm
    subst hmc
    by_cases h0 : len = 0
    · subst h0; exact ⟨[], .inl ⟨rfl, _, _, rfl⟩, fun o ho => by cases ho⟩
    · have each : ∀ i, i < m → ∃ z : α, (∀ k u, (f z)[k]? = some u → W.cell? (x.add (i * s + k)) = some u) ∧ Q z := by
        intro i hi
        obtain ⟨cs', h1, h2⟩ := hx i hi
        rw [hs] at h1
        obtain ⟨_, hlen, hcell⟩ := World.cells?_some h1
        obtain ⟨z, e1, e2⟩ := ho h2
        refine ⟨z, fun k u hu => ?_, e2⟩
        have hk : k < s := by
          have := (List.getElem?_eq_some_iff.1 hu).1
          rw [hf] at this
          exact this
        have := hcell k hk
        rw [Addr.add_add] at this
        rw [this, e1]
        exact hu
      obtain ⟨b, off, spot⟩ := x
      obtain ⟨s0, hc0, _⟩ := each 0 (by omega)
      obtain ⟨u0, hu0⟩ : ∃ u, (f s0)[0]? = some u := ⟨_, List.getElem?_eq_getElem (by rw [hf]; exact hs0)⟩
      have hc00 := hc0 0 u0 hu0
      have hspot : spot = none := by simpa [Addr.add] using World.cell?_spot hc00
      subst hspot
      have hbb : b < W.heap.size := by simpa [Addr.add] using World.block_lt_of_cell? W _ hc00
      obtain ⟨g, hg⟩ : ∃ g : Nat → α, ∀ i, i < m → (∀ k u, (f (g i))[k]? = some u → W.cell? ((⟨b, off, none⟩ : Addr).add (i * s + k)) = some u) ∧ Q (g i) :=
        ⟨fun i => if h : i < m then (each i h).choose else a0, fun i hi => by simp only [dif_pos hi]; exact (each i hi).choose_spec⟩
      refine ⟨(List.range len).map g, .inr ⟨b, off, m, by simp, hbb, fun i z hz k u hu => ?_⟩, fun o ho => ?_⟩
      · have hi : i < len := by have := (List.getElem?_eq_some_iff.1 hz).1; simpa using this
        rw [List.getElem?_map, List.getElem?_range hi] at hz
        simp at hz
        subst hz
        have := (hg i (by omega)).1 k u hu
        rw [Addr.add_mid] at this
        rw [Nat.add_assoc]
        exact this
      · obtain ⟨i, hi, rfl⟩ := List.mem_map.1 ho
        have hi' : i < len := List.mem_range.1 hi
        exact (hg i (by omega)).2
set_option maxRecDepth 100000 in
set_option maxHeartbeats 1000000 in
/-- Likewise, with what they weigh. -/
theorem open_structs_w {α : Type} {f : α → List Value} {s : Nat} {Q : α → Prop} (kw : α → Nat) (a0 : α) {H : Type} {enc : TypeId × Value → H} {W : World} {base : Nat} {v : Value} {d : DataW H} {p : List MemPlace} {T e : TypeId} (hT : Tryd.prog.underlying T = some (.slice e)) (hs : Tryd.prog.cellsOf e = s) (hs0 : 0 < s) (hf : ∀ a, (f a).length = s)
    (ho : ∀ {fuel : Nat} {cs : List Value} {y : DataW H × List MemPlace}, DataW.trod enc Tryd.prog W 0 (fun _ => true) true fuel e cs = some y → ∃ a, cs = f a ∧ Q a ∧ kw a ∈ y.1.weights Tryd.prog e)
    (hval : Value.okWide Tryd.prog W .any base T v) (h : DataW.Trod enc Tryd.prog W 0 (fun _ => true) true T v d p) (hsz : ∀ m ∈ d.weights Tryd.prog T, m ≤ reachBytes) :
    ∃ l : List α, SlF f s W v l ∧ (∀ a ∈ l, Q a ∧ kw a ≤ reachBytes) ∧ l.length * Tryd.prog.bytesOf e ≤ reachBytes := by
  obtain ⟨a, len, cap, rfl⟩ := okWide_slice hT hval
  obtain ⟨fuel, hfu⟩ := h
  rcases open_slice hT hfu with ⟨hcs, _⟩ | ⟨x, l, c, m, n, D, Pl, hcs, _, hl, hm, hmm, hdd, hx⟩
  · simp [Value.cells] at hcs
    obtain ⟨rfl, rfl, rfl⟩ := hcs
    exact ⟨[], .inl ⟨rfl, none, 0, rfl⟩, fun o ho => (by cases ho), (by simp)⟩
  · simp [Value.cells] at hcs
    obtain ⟨rfl, rfl, rfl⟩ := hcs
    have hmc : m = cap := by simpa using hmm
    subst hmc
    simp only [Prod.mk.injEq] at hdd
    by_cases h0 : len = 0
    · subst h0; exact ⟨[], .inl ⟨rfl, _, _, rfl⟩, fun o ho => (by cases ho), (by simp)⟩
    · have each : ∀ i, i < m → ∃ z : α, (∀ k u, (f z)[k]? = some u → W.cell? (x.add (i * s + k)) = some u) ∧ Q z ∧ kw z ∈ (D i).weights Tryd.prog e := by
        intro i hi
        obtain ⟨cs', h1, h2⟩ := hx i hi
        rw [hs] at h1
        obtain ⟨_, hlen, hcell⟩ := World.cells?_some h1
        obtain ⟨z, e1, e2⟩ := ho h2
        refine ⟨z, fun k u hu => ?_, e2⟩
        have hk : k < s := by
          have := (List.getElem?_eq_some_iff.1 hu).1
          rw [hf] at this
          exact this
        have := hcell k hk
        rw [Addr.add_add] at this
        rw [this, e1]
        exact hu
      obtain ⟨b, off, spot⟩ := x
      obtain ⟨s0, hc0, _⟩ := each 0 (by omega)
      obtain ⟨u0, hu0⟩ : ∃ u, (f s0)[0]? = some u := ⟨_, List.getElem?_eq_getElem (by rw [hf]; exact hs0)⟩
      have hc00 := hc0 0 u0 hu0
      have hspot : spot = none := by simpa [Addr.add] using World.cell?_spot hc00
      subst hspot
      have hbb : b < W.heap.size := by simpa [Addr.add] using World.block_lt_of_cell? W _ hc00
      obtain ⟨g, hg⟩ : ∃ g : Nat → α, ∀ i, i < m → (∀ k u, (f (g i))[k]? = some u → W.cell? ((⟨b, off, none⟩ : Addr).add (i * s + k)) = some u) ∧ Q (g i) ∧ kw (g i) ∈ (D i).weights Tryd.prog e :=
        ⟨fun i => if h : i < m then (each i h).choose else a0, fun i hi => by simp only [dif_pos hi]; exact (each i hi).choose_spec⟩
      refine ⟨(List.range len).map g, .inr ⟨b, off, m, by simp, hbb, fun i z hz k u hu => ?_⟩, fun o ho => ?_, ?_⟩
      · have hi : i < len := by have := (List.getElem?_eq_some_iff.1 hz).1; simpa using this
        rw [List.getElem?_map, List.getElem?_range hi] at hz
        simp at hz
        subst hz
        have := (hg i (by omega)).1 k u hu
        rw [Addr.add_mid] at this
        rw [Nat.add_assoc]
        exact this
      · obtain ⟨i, hi, rfl⟩ := List.mem_map.1 ho
        have hi' : i < len := List.mem_range.1 hi
        refine ⟨(hg i (by omega)).2.1, hsz _ ?_⟩
        rw [hdd.1]
        simp only [DataW.weights, hT, List.mem_cons, List.mem_append]
        exact Or.inr (Or.inl (weightsAll_mem (List.mem_map.2 ⟨i, hi, rfl⟩) _ (hg i (by omega)).2.2))
      · rw [List.length_map, List.length_range]
        refine Nat.le_trans (Nat.mul_le_mul_right _ (Nat.le_add_right len (m - len))) (hsz _ ?_)
        rw [hdd.1]
        simp only [DataW.weights, hT, List.length_map, List.length_range, List.mem_cons, true_or]
set_option maxRecDepth 100000 in
theorem open_calls {H : Type} {enc : TypeId × Value → H} {W : World} {base : Nat} {v : Value} {d : DataW H} {p : List MemPlace} {ts : List TypeId} {ds : List (DataW H)} {j : Nat} (hval : Value.okWide Tryd.prog W .any base 22 v) (h : DataW.Trod enc Tryd.prog W 0 (fun _ => true) true 22 v d p) (hsz : (DataW.weightsEach Tryd.prog ts ds).all (· ≤ reachBytes) = true) (ht : ts[j]? = some 22) (hd : ds[j]? = some d) :
    ∃ l : List Cl, SlF ccs 10 W v l ∧ (∀ c ∈ l, wfK (ck c)) ∧ (∀ c ∈ l, c.op.k.length ≤ 140737488351232) ∧ l.length ≤ 3000000000000 := by
  obtain ⟨l, h1, h2, h3⟩ := open_structs_w (Q := fun c => wfK (ck c)) (fun c : Cl => c.op.k.length) clZ Tryd.underlying22 Tryd.cells51 (by decide) (fun _ => rfl) (fun h => open_call_cells h) hval h (fun m hm => of_decide_eq_true (List.all_eq_true.1 hsz _ (DataW.weights_mem_each ht hd _ hm)))
  rw [show Tryd.prog.bytesOf 51 = 112 by kernel_rfl] at h3
  unfold reachBytes at h2 h3
  exact ⟨l, h1, fun c hc => (h2 c hc).1, fun c hc => by have := (h2 c hc).2; omega, by omega⟩
set_option maxRecDepth 100000 in
theorem open_points {H : Type} {enc : TypeId × Value → H} {W : World} {base : Nat} {v : Value} {d : DataW H} {p : List MemPlace} (hval : Value.okWide Tryd.prog W .any base 23 v) (h : DataW.Trod enc Tryd.prog W 0 (fun _ => true) true 23 v d p) : ∃ l : List Pt, SlF pks 5 W v l ∧ ∀ c ∈ l, wfK (pk2 c) :=
  open_structs ⟨0, 0, 0, ([], 0)⟩ Tryd.underlying23 Tryd.cells56 (by decide) (fun _ => rfl) (fun h => open_pt_cells h) hval h
end Go.Proofs.YtihilkdokfdoeaaDoor
