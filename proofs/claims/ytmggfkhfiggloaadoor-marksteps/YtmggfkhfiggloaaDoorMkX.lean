/- Steps that came in, opened. -/
import Derived.Test.YtmggfkhfiggloaaDoorMkW
namespace Go.Proofs.YtmggfkhfiggloaaDoor
open Go.ChangeShapes Go.WideShapes Go.ChangeAt Go.RowKit Go.Deep

set_option maxRecDepth 100000 in
set_option maxHeartbeats 1000000 in
theorem open_steps {H : Type} {enc : TypeId × Value → H} {W : World} {base : Nat} {v : Value} {d : DataW H} {p : List MemPlace} {ts : List TypeId} {ds : List (DataW H)} {j : Nat} (hval : Value.okWide Tryd.prog W .any base 35 v)
    (h : ∃ fuel, DataW.trod enc Tryd.prog W 0 (fun _ => true) true fuel 35 v.cells.toList = some (d, p)) (hsz : (DataW.weightsEach Tryd.prog ts ds).all (· ≤ reachBytes) = true) (ht : ts[j]? = some 35) (hd : ds[j]? = some d) : ∃ l : List Sp, Stl W v l := by
  obtain ⟨a, len, cap, rfl⟩ := okWide_slice Tryd.underlying35 hval
  obtain ⟨fuel, hf⟩ := h
  rcases open_slice Tryd.underlying35 hf with ⟨hcs, _⟩ | ⟨x, l, c, m, n, D, Pl, hcs, _, hl, hm, hmm, hdd, hx⟩
  · simp [Value.cells] at hcs
    obtain ⟨rfl, rfl, rfl⟩ := hcs
    exact ⟨[], .inl ⟨rfl, none, 0, rfl⟩⟩
  · simp [Value.cells] at hcs
    obtain ⟨rfl, rfl, rfl⟩ := hcs
    have hmc : m = cap := by simpa using hmm
    subst hmc
    by_cases h0 : len = 0
    · subst h0; exact ⟨[], .inl ⟨rfl, _, _, rfl⟩⟩
    · have each : ∀ i, i < m → ∃ s : Sp, (∀ k u, s.cells[k]? = some u → W.cell? (x.add (i * 8 + k)) = some u) ∧ Tp W s.u s.T ∧ ((∀ m ∈ (D i).weights Tryd.prog 51, m ≤ reachBytes) → s.Ok) := by
        intro i hi
        obtain ⟨cs', h1, h2⟩ := hx i hi
        rw [Tryd.cells51] at h1
        obtain ⟨_, hlen, hcell⟩ := World.cells?_some h1
        obtain ⟨s, e1, e2, e3⟩ := open_step_cells h2
        refine ⟨s, fun k u hu => ?_, e2, e3⟩
        have hk : k < 8 := by
          have := (List.getElem?_eq_some_iff.1 hu).1
          simpa [Sp.cells] using this
        have := hcell k hk
        rw [Addr.add_add] at this
        rw [this, e1]
        exact hu
      obtain ⟨b, off, spot⟩ := x
      obtain ⟨s0, hc0, _⟩ := each 0 (by omega)
      have hc00 := hc0 0 _ rfl
      have hspot : spot = none := by simpa [Addr.add] using World.cell?_spot hc00
      subst hspot
      have hbb : b < W.heap.size := by simpa [Addr.add] using World.block_lt_of_cell? W _ hc00
      obtain ⟨f, hf⟩ : ∃ f : Nat → Sp, ∀ i, i < m → (∀ k u, (f i).cells[k]? = some u → W.cell? ((⟨b, off, none⟩ : Addr).add (i * 8 + k)) = some u) ∧ Tp W (f i).u (f i).T ∧ ((∀ m ∈ (D i).weights Tryd.prog 51, m ≤ reachBytes) → (f i).Ok) :=
        ⟨fun i => if h : i < m then (each i h).choose else ⟨0, 0, 0, [], [], [], 0, [], undef⟩, fun i hi => by simp only [dif_pos hi]; exact (each i hi).choose_spec⟩
      refine ⟨(List.range len).map f, .inr ⟨b, off, m, by simp, hbb, fun i s hs => ?_⟩⟩
      have hi : i < len := by have := (List.getElem?_eq_some_iff.1 hs).1; simpa using this
      rw [List.getElem?_map, List.getElem?_range hi] at hs
      simp at hs
      subst hs
      obtain ⟨g1, g2, g3⟩ := hf i (by omega)
      refine ⟨fun k u hu => ?_, g2, g3 fun q hq => ?_⟩
      · have := g1 k u hu
        rw [Addr.add_mid] at this
        rw [Nat.add_assoc]
        exact this
      · have hm2 : D i ∈ (List.range len).map D := List.mem_map.2 ⟨i, List.mem_range.2 hi, rfl⟩
        have hd2 := congrArg Prod.fst hdd
        simp only at hd2
        refine of_decide_eq_true (List.all_eq_true.1 hsz _ (DataW.weights_mem_each ht (hd2 ▸ hd) _ ?_))
        simp only [DataW.weights, Tryd.underlying35, List.mem_cons, List.mem_append]
        exact Or.inr (Or.inl (weightsAll_mem hm2 _ hq))
end Go.Proofs.YtmggfkhfiggloaaDoor
