/- Requests that came in, opened. -/
import Derived.Test.YtngoodidajbhcaaDoorTxA
import Derived.ProofKit
import Derived.Test.YtngoodidajbhcaaDoorNsT
import Derived.OpenShut
import Derived.Deep.Slices
import Derived.Deep.Strs
import Derived.Lib.SmallJoins
namespace Go.Proofs.YtngoodidajbhcaaDoor
open Go.ChangeShapes Go.WideShapes Go.ChangeAt Go.RowKit Go.Deep

theorem Tryd.cells26 : Tryd.prog.cellsOf 26 = 3 := by kernel_rfl
theorem Tryd.cellsI : Tryd.prog.cellsOf 3 = 1 := by kernel_rfl
theorem Tryd.cellsS : Tryd.prog.cellsOf 9 = 1 := by kernel_rfl
set_option maxRecDepth 100000 in
theorem open_requests {H : Type} {enc : TypeId × Value → H} {W : World} {base : Nat} {v : Value} {d : DataW H} {p : List MemPlace} {ts : List TypeId} {ds : List (DataW H)} {j : Nat} (hval : Value.okWide Tryd.prog W .any base 22 v)
    (h : ∃ fuel, DataW.trod enc Tryd.prog W 0 (fun _ => true) true fuel 22 v.cells.toList = some (d, p)) (hsz : (DataW.weightsEach Tryd.prog ts ds).all (· ≤ reachBytes) = true) (ht : ts[j]? = some 22) (hd : ds[j]? = some d) : ∃ l : List Rq, Rql W v l ∧ ∀ a ∈ l, a.2.2.length ≤ 140737488355328 := by
  obtain ⟨a, len, cap, rfl⟩ := okWide_slice Tryd.underlying22 hval
  obtain ⟨fuel, hf⟩ := h
  rcases open_slice Tryd.underlying22 hf with ⟨hcs, _⟩ | ⟨x, l, c, m, n, D, Pl, hcs, _, hl, hm, hmm, hdd, hx⟩
  · simp [Value.cells] at hcs
    obtain ⟨rfl, rfl, rfl⟩ := hcs
    exact ⟨[], .inl ⟨rfl, none, 0, rfl⟩, by simp⟩
  · simp [Value.cells] at hcs
    obtain ⟨rfl, rfl, rfl⟩ := hcs
    have hmc : m = cap := by simpa using hmm
    subst hmc
    by_cases h0 : len = 0
    · subst h0; exact ⟨[], .inl ⟨rfl, _, _, rfl⟩, by simp⟩
    · have each : ∀ i, i < m → ∃ s : Rq, (W.cell? (x.add (i * 3)) = some (.int .i64 s.1) ∧ W.cell? (x.add (i * 3 + 1)) = some (.int .i64 s.2.1) ∧ W.cell? (x.add (i * 3 + 2)) = some (.string (bs s.2.2))) ∧ ∃ y y', D i = .agg [y, y', .lit (.string s.2.2)] := by
        intro i hi
        obtain ⟨cs', h1, h2⟩ := hx i hi
        rw [Tryd.cells26] at h1
        obtain ⟨_, hlen, hcell⟩ := World.cells?_some h1
        obtain ⟨y0, y1, y2, n1, hag, _, t0, t1, t2⟩ := trod_struct3 Tryd.underlying26 h2
        match cs', hlen with
        | [q0, q1, q2], _ =>
          have e0 := hcell 0 (by omega)
          have e1 := hcell 1 (by omega)
          have e2 := hcell 2 (by omega)
          simp [Addr.add_add] at e0 e1 e2
          obtain ⟨a0, f0, _⟩ := DataW.trod_int Tryd.underlying3 t0
          obtain ⟨a1, f1, _⟩ := DataW.trod_int Tryd.underlying3 t1
          obtain ⟨a2, f2, k2, _⟩ := DataW.trod_string Tryd.underlying9 t2
          simp [Tryd.cellsI, Tryd.cellsS] at f0 f1 f2
          subst f0 f1 f2
          exact ⟨(a0, a1, a2.data.toList), ⟨e0, e1, by rw [bs_data]; exact e2⟩, y0.1, y1.1, by rw [k2] at hag; exact congrArg Prod.fst hag⟩
      obtain ⟨b, off, spot⟩ := x
      obtain ⟨s0, ⟨hc0, _⟩, _⟩ := each 0 (by omega)
      have hspot : spot = none := by simpa [Addr.add] using World.cell?_spot hc0
      subst hspot
      have hbb : b < W.heap.size := by simpa [Addr.add] using World.block_lt_of_cell? W _ hc0
      have each2 : ∀ i, i < m → ∃ s : Rq, RqlAt W b (off + i * 3) s ∧ ∃ y y', D i = .agg [y, y', .lit (.string s.2.2)] := fun i hi => by
        obtain ⟨s, h, hz⟩ := each i hi
        rw [Addr.add_mid, Addr.add_mid, Addr.add_mid] at h
        exact ⟨s, h, hz⟩
      obtain ⟨f, hf⟩ : ∃ f : Nat → Rq, ∀ i, i < m → RqlAt W b (off + i * 3) (f i) ∧ ∃ y y', D i = .agg [y, y', .lit (.string (f i).2.2)] :=
        ⟨fun i => if h : i < m then (each2 i h).choose else (0, 0, []), fun i hi => by simp only [dif_pos hi]; exact (each2 i hi).choose_spec⟩
      refine ⟨(List.range len).map f, .inr ⟨b, off, m, by simp, hbb, fun i s hs => ?_⟩, fun a ha => ?_⟩
      · have hi : i < len := by have := (List.getElem?_eq_some_iff.1 hs).1; simpa using this
        rw [List.getElem?_map, List.getElem?_range hi] at hs
        simp at hs
        subst hs
        exact (hf i (by omega)).1
      · obtain ⟨i, hi, rfl⟩ := List.mem_map.1 ha
        have hil := List.mem_range.1 hi
        obtain ⟨y, y', hDi⟩ := (hf i (by omega)).2
        have hw : (DataW.agg [y, y', .lit (.string (f i).2.2)]).weights Tryd.prog 26 = y.weights Tryd.prog 3 ++ (y'.weights Tryd.prog 3 ++ [(f i).2.2.length]) := by
          simp only [DataW.weights, Tryd.underlying26]
          simp [DataW.weightsEach, DataW.weights]
        have hm2 : D i ∈ (List.range len).map D := List.mem_map.2 ⟨i, hi, rfl⟩
        have hd2 := congrArg Prod.fst hdd
        simp only at hd2
        have hwt : (f i).2.2.length ≤ reachBytes := by
          refine of_decide_eq_true (List.all_eq_true.1 hsz _ (DataW.weights_mem_each ht (hd2 ▸ hd) _ ?_))
          simp only [DataW.weights, Tryd.underlying22, List.mem_cons, List.mem_append]
          exact Or.inr (Or.inl (weightsAll_mem hm2 _ (by rw [hDi, hw]; simp)))
        unfold reachBytes at hwt
        omega
end Go.Proofs.YtngoodidajbhcaaDoor
