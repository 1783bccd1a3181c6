/- Configurations that came in, opened. -/
import Derived.Test.YtcehmaegnfelhaaRvM
import Derived.Deep.Strs
namespace Go.Proofs.Ytcehmaegnfelhaa
open Go.ChangeShapes Go.WideShapes Go.ChangeAt Go.RowKit Go.Deep
theorem Try.cells50 : Try.prog.cellsOf 50 = 6 := by kernel_rfl
theorem Try.cells48 : Try.prog.cellsOf 48 = 4 := by kernel_rfl
theorem Try.cells25 : Try.prog.cellsOf 25 = 1 := by kernel_rfl
theorem il_of {H : Type} {enc : TypeId × Value → H} {W : World} {fuel : Nat} {v : Value} {y : DataW H × List MemPlace} (hf : DataW.trod enc Try.prog W 0 (fun _ => true) true fuel 25 [v] = some y) : ∃ ns : List Int, Il W v ns := by
  rcases open_ints Try.underlying25 Try.underlying3 Try.cells3 hf with ⟨hcs, _⟩ | ⟨x, l, c, zs, hcs, _, hl, hm, hzz, _, hcell, _⟩
  · simp at hcs
    subst hcs
    exact ⟨[], .inl ⟨rfl, none, 0, rfl⟩⟩
  · simp at hcs
    subst hcs
    have hss : zs.length = c := by simpa using hzz
    have hlen : (zs.take l).length = l := by simp; omega
    by_cases h00 : l = 0
    · subst h00
      exact ⟨[], .inl ⟨rfl, _, _, rfl⟩⟩
    · obtain ⟨b, off, spot⟩ := x
      have hc0 := hcell 0 (by omega)
      have hspot : spot = none := by simpa [Addr.add] using World.cell?_spot hc0
      subst hspot
      have hbb : b < W.heap.size := by simpa [Addr.add] using World.block_lt_of_cell? W _ hc0
      refine ⟨zs.take l, .inr ⟨b, off, c, by rw [hlen], hbb, fun i n hn => ?_⟩⟩
      have hi : i < l := by have := (List.getElem?_eq_some_iff.1 hn).1; omega
      have h1 := hcell i (by omega)
      rw [List.getElem?_take_of_lt hi] at hn
      rw [List.getD_eq_getElem?_getD, hn, Addr.add_mid] at h1
      exact h1
set_option maxRecDepth 100000 in
theorem open_cfg_cells {H : Type} {enc : TypeId × Value → H} {W : World} {fuel : Nat} {cs : List Value} {y : DataW H × List MemPlace} (h : DataW.trod enc Try.prog W 0 (fun _ => true) true fuel 50 cs = some y) : ∃ (x : Cg) (gv : Value), cs = (cgv x gv).toList ∧ Il W gv x.gs := by
  obtain ⟨xs, n, _, rfl, hl, hlen, hf⟩ := DataW.trod_struct Try.underlying50 h
  rw [Try.cells50] at hl
  obtain ⟨c0, c1, c2, c3, c4, c5, rfl⟩ := list6 hl
  obtain ⟨y0, y1, y2, rfl⟩ : ∃ y0 y1 y2, xs = [y0, y1, y2] := by
    have h3 : xs.length = 3 := by simpa using hlen
    match xs, h3 with
    | [y0, y1, y2], _ => exact ⟨y0, y1, y2, rfl⟩
  have h0 := hf 0 _ rfl
  have h1 := hf 1 _ rfl
  have h2 := hf 2 _ rfl
  simp [Try.cells3, Try.cells25, Try.cells48] at h0 h1 h2
  obtain ⟨a0, e0, _, _⟩ := DataW.trod_int Try.underlying3 h0
  obtain ⟨z0, z1, z2, z3, m, _, t0, t1, t2, t3⟩ := trod_array4 Try.underlying48 Try.cells3 h2
  obtain ⟨a2, e2, _, _⟩ := DataW.trod_int Try.underlying3 t0
  obtain ⟨a3, e3, _, _⟩ := DataW.trod_int Try.underlying3 t1
  obtain ⟨a4, e4, _, _⟩ := DataW.trod_int Try.underlying3 t2
  obtain ⟨a5, e5, _, _⟩ := DataW.trod_int Try.underlying3 t3
  simp at e0 e2 e3 e4 e5
  subst e0 e2 e3 e4 e5
  obtain ⟨ns, hil⟩ := il_of h1
  exact ⟨⟨a0, ns, a2, a3, a4, a5⟩, c1, rfl, hil⟩
set_option maxRecDepth 100000 in
theorem open_configs {H : Type} {enc : TypeId × Value → H} {W : World} {base : Nat} {v : Value} {d : DataW H} {p : List MemPlace} (hval : Value.okWide Try.prog W .any base 22 v) (hh : DataW.Trod enc Try.prog W 0 (fun _ => true) true 22 v d p) : ∃ l : List Cg, Cl W v l ∧ l.length ≤ 9223372036854775807 := by
  obtain ⟨a0, len0, cap0, rfl⟩ := okWide_slice (show Try.prog.underlying 22 = some (.slice 50) by kernel_rfl) hval
  obtain ⟨fuel, h⟩ := hh
  rcases DataW.trod_slice (show Try.prog.underlying 22 = some (.slice 50) by kernel_rfl) h with ⟨hcs, _⟩ | ⟨x, len, cap, el, rest, n, _, hcs, _, _, hl, hm, hel, hx, _⟩
  · simp [Value.cells] at hcs
    obtain ⟨rfl, rfl, rfl⟩ := hcs
    exact ⟨[], .inl ⟨rfl, none, 0, rfl⟩, Nat.zero_le _⟩
  · simp [Value.cells] at hcs
    obtain ⟨rfl, rfl, rfl⟩ := hcs
    unfold maxLen at hm
    by_cases h0 : len0 = 0
    · subst h0; exact ⟨[], .inl ⟨rfl, _, _, rfl⟩, Nat.zero_le _⟩
    · have each : ∀ i, i < len0 → ∃ (s : Cg) (gv : Value), Il W gv s.gs ∧ ∀ k u, (cgv s gv)[k]? = some u → W.cell? (x.add (i * 6 + k)) = some u := by
        intro i hi
        have h1 := hx i hi
        rw [List.getElem?_eq_getElem (by omega), Option.bind_eq_some_iff] at h1
        obtain ⟨cs', h1, h2⟩ := h1
        rw [Try.cells50] at h1
        obtain ⟨_, hlen, hcell⟩ := World.cells?_some h1
        obtain ⟨s, gv, e1, e2⟩ := open_cfg_cells h2
        refine ⟨s, gv, e2, fun k u hu => ?_⟩
        have hk : k < 6 := by
          have := (Array.getElem?_eq_some_iff.1 hu).1
          simpa using this
        have := hcell k hk
        rw [Addr.add_add] at this
        rw [this, e1, Array.getElem?_toList]
        exact hu
      obtain ⟨b, off, spot⟩ := x
      obtain ⟨s0, gv0, _, hc0⟩ := each 0 (by omega)
      have hc00 := hc0 0 _ rfl
      have hspot : spot = none := by simpa [Addr.add] using World.cell?_spot hc00
      subst hspot
      have hbb : b < W.heap.size := by simpa [Addr.add] using World.block_lt_of_cell? W _ hc00
      obtain ⟨f, hf⟩ : ∃ f : Nat → Cg, ∀ i, i < len0 → ∃ gv, Il W gv (f i).gs ∧ ∀ k u, (cgv (f i) gv)[k]? = some u → W.cell? ((⟨b, off, none⟩ : Addr).add (i * 6 + k)) = some u :=
        ⟨fun i => if h : i < len0 then (each i h).choose else ⟨0, [], 0, 0, 0, 0⟩, fun i hi => by simp only [dif_pos hi]; exact (each i hi).choose_spec⟩
      refine ⟨(List.range len0).map f, .inr ⟨b, off, _, by rw [List.length_map, List.length_range], hbb, fun i s hs => ?_⟩, by rw [List.length_map, List.length_range]; omega⟩
      have hi : i < len0 := by have := (List.getElem?_eq_some_iff.1 hs).1; simpa using this
      rw [List.getElem?_map, List.getElem?_range hi] at hs
      simp at hs
      subst hs
      obtain ⟨gv, h3, h4⟩ := hf i hi
      refine ⟨gv, h3, fun k u hu => ?_⟩
      have := h4 k u hu
      rw [Addr.add_mid] at this
      rw [Nat.add_assoc]
      exact this
end Go.Proofs.Ytcehmaegnfelhaa
