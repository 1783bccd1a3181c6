/- Arguments that came in, opened: steps. -/
import Derived.Test.YtkamjfcnipjpkaaMoE
import Derived.ProofKit
import Derived.OpenShut
import Derived.Deep.Slices
import Derived.Deep.Strs
import Derived.Lib.SmallJoins
import Derived.Laws.IdiomArrays
namespace Go.Proofs.Ytkamjfcnipjpkaa
open Go.ChangeShapes Go.WideShapes Go.ChangeAt Go.RowKit Go.Deep

theorem Try.cells33 : Try.prog.cellsOf 33 = 5 := by kernel_rfl
theorem Try.cells31 : Try.prog.cellsOf 31 = 3 := by kernel_rfl
theorem Try.cells3 : Try.prog.cellsOf 3 = 1 := by kernel_rfl
theorem list3 {cs : List Value} (h : cs.length = 3) : ∃ c0 c1 c2, cs = [c0, c1, c2] := by
  match cs, h with
  | [c0, c1, c2], _ => exact ⟨c0, c1, c2, rfl⟩
theorem list5 {cs : List Value} (h : cs.length = 5) : ∃ c0 c1 c2 c3 c4, cs = [c0, c1, c2, c3, c4] := by
  match cs, h with
  | [c0, c1, c2, c3, c4], _ => exact ⟨c0, c1, c2, c3, c4, rfl⟩
set_option maxRecDepth 100000 in
theorem open_cmd_cells {H : Type} {enc : TypeId × Value → H} {W : World} {fuel : Nat} {cs : List Value} {y : DataW H × List MemPlace} (h : DataW.trod enc Try.prog W 0 (fun _ => true) true fuel 31 cs = some y) : ∃ x : C3, cs = c3s x := by
  obtain ⟨xs, n, _, rfl, hl, hlen, hf⟩ := DataW.trod_struct Try.underlying31 h
  rw [Try.cells31] at hl
  obtain ⟨c0, c1, c2, rfl⟩ := list3 hl
  obtain ⟨y0, y1, y2, rfl⟩ : ∃ y0 y1 y2, xs = [y0, y1, y2] := by
    have h3 : xs.length = 3 := by simpa using hlen
    match xs, h3 with
    | [y0, y1, y2], _ => exact ⟨y0, y1, y2, rfl⟩
  have h0 := hf 0 _ rfl
  have h1 := hf 1 _ rfl
  have h2 := hf 2 _ rfl
  simp [Try.cells3] at h0 h1 h2
  obtain ⟨a0, e0, _, _⟩ := DataW.trod_int Try.underlying3 h0
  obtain ⟨a1, e1, _, _⟩ := DataW.trod_int Try.underlying3 h1
  obtain ⟨a2, e2, _, _⟩ := DataW.trod_int Try.underlying3 h2
  simp at e0 e1 e2
  subst e0 e1 e2
  exact ⟨(a0, a1, a2), rfl⟩
set_option maxRecDepth 100000 in
theorem open_step_cells {H : Type} {enc : TypeId × Value → H} {W : World} {fuel : Nat} {cs : List Value} {y : DataW H × List MemPlace} (h : DataW.trod enc Try.prog W 0 (fun _ => true) true fuel 33 cs = some y) : ∃ x : S5, cs = s5s x := by
  obtain ⟨xs, n, _, rfl, hl, hlen, hf⟩ := DataW.trod_struct Try.underlying33 h
  rw [Try.cells33] at hl
  obtain ⟨c0, c1, c2, c3, c4, rfl⟩ := list5 hl
  obtain ⟨y0, y1, y2, rfl⟩ : ∃ y0 y1 y2, xs = [y0, y1, y2] := by
    have h3 : xs.length = 3 := by simpa using hlen
    match xs, h3 with
    | [y0, y1, y2], _ => exact ⟨y0, y1, y2, rfl⟩
  have h0 := hf 0 _ rfl
  have h1 := hf 1 _ rfl
  have h2 := hf 2 _ rfl
  simp [Try.cells3, Try.cells31] at h0 h1 h2
  obtain ⟨a0, e0, _, _⟩ := DataW.trod_int Try.underlying3 h0
  obtain ⟨a1, e1, _, _⟩ := DataW.trod_int Try.underlying3 h1
  obtain ⟨⟨k, g, s⟩, e2⟩ := open_cmd_cells h2
  simp [c3s] at e0 e1 e2
  obtain ⟨e2, e3, e4⟩ := e2
  subst e0 e1 e2 e3 e4
  exact ⟨(a0, a1, k, g, s), rfl⟩
set_option maxRecDepth 100000 in
theorem open_steps {H : Type} {enc : TypeId × Value → H} {W : World} {base : Nat} {v : Value} {d : DataW H} {p : List MemPlace} (hval : Value.okWide Try.prog W .any base 22 v) (hh : DataW.Trod enc Try.prog W 0 (fun _ => true) true 22 v d p) : ∃ l : List S5, Ss W v l := by
  obtain ⟨a0, len0, cap0, rfl⟩ := okWide_slice (show Try.prog.underlying 22 = some (.slice 33) by kernel_rfl) hval
  obtain ⟨fuel, h⟩ := hh
  rcases open_slice (show Try.prog.underlying 22 = some (.slice 33) by kernel_rfl) h with ⟨hcs, _⟩ | ⟨x, len, cap, m, n, D, Pl, hcs, _, hl, hm, hmm, hdd, hx⟩
  · simp [Value.cells] at hcs
    obtain ⟨rfl, rfl, rfl⟩ := hcs
    exact ⟨[], .inl ⟨rfl, none, 0, rfl⟩⟩
  · simp [Value.cells] at hcs
    obtain ⟨rfl, rfl, rfl⟩ := hcs
    have hmc : m = cap0 := by simpa using hmm
    subst hmc
    by_cases h0 : len0 = 0
    · subst h0; exact ⟨[], .inl ⟨rfl, _, _, rfl⟩⟩
    · have each : ∀ i, i < m → ∃ s : S5, ∀ k u, (s5s s)[k]? = some u → W.cell? (x.add (i * 5 + k)) = some u := by
        intro i hi
        obtain ⟨cs', h1, h2⟩ := hx i hi
        rw [Try.cells33] at h1
        obtain ⟨_, hlen, hcell⟩ := World.cells?_some h1
        obtain ⟨s, e1⟩ := open_step_cells h2
        refine ⟨s, fun k u hu => ?_⟩
        have hk : k < 5 := by
          have := (List.getElem?_eq_some_iff.1 hu).1
          simpa [s5s] using this
        have := hcell k hk
        rw [Addr.add_add] at this
        rw [this, e1]
        exact hu
      obtain ⟨b, off, spot⟩ := x
      obtain ⟨s0, hc0⟩ := each 0 (by omega)
      have hc00 := hc0 0 _ rfl
      have hspot : spot = none := by simpa [Addr.add] using World.cell?_spot hc00
      subst hspot
      have hbb : b < W.heap.size := by simpa [Addr.add] using World.block_lt_of_cell? W _ hc00
      obtain ⟨f, hf⟩ : ∃ f : Nat → S5, ∀ i, i < m → ∀ k u, (s5s (f i))[k]? = some u → W.cell? ((⟨b, off, none⟩ : Addr).add (i * 5 + k)) = some u :=
        ⟨fun i => if h : i < m then (each i h).choose else (0, 0, 0, 0, 0), fun i hi => by simp only [dif_pos hi]; exact (each i hi).choose_spec⟩
      refine ⟨(List.range len0).map f, .inr ⟨b, off, m, by simp, hbb, fun i s hs => ?_⟩⟩
      have hi : i < len0 := by have := (List.getElem?_eq_some_iff.1 hs).1; simpa using this
      rw [List.getElem?_map, List.getElem?_range hi] at hs
      simp at hs
      subst hs
      intro k u hu
      have := hf i (by omega) k u hu
      rw [Addr.add_mid] at this
      rw [Nat.add_assoc]
      exact this
end Go.Proofs.Ytkamjfcnipjpkaa
