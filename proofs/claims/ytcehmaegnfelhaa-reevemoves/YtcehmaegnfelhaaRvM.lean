/- Rulings that came in, opened. -/
import Derived.Test.YtcehmaegnfelhaaRvL
import Derived.ProofKit
import Derived.OpenShut
import Derived.Deep.Slices
import Derived.Deep.Strs
import Derived.Lib.SmallJoins
import Derived.Laws.IdiomArrays
namespace Go.Proofs.Ytcehmaegnfelhaa
open Go.ChangeShapes Go.WideShapes Go.ChangeAt Go.RowKit Go.Deep

theorem Try.cells45 : Try.prog.cellsOf 45 = 6 := by kernel_rfl
theorem Try.cells42 : Try.prog.cellsOf 42 = 3 := by kernel_rfl
theorem Try.cells26 : Try.prog.cellsOf 26 = 1 := by kernel_rfl
theorem Try.cells3 : Try.prog.cellsOf 3 = 1 := by kernel_rfl
theorem list3 {cs : List Value} (h : cs.length = 3) : ∃ c0 c1 c2, cs = [c0, c1, c2] := by
  match cs, h with
  | [c0, c1, c2], _ => exact ⟨c0, c1, c2, rfl⟩
theorem list6 {cs : List Value} (h : cs.length = 6) : ∃ c0 c1 c2 c3 c4 c5, cs = [c0, c1, c2, c3, c4, c5] := by
  match cs, h with
  | [c0, c1, c2, c3, c4, c5], _ => exact ⟨c0, c1, c2, c3, c4, c5, rfl⟩
set_option maxRecDepth 100000 in
theorem open_cmd_cells {H : Type} {enc : TypeId × Value → H} {W : World} {fuel : Nat} {cs : List Value} {y : DataW H × List MemPlace} (h : DataW.trod enc Try.prog W 0 (fun _ => true) true fuel 42 cs = some y) : ∃ k g s : Int, cs = [.int .i64 k, .int .i64 g, .int .i64 s] := by
  obtain ⟨xs, n, _, rfl, hl, hlen, hf⟩ := DataW.trod_struct Try.underlying42 h
  rw [Try.cells42] at hl
  obtain ⟨c0, c1, c2, rfl⟩ := list3 hl
  obtain ⟨y0, y1, y2, rfl⟩ : ∃ y0 y1 y2, xs = [y0, y1, y2] := by
    have h3 : xs.length = 3 := by simpa using hlen
    match xs, h3 with
    | [y0, y1, y2], _ => exact ⟨y0, y1, y2, rfl⟩
  have h0 := hf 0 _ rfl
  have h1 := hf 1 _ rfl
  have h2 := hf 2 _ rfl
  simp [Try.cells3] at h0 h1 h2
  obtain ⟨a0, e0, _, _⟩ := DataW.trod_int Try.underlying3 h0
  obtain ⟨a1, e1, _, _⟩ := DataW.trod_int Try.underlying3 h1
  obtain ⟨a2, e2, _, _⟩ := DataW.trod_int Try.underlying3 h2
  simp at e0 e1 e2
  subst e0 e1 e2
  exact ⟨a0, a1, a2, rfl⟩
set_option maxRecDepth 100000 in
theorem open_ruling_cells {H : Type} {enc : TypeId × Value → H} {W : World} {fuel : Nat} {cs : List Value} {y : DataW H × List MemPlace} (h : DataW.trod enc Try.prog W 0 (fun _ => true) true fuel 45 cs = some y) : ∃ x : Ru, cs = rul x := by
  obtain ⟨xs, n, _, rfl, hl, hlen, hf⟩ := DataW.trod_struct Try.underlying45 h
  rw [Try.cells45] at hl
  obtain ⟨c0, c1, c2, c3, c4, c5, rfl⟩ := list6 hl
  obtain ⟨y0, y1, y2, y3, rfl⟩ : ∃ y0 y1 y2 y3, xs = [y0, y1, y2, y3] := by
    have h3 : xs.length = 4 := by simpa using hlen
    match xs, h3 with
    | [y0, y1, y2, y3], _ => exact ⟨y0, y1, y2, y3, rfl⟩
  have h0 := hf 0 _ rfl
  have h1 := hf 1 _ rfl
  have h2 := hf 2 _ rfl
  have h3 := hf 3 _ rfl
  simp [Try.cells3, Try.cells42, Try.cells26] at h0 h1 h2 h3
  obtain ⟨a0, e0, _, _⟩ := DataW.trod_int Try.underlying3 h0
  obtain ⟨a1, e1, _, _⟩ := DataW.trod_int Try.underlying3 h1
  obtain ⟨k, g, s, e2⟩ := open_cmd_cells h2
  obtain ⟨a3, e3, _, _⟩ := DataW.trod_int Try.underlying26 h3
  simp at e0 e1 e2 e3
  obtain ⟨e4, e5, e6⟩ := e2
  subst e0 e1 e3 e4 e5 e6
  exact ⟨⟨a0, a1, k, g, s, a3⟩, rfl⟩
set_option maxRecDepth 100000 in
theorem open_rulings {H : Type} {enc : TypeId × Value → H} {W : World} {base : Nat} {v : Value} {d : DataW H} {p : List MemPlace} (hval : Value.okWide Try.prog W .any base 40 v) (hh : DataW.Trod enc Try.prog W 0 (fun _ => true) true 40 v d p) : ∃ l : List Ru, SlF rul 6 W v l ∧ ∀ a c, v = .slice a l.length c → l.length ≤ c := by
  obtain ⟨a0, len0, cap0, rfl⟩ := okWide_slice (show Try.prog.underlying 40 = some (.slice 45) by kernel_rfl) hval
  obtain ⟨fuel, h⟩ := hh
  rcases open_slice (show Try.prog.underlying 40 = some (.slice 45) by kernel_rfl) h with ⟨hcs, _⟩ | ⟨x, len, cap, m, n, D, Pl, hcs, _, hl, hm, hmm, hdd, hx⟩
  · simp [Value.cells] at hcs
    obtain ⟨rfl, rfl, rfl⟩ := hcs
    exact ⟨[], .inl ⟨rfl, none, 0, rfl⟩, fun _ _ _ => Nat.zero_le _⟩
  · simp [Value.cells] at hcs
    obtain ⟨rfl, rfl, rfl⟩ := hcs
    have hmc : m = cap0 := by simpa using hmm
    subst hmc
    by_cases h0 : len0 = 0
    · subst h0; exact ⟨[], .inl ⟨rfl, _, _, rfl⟩, fun _ _ _ => Nat.zero_le _⟩
    · have each : ∀ i, i < m → ∃ s : Ru, ∀ k u, (rul s)[k]? = some u → W.cell? (x.add (i * 6 + k)) = some u := by
        intro i hi
        obtain ⟨cs', h1, h2⟩ := hx i hi
        rw [Try.cells45] at h1
        obtain ⟨_, hlen, hcell⟩ := World.cells?_some h1
        obtain ⟨s, e1⟩ := open_ruling_cells h2
        refine ⟨s, fun k u hu => ?_⟩
        have hk : k < 6 := by
          have := (List.getElem?_eq_some_iff.1 hu).1
          simpa [rul] using this
        have := hcell k hk
        rw [Addr.add_add] at this
        rw [this, e1]
        exact hu
      obtain ⟨b, off, spot⟩ := x
      obtain ⟨s0, hc0⟩ := each 0 (by omega)
      have hc00 := hc0 0 _ rfl
      have hspot : spot = none := by simpa [Addr.add] using World.cell?_spot hc00
      subst hspot
      have hbb : b < W.heap.size := by simpa [Addr.add] using World.block_lt_of_cell? W _ hc00
      obtain ⟨f, hf⟩ : ∃ f : Nat → Ru, ∀ i, i < m → ∀ k u, (rul (f i))[k]? = some u → W.cell? ((⟨b, off, none⟩ : Addr).add (i * 6 + k)) = some u :=
        ⟨fun i => if h : i < m then (each i h).choose else ⟨0, 0, 0, 0, 0, 0⟩, fun i hi => by simp only [dif_pos hi]; exact (each i hi).choose_spec⟩
      refine ⟨(List.range len0).map f, .inr ⟨b, off, m, by simp, hbb, fun i s hs => ?_⟩, fun a c h => by injection h with h1 h2 h3; subst h3; rw [List.length_map, List.length_range]; omega⟩
      have hi : i < len0 := by have := (List.getElem?_eq_some_iff.1 hs).1; simpa using this
      rw [List.getElem?_map, List.getElem?_range hi] at hs
      simp at hs
      subst hs
      intro k u hu
      have := hf i (by omega) k u hu
      rw [Addr.add_mid] at this
      rw [Nat.add_assoc]
      exact this
end Go.Proofs.Ytcehmaegnfelhaa
