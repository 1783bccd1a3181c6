/- A slice of numbers that came in, opened. -/
import Derived.Test.YtgmobjdjojffgaaDoorSdW
import Derived.Test.YtgmobjdjojffgaaDoorTbT
import Derived.ChangeSlices
namespace Go.Proofs.YtgmobjdjojffgaaDoor
open Go.ChangeShapes Go.WideShapes Go.ChangeAt Go.RowKit

theorem Tryd.cells3i : Tryd.prog.cellsOf 3 = 1 := by kernel_rfl
set_option maxRecDepth 100000 in
theorem open_il {H : Type} {enc : TypeId × Value → H} {W : World} {base : Nat} {v : Value} {d : DataW H} {p : List MemPlace} (hval : Value.okWide Tryd.prog W .any base 53 v)
    (h : ∃ fuel, DataW.trod enc Tryd.prog W 0 (fun _ => true) true fuel 53 v.cells.toList = some (d, p)) : ∃ ns : List Int, Il W v ns := by
  obtain ⟨a, len, cap, rfl⟩ := okWide_slice Tryd.underlying53 hval
  obtain ⟨fuel, hf⟩ := h
  rcases open_ints Tryd.underlying53 Tryd.underlying3 Tryd.cells3i hf with ⟨hcs, _⟩ | ⟨x, l, c, zs, hcs, _, hl, hm, hzz, _, hcell, _⟩
  · simp [Value.cells] at hcs
    obtain ⟨rfl, rfl, rfl⟩ := hcs
    exact ⟨[], .inl ⟨rfl, none, 0, rfl⟩⟩
  · simp [Value.cells] at hcs
    obtain ⟨rfl, rfl, rfl⟩ := hcs
    have hss : zs.length = cap := by simpa using hzz
    have hlen : (zs.take len).length = len := by simp; omega
    by_cases h00 : len = 0
    · subst h00
      exact ⟨[], .inl ⟨rfl, _, _, rfl⟩⟩
    · obtain ⟨b, off, spot⟩ := x
      have hc0 := hcell 0 (by omega)
      have hspot : spot = none := by simpa [Addr.add] using World.cell?_spot hc0
      subst hspot
      have hbb : b < W.heap.size := by simpa [Addr.add] using World.block_lt_of_cell? W _ hc0
      refine ⟨zs.take len, .inr ⟨b, off, cap, by rw [hlen], hbb, fun i n hn => ?_⟩⟩
      have hi : i < len := by have := (List.getElem?_eq_some_iff.1 hn).1; omega
      have h1 := hcell i (by omega)
      rw [List.getElem?_take_of_lt hi] at hn
      rw [List.getD_eq_getElem?_getD, hn, Addr.add_mid] at h1
      exact h1
end Go.Proofs.YtgmobjdjojffgaaDoor
