/- Arguments that came in, opened: a configuration. -/
import Derived.Test.YtfjbhljnledphaaGreatDoorChW
import Derived.ProofKit
import Derived.OpenShut
import Derived.Deep.Slices
import Derived.Deep.Strs
import Derived.Lib.SmallJoins
import Derived.Laws.IdiomArrays
namespace Go.Proofs.YtfjbhljnledphaaGreatDoor
open Go.ChangeShapes Go.WideShapes Go.ChangeAt Go.RowKit Go.Deep

theorem Tryz.cells25 : Tryz.prog.cellsOf 25 = 6 := by kernel_rfl
theorem Tryz.cells23 : Tryz.prog.cellsOf 23 = 4 := by kernel_rfl
theorem Tryz.cells22 : Tryz.prog.cellsOf 22 = 1 := by kernel_rfl
theorem Tryz.cells3 : Tryz.prog.cellsOf 3 = 1 := by kernel_rfl
theorem il_of {H : Type} {enc : TypeId × Value → H} {W : World} {fuel : Nat} {v : Value} {y : DataW H × List MemPlace} (hf : DataW.trod enc Tryz.prog W 0 (fun _ => true) true fuel 22 [v] = some y) : ∃ ns : List Int, Il W v ns := by
  rcases open_ints Tryz.underlying22 Tryz.underlying3 Tryz.cells3 hf with ⟨hcs, _⟩ | ⟨x, l, c, zs, hcs, _, hl, hm, hzz, _, hcell, _⟩
  · simp at hcs
    subst hcs
    exact ⟨[], .inl ⟨rfl, none, 0, rfl⟩⟩
  · simp at hcs
    subst hcs
    have hss : zs.length = c := by simpa using hzz
    have hlen : (zs.take l).length = l := by simp; omega
    by_cases h00 : l = 0
    · subst h00
      exact ⟨[], .inl ⟨rfl, _, _, rfl⟩⟩
    · obtain ⟨b, off, spot⟩ := x
      have hc0 := hcell 0 (by omega)
      have hspot : spot = none := by simpa [Addr.add] using World.cell?_spot hc0
      subst hspot
      have hbb : b < W.heap.size := by simpa [Addr.add] using World.block_lt_of_cell? W _ hc0
      refine ⟨zs.take l, .inr ⟨b, off, c, by rw [hlen], hbb, fun i n hn => ?_⟩⟩
      have hi : i < l := by have := (List.getElem?_eq_some_iff.1 hn).1; omega
      have h1 := hcell i (by omega)
      rw [List.getElem?_take_of_lt hi] at hn
      rw [List.getD_eq_getElem?_getD, hn, Addr.add_mid] at h1
      exact h1
theorem list6 {cs : List Value} (h : cs.length = 6) : ∃ c0 c1 c2 c3 c4 c5, cs = [c0, c1, c2, c3, c4, c5] := by
  match cs, h with
  | [c0, c1, c2, c3, c4, c5], _ => exact ⟨c0, c1, c2, c3, c4, c5, rfl⟩
set_option maxRecDepth 100000 in
theorem open_conf {H : Type} {enc : TypeId × Value → H} {W : World} {base : Nat} {v : Value} {d : DataW H} {p : List MemPlace} (hval : Value.okWide Tryz.prog W .any base 25 v) (h : DataW.Trod enc Tryz.prog W 0 (fun _ => true) true 25 v d p) :
    ∃ (n : Int) (u : Value) (ns : List Int) (a b c d : Int), v = .agg (cf n u a b c d) ∧ Il W u ns := by
  obtain ⟨cs, rfl, hcs⟩ := okWide_struct Tryz.underlying25 hval
  rw [Tryz.cells25] at hcs
  obtain ⟨fuel, hf⟩ := h
  obtain ⟨y0, y1, y2, n, _, _, h0, h1, h2⟩ := trod_struct3 Tryz.underlying25 hf
  obtain ⟨cs⟩ := cs
  obtain ⟨c0, c1, c2, c3, c4, c5, rfl⟩ := list6 (by simpa using hcs)
  simp [Value.cells, Tryz.cells3, Tryz.cells22, Tryz.cells23] at h0 h1 h2
  obtain ⟨a0, e0, _, w0⟩ := DataW.trod_int Tryz.underlying3 h0
  obtain ⟨z0, z1, z2, z3, m, _, t0, t1, t2, t3⟩ := trod_array4 Tryz.underlying23 Tryz.cells3 h2
  obtain ⟨a2, e2, _, _⟩ := DataW.trod_int Tryz.underlying3 t0
  obtain ⟨a3, e3, _, _⟩ := DataW.trod_int Tryz.underlying3 t1
  obtain ⟨a4, e4, _, _⟩ := DataW.trod_int Tryz.underlying3 t2
  obtain ⟨a5, e5, _, _⟩ := DataW.trod_int Tryz.underlying3 t3
  simp at e0 e2 e3 e4 e5
  subst e0 e2 e3 e4 e5
  obtain ⟨ns, hil⟩ := il_of h1
  exact ⟨a0, c1, ns, a2, a3, a4, a5, rfl, hil⟩
end Go.Proofs.YtfjbhljnledphaaGreatDoor
