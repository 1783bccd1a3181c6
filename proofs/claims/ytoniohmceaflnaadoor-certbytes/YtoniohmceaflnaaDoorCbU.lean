/- Arguments that came in, opened: a certificate (a text, a number, a slice of pairs), what a party signed, a party. -/
import Derived.Test.YtoniohmceaflnaaDoorCbT
import Derived.Test.YtoniohmceaflnaaDoorCtE
import Derived.Lib.SmallJoins
import Derived.Deep.SlicePairs
import Derived.Deep.Strs
namespace Go.Proofs.YtoniohmceaflnaaDoor
open Go.ChangeShapes Go.WideShapes Go.ChangeAt Go.RowKit Go.Deep

theorem Tryd.cells58 : Tryd.prog.cellsOf 58 = 3 := by kernel_rfl
theorem Tryd.cells94 : Tryd.prog.cellsOf 94 = 2 := by kernel_rfl
theorem Tryd.cells3 : Tryd.prog.cellsOf 3 = 1 := by kernel_rfl

set_option maxRecDepth 100000 in
theorem open_tags {H : Type} {enc : TypeId × Value → H} {W : World} {fuel : Nat} {v : Value} {y : DataW H × List MemPlace} (h : DataW.trod enc Tryd.prog W 0 (fun _ => true) true fuel 56 [v] = some y) : ∃ l : List Tg, Tp W v l := by
  rcases open_slice_pairs Tryd.underlying56 Tryd.underlying94 Tryd.cells94 rfl rfl Tryd.cells3 Tryd.cells9 h with ⟨hcs, _⟩ | ⟨a, len, cap, m, n, V0, V1, D0, D1, P0, P1, hcs, _, hl, hm, hmm, _, hx⟩
  · simp at hcs; subst hcs; exact ⟨[], Tp.nil _⟩
  · simp at hcs
    subst hcs
    have hmc : m = cap := by simpa using hmm
    subst hmc
    by_cases h0 : len = 0
    · subst h0; exact ⟨[], .inr (.inl ⟨rfl, a, m, rfl⟩)⟩
    · have each : ∀ i, i < m → ∃ t : Tg, W.cell? (a.add (i * 2)) = some (.int .i64 t.1) ∧ W.cell? (a.add (i * 2 + 1)) = some (.string (bs t.2)) := by
        intro i hi
        obtain ⟨h1, h2, h3, h4⟩ := hx i hi
        obtain ⟨z, e1, _, _⟩ := DataW.trod_int Tryd.underlying3 h3
        obtain ⟨s, e2, _, _⟩ := DataW.trod_string Tryd.underlying9 h4
        simp at e1 e2
        rw [e1] at h1
        rw [e2] at h2
        exact ⟨(z, s.data.toList), h1, by rw [bs_data]; exact h2⟩
      obtain ⟨b, off, spot⟩ := a
      obtain ⟨t0, hc0, _⟩ := each 0 (by omega)
      have hspot : spot = none := by simpa [Addr.add] using World.cell?_spot hc0
      subst hspot
      have hbb : b < W.heap.size := by simpa [Addr.add] using World.block_lt_of_cell? W _ hc0
      obtain ⟨f, hf⟩ : ∃ f : Nat → Tg, ∀ i, i < m → W.cell? ((⟨b, off, none⟩ : Addr).add (i * 2)) = some (.int .i64 (f i).1) ∧ W.cell? ((⟨b, off, none⟩ : Addr).add (i * 2 + 1)) = some (.string (bs (f i).2)) :=
        ⟨fun i => if h : i < m then (each i h).choose else (0, []), fun i hi => by simp only [dif_pos hi]; exact (each i hi).choose_spec⟩
      refine ⟨(List.range len).map f, .inr <| .inr ⟨b, off, m, by simp, by simpa using hl, hbb, fun i t ht => ?_⟩⟩
      have hi : i < len := by have := (List.getElem?_eq_some_iff.1 ht).1; simpa using this
      rw [List.getElem?_map, List.getElem?_range hi] at ht
      simp at ht
      subst ht
      have := hf i (by omega)
      rw [Addr.add_mid, Addr.add_mid] at this
      exact this
set_option maxRecDepth 100000 in
theorem open_cert {H : Type} {enc : TypeId × Value → H} {W : World} {base : Nat} {v : Value} {d : DataW H} {p : List MemPlace} (hval : Value.okWide Tryd.prog W .any base 58 v) (h : DataW.Trod enc Tryd.prog W 0 (fun _ => true) true 58 v d p) :
    ∃ (x : List UInt8) (g : Int) (l : List Tg) (u : Value), v = .agg #[.string (bs x), .int .i64 g, u] ∧ Tp W u l := by
  obtain ⟨v0, v1, v2, y0, y1, y2, n, rfl, _, _, h0, h1, h2⟩ := Joins.open_agg3 Tryd.underlying58 (by kernel_rfl) Tryd.cells58 hval h
  obtain ⟨s, e0, _, _⟩ := DataW.trod_string Tryd.underlying9 h0
  obtain ⟨g, e1, _, _⟩ := DataW.trod_int Tryd.underlying3 h1
  obtain ⟨l, hl⟩ := open_tags h2
  simp at e0 e1
  subst e0 e1
  exact ⟨s.data.toList, g, l, v2, by rw [bs_data], hl⟩
end Go.Proofs.YtoniohmceaflnaaDoor
