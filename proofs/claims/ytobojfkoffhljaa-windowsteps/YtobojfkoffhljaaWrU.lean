/- Steps that came in, opened. -/
import Derived.Test.YtobojfkoffhljaaSoA
import Derived.ProofKit
import Derived.OpenShut
import Derived.SliceStrings
import Derived.Deep.Slices
import Derived.Deep.Strs
import Derived.Lib.SmallJoins
namespace Go.Proofs.Ytobojfkoffhljaa
open Go.ChangeShapes Go.WideShapes Go.ChangeAt Go.RowKit Go.Deep

theorem Try.cells34 : Try.prog.cellsOf 34 = 4 := by kernel_rfl
theorem Try.cellsI : Try.prog.cellsOf 3 = 1 := by kernel_rfl
theorem Try.cellsS : Try.prog.cellsOf 9 = 1 := by kernel_rfl
/-- A step that came in: what, view, number, text. -/
abbrev Vo := Int × Int × Int × List UInt8
/-- The cells of a step. -/
def VlAt (w : World) (b o : Nat) (s : Vo) : Prop := w.cell? ⟨b, o, none⟩ = some (.int .i64 s.1) ∧ w.cell? ⟨b, o + 1, none⟩ = some (.int .i64 s.2.1) ∧ w.cell? ⟨b, o + 2, none⟩ = some (.int .i64 s.2.2.1) ∧ w.cell? ⟨b, o + 3, none⟩ = some (.string (bs s.2.2.2)) ∧ (Lit.int .i64 s.2.2.1).wf = true
theorem VlAt.below {w w' : World} {b o : Nat} {s : Vo} (h : VlAt w b o s) {B : Nat} (hb : Below B w w') (hB : b < B) : VlAt w' b o s :=
  ⟨(hb.cell (p := ⟨b, _, none⟩) hB).trans h.1, (hb.cell (p := ⟨b, _, none⟩) hB).trans h.2.1, (hb.cell (p := ⟨b, _, none⟩) hB).trans h.2.2.1, (hb.cell (p := ⟨b, _, none⟩) hB).trans h.2.2.2.1, h.2.2.2.2⟩
/-- v is a slice of just these. -/
def Vl (w : World) (v : Value) (l : List Vo) : Prop :=
  (l = [] ∧ ∃ a c, v = .slice a 0 c) ∨ ∃ b o cap, v = .slice (some ⟨b, o, none⟩) l.length cap ∧ b < w.heap.size ∧ ∀ (i : Nat) s, l[i]? = some s → VlAt w b (o + i * 4) s
theorem Vl.below {w w' : World} {v : Value} {l : List Vo} (h : Vl w v l) {B : Nat} (hb : Below B w w') (hB : w.heap.size ≤ B) : Vl w' v l := by
  rcases h with h | ⟨b, o, cap, rfl, hlt, h⟩
  · exact .inl h
  · exact .inr ⟨b, o, cap, rfl, Nat.lt_of_lt_of_le hlt hb.size, fun i s hs => (h i s hs).below hb (by omega)⟩
theorem Vl.slice {w : World} {v : Value} {l : List Vo} (h : Vl w v l) : ∃ a c, v = .slice a l.length c := by
  rcases h with ⟨rfl, a, c, rfl⟩ | ⟨b, o, cap, rfl, _⟩
  · exact ⟨a, c, rfl⟩
  · exact ⟨_, _, rfl⟩
theorem Vl.at {w : World} {a : Option Addr} {c : Nat} {l : List Vo} (h : Vl w (.slice a l.length c) l) {k : Nat} {s : Vo} (hk : l[k]? = some s) : ∃ b o, a = some ⟨b, o, none⟩ ∧ b < w.heap.size ∧ VlAt w b (o + k * 4) s := by
  rcases h with ⟨rfl, _⟩ | ⟨b, o, cap, hv, hlt, h⟩
  · cases hk
  · injection hv with h1 _ _
    exact ⟨b, o, h1, hlt, h k s hk⟩
set_option maxRecDepth 100000 in
theorem open_steps {H : Type} {enc : TypeId × Value → H} {W : World} {base : Nat} {v : Value} {d : DataW H} {p : List MemPlace} (hval : Value.okWide Try.prog W .any base 22 v)
    (h : ∃ fuel, DataW.trod enc Try.prog W 0 (fun _ => true) true fuel 22 v.cells.toList = some (d, p)) : ∃ l : List Vo, Vl W v l := by
  obtain ⟨a, len, cap, rfl⟩ := okWide_slice Try.underlying22 hval
  obtain ⟨fuel, hf⟩ := h
  rcases open_slice Try.underlying22 hf with ⟨hcs, _⟩ | ⟨x, l, c, m, n, D, Pl, hcs, _, hl, hm, hmm, _, hx⟩
  · simp [Value.cells] at hcs
    obtain ⟨rfl, rfl, rfl⟩ := hcs
    exact ⟨[], .inl ⟨rfl, none, 0, rfl⟩⟩
  · simp [Value.cells] at hcs
    obtain ⟨rfl, rfl, rfl⟩ := hcs
    have hmc : m = cap := by simpa using hmm
    subst hmc
    by_cases h0 : len = 0
    · subst h0; exact ⟨[], .inl ⟨rfl, _, _, rfl⟩⟩
    · have each : ∀ i, i < m → ∃ s : Vo, W.cell? (x.add (i * 4)) = some (.int .i64 s.1) ∧ W.cell? (x.add (i * 4 + 1)) = some (.int .i64 s.2.1) ∧ W.cell? (x.add (i * 4 + 2)) = some (.int .i64 s.2.2.1) ∧ W.cell? (x.add (i * 4 + 3)) = some (.string (bs s.2.2.2)) ∧ (Lit.int .i64 s.2.2.1).wf = true := by
        intro i hi
        obtain ⟨cs', h1, h2⟩ := hx i hi
        rw [Try.cells34] at h1
        obtain ⟨_, hlen, hcell⟩ := World.cells?_some h1
        obtain ⟨y0, y1, y2, y3, n1, _, _, t0, t1, t2, t3⟩ := Joins.trod_struct4 Try.underlying34 h2
        match cs', hlen with
        | [q0, q1, q2, q3], _ =>
          have e0 := hcell 0 (by omega)
          have e1 := hcell 1 (by omega)
          have e2 := hcell 2 (by omega)
          have e3 := hcell 3 (by omega)
          simp [Addr.add_add] at e0 e1 e2 e3
          obtain ⟨a0, f0, _⟩ := DataW.trod_int Try.underlying3 t0
          obtain ⟨a1, f1, _⟩ := DataW.trod_int Try.underlying3 t1
          obtain ⟨a2, f2, _, wf2⟩ := DataW.trod_int Try.underlying3 t2
          obtain ⟨a3, f3, _⟩ := DataW.trod_string Try.underlying9 t3
          simp [Try.cellsI, Try.cellsS] at f0 f1 f2 f3
          subst f0 f1 f2 f3
          exact ⟨(a0, a1, a2, a3.data.toList), e0, e1, e2, by rw [bs_data]; exact e3, wf2⟩
      obtain ⟨b, off, spot⟩ := x
      obtain ⟨s0, hc0, _⟩ := each 0 (by omega)
      have hspot : spot = none := by simpa [Addr.add] using World.cell?_spot hc0
      subst hspot
      have hbb : b < W.heap.size := by simpa [Addr.add] using World.block_lt_of_cell? W _ hc0
      have each2 : ∀ i, i < m → ∃ s, VlAt W b (off + i * 4) s := fun i hi => by
        obtain ⟨s, h⟩ := each i hi
        rw [Addr.add_mid, Addr.add_mid, Addr.add_mid, Addr.add_mid] at h
        exact ⟨s, h⟩
      obtain ⟨f, hf⟩ : ∃ f : Nat → Vo, ∀ i, i < m → VlAt W b (off + i * 4) (f i) :=
        ⟨fun i => if h : i < m then (each2 i h).choose else (0, 0, 0, []), fun i hi => by simp only [dif_pos hi]; exact (each2 i hi).choose_spec⟩
      refine ⟨(List.range len).map f, .inr ⟨b, off, m, by simp, hbb, fun i s hs => ?_⟩⟩
      have hi : i < len := by have := (List.getElem?_eq_some_iff.1 hs).1; simpa using this
      rw [List.getElem?_map, List.getElem?_range hi] at hs
      simp at hs
      subst hs
      exact hf i (by omega)
end Go.Proofs.Ytobojfkoffhljaa
