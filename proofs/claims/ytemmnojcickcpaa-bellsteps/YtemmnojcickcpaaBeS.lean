/- A list of steps that came in. -/
import Derived.Test.YtemmnojcickcpaaBeA
import Derived.ProofKit
import Derived.OpenShut
import Derived.Deep.Slices
import Derived.Deep.Strs
import Derived.Lib.SmallJoins
namespace Go.Proofs.Ytemmnojcickcpaa
open Go.ChangeShapes Go.WideShapes Go.ChangeAt Go.RowKit Go.Deep

/-- A step: what, which name, how much. -/
abbrev Stp := Int × Int × Int
/-- The cells of a step. -/
def StpAt (w : World) (b o : Nat) (s : Stp) : Prop :=
  w.cell? ⟨b, o, none⟩ = some (.int .i64 s.1) ∧ w.cell? ⟨b, o + 1, none⟩ = some (.int .i64 s.2.1) ∧ w.cell? ⟨b, o + 2, none⟩ = some (.int .i64 s.2.2)
theorem StpAt.below {w w' : World} {b o : Nat} {s : Stp} (h : StpAt w b o s) {B : Nat} (hb : Below B w w') (hB : b < B) : StpAt w' b o s :=
  ⟨(hb.cell (p := ⟨b, _, none⟩) hB).trans h.1, (hb.cell (p := ⟨b, _, none⟩) hB).trans h.2.1, (hb.cell (p := ⟨b, _, none⟩) hB).trans h.2.2⟩
/-- v is a slice of just these steps. -/
def Stl (w : World) (v : Value) (l : List Stp) : Prop :=
  (l = [] ∧ ∃ a c, v = .slice a 0 c) ∨ ∃ b o cap, v = .slice (some ⟨b, o, none⟩) l.length cap ∧ b < w.heap.size ∧ ∀ (i : Nat) s, l[i]? = some s → StpAt w b (o + i * 3) s
theorem Stl.below {w w' : World} {v : Value} {l : List Stp} (h : Stl w v l) {B : Nat} (hb : Below B w w') (hB : w.heap.size ≤ B) : Stl w' v l := by
  rcases h with h | ⟨b, o, cap, rfl, hlt, h⟩
  · exact .inl h
  · exact .inr ⟨b, o, cap, rfl, Nat.lt_of_lt_of_le hlt hb.size, fun i s hs => (h i s hs).below hb (by omega)⟩
theorem Stl.slice {w : World} {v : Value} {l : List Stp} (h : Stl w v l) : ∃ a c, v = .slice a l.length c := by
  rcases h with ⟨rfl, a, c, rfl⟩ | ⟨b, o, cap, rfl, _⟩
  · exact ⟨a, c, rfl⟩
  · exact ⟨_, _, rfl⟩
theorem Stl.at {w : World} {a : Option Addr} {c : Nat} {l : List Stp} (h : Stl w (.slice a l.length c) l) {k : Nat} {s : Stp} (hk : l[k]? = some s) : ∃ b o, a = some ⟨b, o, none⟩ ∧ b < w.heap.size ∧ StpAt w b (o + k * 3) s := by
  rcases h with ⟨rfl, _⟩ | ⟨b, o, cap, hv, hlt, h⟩
  · cases hk
  · injection hv with h1 _ _
    exact ⟨b, o, h1, hlt, h k s hk⟩

theorem Try.cellsStep : Try.prog.cellsOf 59 = 3 := by kernel_rfl
theorem Try.cellsI : Try.prog.cellsOf 3 = 1 := by kernel_rfl
set_option maxRecDepth 100000 in
theorem open_steps {H : Type} {enc : TypeId × Value → H} {W : World} {base : Nat} {v : Value} {d : DataW H} {p : List MemPlace} (hval : Value.okWide Try.prog W .any base 53 v)
    (h : ∃ fuel, DataW.trod enc Try.prog W 0 (fun _ => true) true fuel 53 v.cells.toList = some (d, p)) : ∃ l : List Stp, Stl W v l := by
  obtain ⟨a, len, cap, rfl⟩ := okWide_slice Try.underlying53 hval
  obtain ⟨fuel, hf⟩ := h
  rcases open_slice Try.underlying53 hf with ⟨hcs, _⟩ | ⟨x, l, c, m, n, D, Pl, hcs, _, hl, hm, hmm, _, hx⟩
  · simp [Value.cells] at hcs
    obtain ⟨rfl, rfl, rfl⟩ := hcs
    exact ⟨[], .inl ⟨rfl, none, 0, rfl⟩⟩
  · simp [Value.cells] at hcs
    obtain ⟨rfl, rfl, rfl⟩ := hcs
    have hmc : m = cap := by simpa using hmm
    subst hmc
    by_cases h0 : len = 0
    · subst h0; exact ⟨[], .inl ⟨rfl, _, _, rfl⟩⟩
    · have each : ∀ i, i < m → ∃ s : Stp, W.cell? (x.add (i * 3)) = some (.int .i64 s.1) ∧ W.cell? (x.add (i * 3 + 1)) = some (.int .i64 s.2.1) ∧ W.cell? (x.add (i * 3 + 2)) = some (.int .i64 s.2.2) := by
        intro i hi
        obtain ⟨cs', h1, h2⟩ := hx i hi
        rw [Try.cellsStep] at h1
        obtain ⟨_, hlen, hcell⟩ := World.cells?_some h1
        obtain ⟨y0, y1, y2, n1, _, _, t0, t1, t2⟩ := trod_struct3 Try.underlying59 h2
        match cs', hlen with
        | [q0, q1, q2], _ =>
          have e0 := hcell 0 (by omega)
          have e1 := hcell 1 (by omega)
          have e2 := hcell 2 (by omega)
          simp [Addr.add_add] at e0 e1 e2
          obtain ⟨a0, f0, _⟩ := DataW.trod_int Try.underlying3 t0
          obtain ⟨a1, f1, _⟩ := DataW.trod_int Try.underlying3 t1
          obtain ⟨a2, f2, _⟩ := DataW.trod_int Try.underlying3 t2
          simp [Try.cellsI] at f0 f1 f2
          subst f0 f1 f2
          exact ⟨(a0, a1, a2), e0, e1, e2⟩
      obtain ⟨b, off, spot⟩ := x
      obtain ⟨s0, hc0, _⟩ := each 0 (by omega)
      have hspot : spot = none := by simpa [Addr.add] using World.cell?_spot hc0
      subst hspot
      have hbb : b < W.heap.size := by simpa [Addr.add] using World.block_lt_of_cell? W _ hc0
      have each2 : ∀ i, i < m → ∃ s, StpAt W b (off + i * 3) s := fun i hi => by
        obtain ⟨s, h⟩ := each i hi
        rw [Addr.add_mid, Addr.add_mid, Addr.add_mid] at h
        exact ⟨s, h⟩
      obtain ⟨f, hf⟩ : ∃ f : Nat → Stp, ∀ i, i < m → StpAt W b (off + i * 3) (f i) :=
        ⟨fun i => if h : i < m then (each2 i h).choose else (0, 0, 0), fun i hi => by simp only [dif_pos hi]; exact (each2 i hi).choose_spec⟩
      refine ⟨(List.range len).map f, .inr ⟨b, off, m, by simp, hbb, fun i s hs => ?_⟩⟩
      have hi : i < len := by have := (List.getElem?_eq_some_iff.1 hs).1; simpa using this
      rw [List.getElem?_map, List.getElem?_range hi] at hs
      simp at hs
      subst hs
      exact hf i (by omega)
end Go.Proofs.Ytemmnojcickcpaa
