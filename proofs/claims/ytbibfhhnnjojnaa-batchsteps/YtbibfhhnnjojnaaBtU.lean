/- Arguments that came in, opened: a request, requests, steps. -/
import Derived.Test.YtbibfhhnnjojnaaBtA
import Derived.ProofKit
import Derived.OpenShut
import Derived.Deep.Slices
import Derived.Deep.Strs
import Derived.Lib.SmallJoins
namespace Go.Proofs.Ytbibfhhnnjojnaa
open Go.ChangeShapes Go.WideShapes Go.ChangeAt Go.RowKit Go.Deep

theorem Try.cells33 : Try.prog.cellsOf 33 = 4 := by kernel_rfl
theorem Try.cells31 : Try.prog.cellsOf 31 = 3 := by kernel_rfl
theorem Try.cellsI : Try.prog.cellsOf 3 = 1 := by kernel_rfl
theorem Try.cellsS : Try.prog.cellsOf 9 = 1 := by kernel_rfl
set_option maxRecDepth 100000 in
theorem open_request {H : Type} {enc : TypeId × Value → H} {W : World} {base : Nat} {v : Value} {d : DataW H} {p : List MemPlace} (hval : Value.okWide Try.prog W .any base 31 v) (h : DataW.Trod enc Try.prog W 0 (fun _ => true) true 31 v d p) :
    ∃ (c n : Int) (t : List UInt8), v = .agg #[.int .i64 c, .int .i64 n, .string (bs t)] := by
  obtain ⟨cs, rfl, hcs⟩ := okWide_struct Try.underlying31 hval
  rw [Try.cells31] at hcs
  obtain ⟨fuel, hf⟩ := h
  obtain ⟨y0, y1, y2, n, _, _, h0, h1, h2⟩ := trod_struct3 Try.underlying31 hf
  obtain ⟨c0, c1, c2, rfl⟩ := Joins.array3 hcs
  obtain ⟨a0, e0, _, w0⟩ := DataW.trod_int Try.underlying3 h0
  obtain ⟨a1, e1, _, w1⟩ := DataW.trod_int Try.underlying3 h1
  obtain ⟨a2, e2, _, w2⟩ := DataW.trod_string Try.underlying9 h2
  simp [Value.cells, Try.cellsI, Try.cellsS] at e0 e1 e2
  subst e0 e1 e2
  exact ⟨a0, a1, a2.data.toList, by rw [bs_data]⟩
/-- A step: what, and a request. -/
abbrev Stp := Int × Rq
/-- The cells of a request. -/
def RqlAt (w : World) (b o : Nat) (s : Rq) : Prop := w.cell? ⟨b, o, none⟩ = some (.int .i64 s.1) ∧ w.cell? ⟨b, o + 1, none⟩ = some (.int .i64 s.2.1) ∧ w.cell? ⟨b, o + 2, none⟩ = some (.string (bs s.2.2))
theorem RqlAt.below {w w' : World} {b o : Nat} {s : Rq} (h : RqlAt w b o s) {B : Nat} (hb : Below B w w') (hB : b < B) : RqlAt w' b o s :=
  ⟨(hb.cell (p := ⟨b, _, none⟩) hB).trans h.1, (hb.cell (p := ⟨b, _, none⟩) hB).trans h.2.1, (hb.cell (p := ⟨b, _, none⟩) hB).trans h.2.2⟩
/-- v is a slice of just these. -/
def Rql (w : World) (v : Value) (l : List Rq) : Prop :=
  (l = [] ∧ ∃ a c, v = .slice a 0 c) ∨ ∃ b o cap, v = .slice (some ⟨b, o, none⟩) l.length cap ∧ b < w.heap.size ∧ ∀ (i : Nat) s, l[i]? = some s → RqlAt w b (o + i * 3) s
theorem Rql.below {w w' : World} {v : Value} {l : List Rq} (h : Rql w v l) {B : Nat} (hb : Below B w w') (hB : w.heap.size ≤ B) : Rql w' v l := by
  rcases h with h | ⟨b, o, cap, rfl, hlt, h⟩
  · exact .inl h
  · exact .inr ⟨b, o, cap, rfl, Nat.lt_of_lt_of_le hlt hb.size, fun i s hs => (h i s hs).below hb (by omega)⟩
theorem Rql.slice {w : World} {v : Value} {l : List Rq} (h : Rql w v l) : ∃ a c, v = .slice a l.length c := by
  rcases h with ⟨rfl, a, c, rfl⟩ | ⟨b, o, cap, rfl, _⟩
  · exact ⟨a, c, rfl⟩
  · exact ⟨_, _, rfl⟩
theorem Rql.at {w : World} {a : Option Addr} {c : Nat} {l : List Rq} (h : Rql w (.slice a l.length c) l) {k : Nat} {s : Rq} (hk : l[k]? = some s) : ∃ b o, a = some ⟨b, o, none⟩ ∧ b < w.heap.size ∧ RqlAt w b (o + k * 3) s := by
  rcases h with ⟨rfl, _⟩ | ⟨b, o, cap, hv, hlt, h⟩
  · cases hk
  · injection hv with h1 _ _
    exact ⟨b, o, h1, hlt, h k s hk⟩
set_option maxRecDepth 100000 in
theorem open_requests {H : Type} {enc : TypeId × Value → H} {W : World} {base : Nat} {v : Value} {d : DataW H} {p : List MemPlace} (hval : Value.okWide Try.prog W .any base 45 v)
    (h : ∃ fuel, DataW.trod enc Try.prog W 0 (fun _ => true) true fuel 45 v.cells.toList = some (d, p)) : ∃ l : List Rq, Rql W v l := by
  obtain ⟨a, len, cap, rfl⟩ := okWide_slice Try.underlying45 hval
  obtain ⟨fuel, hf⟩ := h
  rcases open_slice Try.underlying45 hf with ⟨hcs, _⟩ | ⟨x, l, c, m, n, D, Pl, hcs, _, hl, hm, hmm, _, hx⟩
  · simp [Value.cells] at hcs
    obtain ⟨rfl, rfl, rfl⟩ := hcs
    exact ⟨[], .inl ⟨rfl, none, 0, rfl⟩⟩
  · simp [Value.cells] at hcs
    obtain ⟨rfl, rfl, rfl⟩ := hcs
    have hmc : m = cap := by simpa using hmm
    subst hmc
    by_cases h0 : len = 0
    · subst h0; exact ⟨[], .inl ⟨rfl, _, _, rfl⟩⟩
    · have each : ∀ i, i < m → ∃ s : Rq, W.cell? (x.add (i * 3)) = some (.int .i64 s.1) ∧ W.cell? (x.add (i * 3 + 1)) = some (.int .i64 s.2.1) ∧ W.cell? (x.add (i * 3 + 2)) = some (.string (bs s.2.2)) := by
        intro i hi
        obtain ⟨cs', h1, h2⟩ := hx i hi
        rw [Try.cells31] at h1
        obtain ⟨_, hlen, hcell⟩ := World.cells?_some h1
        obtain ⟨y0, y1, y2, n1, _, _, t0, t1, t2⟩ := trod_struct3 Try.underlying31 h2
        match cs', hlen with
        | [q0, q1, q2], _ =>
          have e0 := hcell 0 (by omega)
          have e1 := hcell 1 (by omega)
          have e2 := hcell 2 (by omega)
          simp [Addr.add_add] at e0 e1 e2
          obtain ⟨a0, f0, _⟩ := DataW.trod_int Try.underlying3 t0
          obtain ⟨a1, f1, _⟩ := DataW.trod_int Try.underlying3 t1
          obtain ⟨a2, f2, _⟩ := DataW.trod_string Try.underlying9 t2
          simp [Try.cellsI, Try.cellsS] at f0 f1 f2
          subst f0 f1 f2
          exact ⟨(a0, a1, a2.data.toList), e0, e1, by rw [bs_data]; exact e2⟩
      obtain ⟨b, off, spot⟩ := x
      obtain ⟨s0, hc0, _⟩ := each 0 (by omega)
      have hspot : spot = none := by simpa [Addr.add] using World.cell?_spot hc0
      subst hspot
      have hbb : b < W.heap.size := by simpa [Addr.add] using World.block_lt_of_cell? W _ hc0
      have each2 : ∀ i, i < m → ∃ s, RqlAt W b (off + i * 3) s := fun i hi => by
        obtain ⟨s, h⟩ := each i hi
        rw [Addr.add_mid, Addr.add_mid, Addr.add_mid] at h
        exact ⟨s, h⟩
      obtain ⟨f, hf⟩ : ∃ f : Nat → Rq, ∀ i, i < m → RqlAt W b (off + i * 3) (f i) :=
        ⟨fun i => if h : i < m then (each2 i h).choose else (0, 0, []), fun i hi => by simp only [dif_pos hi]; exact (each2 i hi).choose_spec⟩
      refine ⟨(List.range len).map f, .inr ⟨b, off, m, by simp, hbb, fun i s hs => ?_⟩⟩
      have hi : i < len := by have := (List.getElem?_eq_some_iff.1 hs).1; simpa using this
      rw [List.getElem?_map, List.getElem?_range hi] at hs
      simp at hs
      subst hs
      exact hf i (by omega)
/-- The cells of a step. -/
def StlAt (w : World) (b o : Nat) (s : Stp) : Prop := w.cell? ⟨b, o, none⟩ = some (.int .i64 s.1) ∧ w.cell? ⟨b, o + 1, none⟩ = some (.int .i64 s.2.1) ∧ w.cell? ⟨b, o + 2, none⟩ = some (.int .i64 s.2.2.1) ∧ w.cell? ⟨b, o + 3, none⟩ = some (.string (bs s.2.2.2))
theorem StlAt.below {w w' : World} {b o : Nat} {s : Stp} (h : StlAt w b o s) {B : Nat} (hb : Below B w w') (hB : b < B) : StlAt w' b o s :=
  ⟨(hb.cell (p := ⟨b, _, none⟩) hB).trans h.1, (hb.cell (p := ⟨b, _, none⟩) hB).trans h.2.1, (hb.cell (p := ⟨b, _, none⟩) hB).trans h.2.2.1, (hb.cell (p := ⟨b, _, none⟩) hB).trans h.2.2.2⟩
/-- v is a slice of just these. -/
def Stl (w : World) (v : Value) (l : List Stp) : Prop :=
  (l = [] ∧ ∃ a c, v = .slice a 0 c) ∨ ∃ b o cap, v = .slice (some ⟨b, o, none⟩) l.length cap ∧ b < w.heap.size ∧ ∀ (i : Nat) s, l[i]? = some s → StlAt w b (o + i * 4) s
theorem Stl.below {w w' : World} {v : Value} {l : List Stp} (h : Stl w v l) {B : Nat} (hb : Below B w w') (hB : w.heap.size ≤ B) : Stl w' v l := by
  rcases h with h | ⟨b, o, cap, rfl, hlt, h⟩
  · exact .inl h
  · exact .inr ⟨b, o, cap, rfl, Nat.lt_of_lt_of_le hlt hb.size, fun i s hs => (h i s hs).below hb (by omega)⟩
theorem Stl.slice {w : World} {v : Value} {l : List Stp} (h : Stl w v l) : ∃ a c, v = .slice a l.length c := by
  rcases h with ⟨rfl, a, c, rfl⟩ | ⟨b, o, cap, rfl, _⟩
  · exact ⟨a, c, rfl⟩
  · exact ⟨_, _, rfl⟩
theorem Stl.at {w : World} {a : Option Addr} {c : Nat} {l : List Stp} (h : Stl w (.slice a l.length c) l) {k : Nat} {s : Stp} (hk : l[k]? = some s) : ∃ b o, a = some ⟨b, o, none⟩ ∧ b < w.heap.size ∧ StlAt w b (o + k * 4) s := by
  rcases h with ⟨rfl, _⟩ | ⟨b, o, cap, hv, hlt, h⟩
  · cases hk
  · injection hv with h1 _ _
    exact ⟨b, o, h1, hlt, h k s hk⟩
set_option maxRecDepth 100000 in
theorem open_steps {H : Type} {enc : TypeId × Value → H} {W : World} {base : Nat} {v : Value} {d : DataW H} {p : List MemPlace} (hval : Value.okWide Try.prog W .any base 22 v)
    (h : ∃ fuel, DataW.trod enc Try.prog W 0 (fun _ => true) true fuel 22 v.cells.toList = some (d, p)) : ∃ l : List Stp, Stl W v l := by
  obtain ⟨a, len, cap, rfl⟩ := okWide_slice Try.underlying22 hval
  obtain ⟨fuel, hf⟩ := h
  rcases open_slice Try.underlying22 hf with ⟨hcs, _⟩ | ⟨x, l, c, m, n, D, Pl, hcs, _, hl, hm, hmm, _, hx⟩
  · simp [Value.cells] at hcs
    obtain ⟨rfl, rfl, rfl⟩ := hcs
    exact ⟨[], .inl ⟨rfl, none, 0, rfl⟩⟩
  · simp [Value.cells] at hcs
    obtain ⟨rfl, rfl, rfl⟩ := hcs
    have hmc : m = cap := by simpa using hmm
    subst hmc
    by_cases h0 : len = 0
    · subst h0; exact ⟨[], .inl ⟨rfl, _, _, rfl⟩⟩
    · have each : ∀ i, i < m → ∃ s : Stp, W.cell? (x.add (i * 4)) = some (.int .i64 s.1) ∧ W.cell? (x.add (i * 4 + 1)) = some (.int .i64 s.2.1) ∧ W.cell? (x.add (i * 4 + 2)) = some (.int .i64 s.2.2.1) ∧ W.cell? (x.add (i * 4 + 3)) = some (.string (bs s.2.2.2)) := by
        intro i hi
        obtain ⟨cs', h1, h2⟩ := hx i hi
        rw [Try.cells33] at h1
        obtain ⟨_, hlen, hcell⟩ := World.cells?_some h1
        obtain ⟨y0, y1, n1, _, _, t0, t1⟩ := trod_struct2 Try.underlying33 h2
        match cs', hlen with
        | [q0, q1, q2, q3], _ =>
          have e0 := hcell 0 (by omega)
          have e1 := hcell 1 (by omega)
          have e2 := hcell 2 (by omega)
          have e3 := hcell 3 (by omega)
          simp [Addr.add_add] at e0 e1 e2 e3
          obtain ⟨z0, z1, z2, n2, _, _, t2, t3, t4⟩ := trod_struct3 Try.underlying31 t1
          obtain ⟨a0, f0, _⟩ := DataW.trod_int Try.underlying3 t0
          obtain ⟨a1, f1, _⟩ := DataW.trod_int Try.underlying3 t2
          obtain ⟨a2, f2, _⟩ := DataW.trod_int Try.underlying3 t3
          obtain ⟨a3, f3, _⟩ := DataW.trod_string Try.underlying9 t4
          simp [Try.cells31, Try.cellsI, Try.cellsS] at f0 f1 f2 f3
          subst f0 f1 f2 f3
          exact ⟨(a0, a1, a2, a3.data.toList), e0, e1, e2, by rw [bs_data]; exact e3⟩
      obtain ⟨b, off, spot⟩ := x
      obtain ⟨s0, hc0, _⟩ := each 0 (by omega)
      have hspot : spot = none := by simpa [Addr.add] using World.cell?_spot hc0
      subst hspot
      have hbb : b < W.heap.size := by simpa [Addr.add] using World.block_lt_of_cell? W _ hc0
      have each2 : ∀ i, i < m → ∃ s, StlAt W b (off + i * 4) s := fun i hi => by
        obtain ⟨s, h⟩ := each i hi
        rw [Addr.add_mid, Addr.add_mid, Addr.add_mid, Addr.add_mid] at h
        exact ⟨s, h⟩
      obtain ⟨f, hf⟩ : ∃ f : Nat → Stp, ∀ i, i < m → StlAt W b (off + i * 4) (f i) :=
        ⟨fun i => if h : i < m then (each2 i h).choose else (0, 0, 0, []), fun i hi => by simp only [dif_pos hi]; exact (each2 i hi).choose_spec⟩
      refine ⟨(List.range len).map f, .inr ⟨b, off, m, by simp, hbb, fun i s hs => ?_⟩⟩
      have hi : i < len := by have := (List.getElem?_eq_some_iff.1 hs).1; simpa using this
      rw [List.getElem?_map, List.getElem?_range hi] at hs
      simp at hs
      subst hs
      exact hf i (by omega)
end Go.Proofs.Ytbibfhhnnjojnaa
