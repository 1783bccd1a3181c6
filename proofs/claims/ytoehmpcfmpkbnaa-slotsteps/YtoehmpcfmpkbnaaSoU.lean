/- Arguments that came in, opened: what a slot is of, a vote, votes, what replicas told. -/
import Derived.Test.YtoehmpcfmpkbnaaSoA
import Derived.ProofKit
import Derived.OpenShut
import Derived.SliceStrings
import Derived.Deep.Slices
import Derived.Deep.Strs
import Derived.Lib.SmallJoins
namespace Go.Proofs.Ytoehmpcfmpkbnaa
open Go.ChangeShapes Go.WideShapes Go.ChangeAt Go.RowKit Go.Deep

theorem Try.cells23 : Try.prog.cellsOf 23 = 3 := by kernel_rfl
theorem Try.cells34 : Try.prog.cellsOf 34 = 4 := by kernel_rfl
theorem Try.cells64 : Try.prog.cellsOf 64 = 4 := by kernel_rfl
theorem Try.cells62 : Try.prog.cellsOf 62 = 1 := by kernel_rfl
theorem Try.cellsI : Try.prog.cellsOf 3 = 1 := by kernel_rfl
theorem Try.cellsS : Try.prog.cellsOf 9 = 1 := by kernel_rfl
set_option maxRecDepth 100000 in
theorem open_of {H : Type} {enc : TypeId × Value → H} {W : World} {base : Nat} {v : Value} {d : DataW H} {p : List MemPlace} (hval : Value.okWide Try.prog W .any base 23 v) (h : DataW.Trod enc Try.prog W 0 (fun _ => true) true 23 v d p) :
    ∃ (g f q : Int), v = .agg #[.int .i64 g, .int .i64 f, .int .i64 q] := by
  obtain ⟨cs, rfl, hcs⟩ := okWide_struct Try.underlying23 hval
  rw [Try.cells23] at hcs
  obtain ⟨fuel, hf⟩ := h
  obtain ⟨y0, y1, y2, n, _, _, h0, h1, h2⟩ := trod_struct3 Try.underlying23 hf
  obtain ⟨c0, c1, c2, rfl⟩ := Joins.array3 hcs
  obtain ⟨a0, e0, _, w0⟩ := DataW.trod_int Try.underlying3 h0
  obtain ⟨a1, e1, _, w1⟩ := DataW.trod_int Try.underlying3 h1
  obtain ⟨a2, e2, _, w2⟩ := DataW.trod_int Try.underlying3 h2
  simp [Value.cells, Try.cellsI] at e0 e1 e2
  subst e0 e1 e2
  exact ⟨a0, a1, a2, rfl⟩
set_option maxRecDepth 100000 in
theorem open_vote {H : Type} {enc : TypeId × Value → H} {W : World} {base : Nat} {v : Value} {d : DataW H} {p : List MemPlace} (hval : Value.okWide Try.prog W .any base 34 v) (h : DataW.Trod enc Try.prog W 0 (fun _ => true) true 34 v d p) :
    ∃ (k n : Int) (t g : List UInt8), v = .agg #[.int .i64 k, .int .i64 n, .string (bs t), .string (bs g)] := by
  obtain ⟨cs, rfl, hcs⟩ := okWide_struct Try.underlying34 hval
  rw [Try.cells34] at hcs
  obtain ⟨fuel, hf⟩ := h
  obtain ⟨y0, y1, y2, y3, n, _, _, h0, h1, h2, h3⟩ := Joins.trod_struct4 Try.underlying34 hf
  obtain ⟨c0, c1, c2, c3, rfl⟩ := Joins.array4 hcs
  obtain ⟨a0, e0, _, w0⟩ := DataW.trod_int Try.underlying3 h0
  obtain ⟨a1, e1, _, w1⟩ := DataW.trod_int Try.underlying3 h1
  obtain ⟨a2, e2, _, w2⟩ := DataW.trod_string Try.underlying9 h2
  obtain ⟨a3, e3, _, w3⟩ := DataW.trod_string Try.underlying9 h3
  simp [Value.cells, Try.cellsI, Try.cellsS] at e0 e1 e2 e3
  subst e0 e1 e2 e3
  exact ⟨a0, a1, a2.data.toList, a3.data.toList, by rw [bs_data, bs_data]⟩
/-- A vote that came in: kind, number, text, tag. -/
abbrev Vo := Int × Int × List UInt8 × List UInt8
/-- The cells of a vote. -/
def VlAt (w : World) (b o : Nat) (s : Vo) : Prop := w.cell? ⟨b, o, none⟩ = some (.int .i64 s.1) ∧ w.cell? ⟨b, o + 1, none⟩ = some (.int .i64 s.2.1) ∧ w.cell? ⟨b, o + 2, none⟩ = some (.string (bs s.2.2.1)) ∧ w.cell? ⟨b, o + 3, none⟩ = some (.string (bs s.2.2.2))
theorem VlAt.below {w w' : World} {b o : Nat} {s : Vo} (h : VlAt w b o s) {B : Nat} (hb : Below B w w') (hB : b < B) : VlAt w' b o s :=
  ⟨(hb.cell (p := ⟨b, _, none⟩) hB).trans h.1, (hb.cell (p := ⟨b, _, none⟩) hB).trans h.2.1, (hb.cell (p := ⟨b, _, none⟩) hB).trans h.2.2.1, (hb.cell (p := ⟨b, _, none⟩) hB).trans h.2.2.2⟩
/-- v is a slice of just these. -/
def Vl (w : World) (v : Value) (l : List Vo) : Prop :=
  (l = [] ∧ ∃ a c, v = .slice a 0 c) ∨ ∃ b o cap, v = .slice (some ⟨b, o, none⟩) l.length cap ∧ b < w.heap.size ∧ ∀ (i : Nat) s, l[i]? = some s → VlAt w b (o + i * 4) s
theorem Vl.below {w w' : World} {v : Value} {l : List Vo} (h : Vl w v l) {B : Nat} (hb : Below B w w') (hB : w.heap.size ≤ B) : Vl w' v l := by
  rcases h with h | ⟨b, o, cap, rfl, hlt, h⟩
  · exact .inl h
  · exact .inr ⟨b, o, cap, rfl, Nat.lt_of_lt_of_le hlt hb.size, fun i s hs => (h i s hs).below hb (by omega)⟩
theorem Vl.slice {w : World} {v : Value} {l : List Vo} (h : Vl w v l) : ∃ a c, v = .slice a l.length c := by
  rcases h with ⟨rfl, a, c, rfl⟩ | ⟨b, o, cap, rfl, _⟩
  · exact ⟨a, c, rfl⟩
  · exact ⟨_, _, rfl⟩
theorem Vl.at {w : World} {a : Option Addr} {c : Nat} {l : List Vo} (h : Vl w (.slice a l.length c) l) {k : Nat} {s : Vo} (hk : l[k]? = some s) : ∃ b o, a = some ⟨b, o, none⟩ ∧ b < w.heap.size ∧ VlAt w b (o + k * 4) s := by
  rcases h with ⟨rfl, _⟩ | ⟨b, o, cap, hv, hlt, h⟩
  · cases hk
  · injection hv with h1 _ _
    exact ⟨b, o, h1, hlt, h k s hk⟩
set_option maxRecDepth 100000 in
theorem open_votes {H : Type} {enc : TypeId × Value → H} {W : World} {base : Nat} {v : Value} {d : DataW H} {p : List MemPlace} (hval : Value.okWide Try.prog W .any base 24 v)
    (h : ∃ fuel, DataW.trod enc Try.prog W 0 (fun _ => true) true fuel 24 v.cells.toList = some (d, p)) : ∃ l : List Vo, Vl W v l := by
  obtain ⟨a, len, cap, rfl⟩ := okWide_slice Try.underlying24 hval
  obtain ⟨fuel, hf⟩ := h
  rcases open_slice Try.underlying24 hf with ⟨hcs, _⟩ | ⟨x, l, c, m, n, D, Pl, hcs, _, hl, hm, hmm, _, hx⟩
  · simp [Value.cells] at hcs
    obtain ⟨rfl, rfl, rfl⟩ := hcs
    exact ⟨[], .inl ⟨rfl, none, 0, rfl⟩⟩
  · simp [Value.cells] at hcs
    obtain ⟨rfl, rfl, rfl⟩ := hcs
    have hmc : m = cap := by simpa using hmm
    subst hmc
    by_cases h0 : len = 0
    · subst h0; exact ⟨[], .inl ⟨rfl, _, _, rfl⟩⟩
    · have each : ∀ i, i < m → ∃ s : Vo, W.cell? (x.add (i * 4)) = some (.int .i64 s.1) ∧ W.cell? (x.add (i * 4 + 1)) = some (.int .i64 s.2.1) ∧ W.cell? (x.add (i * 4 + 2)) = some (.string (bs s.2.2.1)) ∧ W.cell? (x.add (i * 4 + 3)) = some (.string (bs s.2.2.2)) := by
        intro i hi
        obtain ⟨cs', h1, h2⟩ := hx i hi
        rw [Try.cells34] at h1
        obtain ⟨_, hlen, hcell⟩ := World.cells?_some h1
        obtain ⟨y0, y1, y2, y3, n1, _, _, t0, t1, t2, t3⟩ := Joins.trod_struct4 Try.underlying34 h2
        match cs', hlen with
        | [q0, q1, q2, q3], _ =>
          have e0 := hcell 0 (by omega)
          have e1 := hcell 1 (by omega)
          have e2 := hcell 2 (by omega)
          have e3 := hcell 3 (by omega)
          simp [Addr.add_add] at e0 e1 e2 e3
          obtain ⟨a0, f0, _⟩ := DataW.trod_int Try.underlying3 t0
          obtain ⟨a1, f1, _⟩ := DataW.trod_int Try.underlying3 t1
          obtain ⟨a2, f2, _⟩ := DataW.trod_string Try.underlying9 t2
          obtain ⟨a3, f3, _⟩ := DataW.trod_string Try.underlying9 t3
          simp [Try.cellsI, Try.cellsS] at f0 f1 f2 f3
          subst f0 f1 f2 f3
          exact ⟨(a0, a1, a2.data.toList, a3.data.toList), e0, e1, by rw [bs_data]; exact e2, by rw [bs_data]; exact e3⟩
      obtain ⟨b, off, spot⟩ := x
      obtain ⟨s0, hc0, _⟩ := each 0 (by omega)
      have hspot : spot = none := by simpa [Addr.add] using World.cell?_spot hc0
      subst hspot
      have hbb : b < W.heap.size := by simpa [Addr.add] using World.block_lt_of_cell? W _ hc0
      have each2 : ∀ i, i < m → ∃ s, VlAt W b (off + i * 4) s := fun i hi => by
        obtain ⟨s, h⟩ := each i hi
        rw [Addr.add_mid, Addr.add_mid, Addr.add_mid, Addr.add_mid] at h
        exact ⟨s, h⟩
      obtain ⟨f, hf⟩ : ∃ f : Nat → Vo, ∀ i, i < m → VlAt W b (off + i * 4) (f i) :=
        ⟨fun i => if h : i < m then (each2 i h).choose else (0, 0, [], []), fun i hi => by simp only [dif_pos hi]; exact (each2 i hi).choose_spec⟩
      refine ⟨(List.range len).map f, .inr ⟨b, off, m, by simp, hbb, fun i s hs => ?_⟩⟩
      have hi : i < len := by have := (List.getElem?_eq_some_iff.1 hs).1; simpa using this
      rw [List.getElem?_map, List.getElem?_range hi] at hs
      simp at hs
      subst hs
      exact hf i (by omega)
/-- v is a slice of just these texts. -/
def Sl (w : World) (v : Value) (l : List (List UInt8)) : Prop :=
  (l = [] ∧ ∃ a c, v = .slice a 0 c) ∨ ∃ b o cap, v = .slice (some ⟨b, o, none⟩) l.length cap ∧ b < w.heap.size ∧ ∀ (i : Nat) t, l[i]? = some t → w.cell? ⟨b, o + i, none⟩ = some (.string (bs t))
theorem Sl.below {w w' : World} {v : Value} {l : List (List UInt8)} (h : Sl w v l) {B : Nat} (hb : Below B w w') (hB : w.heap.size ≤ B) : Sl w' v l := by
  rcases h with h | ⟨b, o, cap, rfl, hlt, h⟩
  · exact .inl h
  · exact .inr ⟨b, o, cap, rfl, Nat.lt_of_lt_of_le hlt hb.size, fun i t ht => (hb.cell (p := ⟨b, _, none⟩) (by show b < B; omega)).trans (h i t ht)⟩
theorem Sl.slice {w : World} {v : Value} {l : List (List UInt8)} (h : Sl w v l) : ∃ a c, v = .slice a l.length c := by
  rcases h with ⟨rfl, a, c, rfl⟩ | ⟨b, o, cap, rfl, _⟩
  · exact ⟨a, c, rfl⟩
  · exact ⟨_, _, rfl⟩
theorem Sl.at {w : World} {a : Option Addr} {c : Nat} {l : List (List UInt8)} (h : Sl w (.slice a l.length c) l) {k : Nat} {t : List UInt8} (hk : l[k]? = some t) : ∃ b o, a = some ⟨b, o, none⟩ ∧ b < w.heap.size ∧ w.cell? ⟨b, o + k, none⟩ = some (.string (bs t)) := by
  rcases h with ⟨rfl, _⟩ | ⟨b, o, cap, hv, hlt, h⟩
  · cases hk
  · injection hv with h1 _ _
    exact ⟨b, o, h1, hlt, h k t hk⟩
set_option maxRecDepth 100000 in
theorem open_texts {H : Type} {enc : TypeId × Value → H} {W : World} {v : Value} {x : DataW H × List MemPlace} {fuel : Nat} (hf : DataW.trod enc Try.prog W 0 (fun _ => true) true fuel 62 [v] = some x) : ∃ l : List (List UInt8), Sl W v l := by
  obtain ⟨d, p⟩ := x
  rcases open_strings Try.underlying62 Try.underlying9 Try.cellsS hf with ⟨hcs, _⟩ | ⟨x, len, cap, ss, hcs, _, hl, hm, hzz, hx, hcell, _⟩
  · simp at hcs
    subst hcs
    exact ⟨[], .inl ⟨rfl, none, 0, rfl⟩⟩
  · simp at hcs
    subst hcs
    have hss : ss.length = cap := by simpa using hzz
    have hlen : ((ss.take len).map (·.data.toList)).length = len := by simp; omega
    refine ⟨(ss.take len).map (·.data.toList), ?_⟩
    by_cases h00 : len = 0
    · subst h00
      exact .inl ⟨by simp, _, _, rfl⟩
    · obtain ⟨b, off, spot⟩ := x
      have hc0 := hcell 0 (by omega)
      have hspot : spot = none := by simpa [Addr.add] using World.cell?_spot hc0
      subst hspot
      have hb := World.block_lt_of_cell? W _ hc0
      have hbb : b < W.heap.size := by simpa [Addr.add] using hb
      refine .inr ⟨b, off, cap, by rw [hlen], hbb, fun i t hti => ?_⟩
      have hi : i < len := by rw [← hlen]; exact (List.getElem?_eq_some_iff.1 hti).1
      have hci := hcell i (by omega)
      rw [Addr.add_mid] at hci
      rw [hci]
      rw [List.getElem?_map, List.getElem?_take_of_lt hi] at hti
      obtain ⟨y, hy, rfl⟩ := Option.map_eq_some_iff.1 hti
      rw [List.getD_eq_getElem?_getD, hy, Option.getD_some, bs_data]
set_option maxRecDepth 100000 in
theorem open_told {H : Type} {enc : TypeId × Value → H} {W : World} {base : Nat} {v : Value} {d : DataW H} {p : List MemPlace} (hval : Value.okWide Try.prog W .any base 64 v) (h : DataW.Trod enc Try.prog W 0 (fun _ => true) true 64 v d p) :
    ∃ (s : Int) (v1 v2 v3 : Value) (l1 l2 l3 : List (List UInt8)), v = .agg #[.int .i64 s, v1, v2, v3] ∧ Sl W v1 l1 ∧ Sl W v2 l2 ∧ Sl W v3 l3 := by
  obtain ⟨cs, rfl, hcs⟩ := okWide_struct Try.underlying64 hval
  rw [Try.cells64] at hcs
  obtain ⟨fuel, hf⟩ := h
  obtain ⟨y0, y1, y2, y3, n, _, _, h0, h1, h2, h3⟩ := Joins.trod_struct4 Try.underlying64 hf
  obtain ⟨c0, c1, c2, c3, rfl⟩ := Joins.array4 hcs
  obtain ⟨a0, e0, _, w0⟩ := DataW.trod_int Try.underlying3 h0
  simp [Value.cells, Try.cellsI] at e0
  simp [Value.cells, Try.cells62] at h1 h2 h3
  subst e0
  obtain ⟨l1, k1⟩ := open_texts h1
  obtain ⟨l2, k2⟩ := open_texts h2
  obtain ⟨l3, k3⟩ := open_texts h3
  exact ⟨a0, c1, c2, c3, l1, l2, l3, rfl, k1, k2, k3⟩
end Go.Proofs.Ytoehmpcfmpkbnaa
