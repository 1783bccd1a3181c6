/- Arguments that came in, opened: a step. -/
import Derived.Test.YtgmobjdjojffgaaDoorTbT
import Derived.Test.YtgmobjdjojffgaaDoorSdN
import Derived.Lib.SmallJoins
import Derived.Deep.SlicePairs
import Derived.Deep.Slices
import Derived.Deep.Strs
namespace Go.Proofs.YtgmobjdjojffgaaDoor
open Go.ChangeShapes Go.WideShapes Go.ChangeAt Go.RowKit Go.Deep

theorem Tryd.cells42 : Tryd.prog.cellsOf 42 = 4 := by kernel_rfl
theorem Tryd.cells44 : Tryd.prog.cellsOf 44 = 8 := by kernel_rfl
theorem Tryd.cells3 : Tryd.prog.cellsOf 3 = 1 := by kernel_rfl
/-- An operation: its kind, key, value, old one. -/
structure Op4 where
  kind : Int
  k : List UInt8
  v : List UInt8
  o : List UInt8
def Op4.cells (s : Op4) : List Value := [.int .i64 s.kind, .string (bs s.k), .string (bs s.v), .string (bs s.o)]
/-- A step: what, of whom, its number, the operation, a text. -/
structure St8 where
  op : Int
  client : Int
  number : Int
  x : Op4
  t : List UInt8
def St8.cells (s : St8) : List Value := [.int .i64 s.op, .int .i64 s.client, .int .i64 s.number, .int .i64 s.x.kind, .string (bs s.x.k), .string (bs s.x.v), .string (bs s.x.o), .string (bs s.t)]
theorem list4 {cs : List Value} (h : cs.length = 4) : ∃ c0 c1 c2 c3, cs = [c0, c1, c2, c3] := by
  match cs, h with
  | [c0, c1, c2, c3], _ => exact ⟨c0, c1, c2, c3, rfl⟩
theorem list4' {α : Type} {xs : List α} (h : xs.length = 4) : ∃ y0 y1 y2 y3, xs = [y0, y1, y2, y3] := by
  match xs, h with
  | [y0, y1, y2, y3], _ => exact ⟨y0, y1, y2, y3, rfl⟩
theorem list5' {α : Type} {xs : List α} (h : xs.length = 5) : ∃ y0 y1 y2 y3 y4, xs = [y0, y1, y2, y3, y4] := by
  match xs, h with
  | [y0, y1, y2, y3, y4], _ => exact ⟨y0, y1, y2, y3, y4, rfl⟩
theorem list8 {cs : List Value} (h : cs.length = 8) : ∃ c0 c1 c2 c3 c4 c5 c6 c7, cs = [c0, c1, c2, c3, c4, c5, c6, c7] := by
  match cs, h with
  | [c0, c1, c2, c3, c4, c5, c6, c7], _ => exact ⟨c0, c1, c2, c3, c4, c5, c6, c7, rfl⟩
set_option maxRecDepth 100000 in
set_option maxHeartbeats 1000000 in
theorem open_op_cells {H : Type} {enc : TypeId × Value → H} {W : World} {fuel : Nat} {cs : List Value} {y : DataW H × List MemPlace} (h : DataW.trod enc Tryd.prog W 0 (fun _ => true) true fuel 42 cs = some y) :
    ∃ s : Op4, cs = s.cells := by
  obtain ⟨xs, n, _, rfl, hl, hlen, hf⟩ := DataW.trod_struct Tryd.underlying42 h
  rw [Tryd.cells42] at hl
  obtain ⟨c0, c1, c2, c3, rfl⟩ := list4 hl
  obtain ⟨y0, y1, y2, y3, rfl⟩ := list4' (by simpa using hlen)
  have h0 := hf 0 _ rfl
  have h1 := hf 1 _ rfl
  have h2 := hf 2 _ rfl
  have h3 := hf 3 _ rfl
  simp [Tryd.cells3, Tryd.cells9] at h0 h1 h2 h3
  obtain ⟨a0, e0, _, _⟩ := DataW.trod_int Tryd.underlying3 h0
  obtain ⟨a1, e1, _, _⟩ := DataW.trod_string Tryd.underlying9 h1
  obtain ⟨a2, e2, _, _⟩ := DataW.trod_string Tryd.underlying9 h2
  obtain ⟨a3, e3, _, _⟩ := DataW.trod_string Tryd.underlying9 h3
  simp at e0 e1 e2 e3
  subst e0 e1 e2 e3
  exact ⟨⟨a0, a1.data.toList, a2.data.toList, a3.data.toList⟩, by simp [Op4.cells, bs_data]⟩
set_option maxRecDepth 100000 in
set_option maxHeartbeats 1000000 in
theorem open_step_cells {H : Type} {enc : TypeId × Value → H} {W : World} {fuel : Nat} {cs : List Value} {y : DataW H × List MemPlace} (h : DataW.trod enc Tryd.prog W 0 (fun _ => true) true fuel 44 cs = some y) :
    ∃ s : St8, cs = s.cells := by
  obtain ⟨xs, n, _, rfl, hl, hlen, hf⟩ := DataW.trod_struct Tryd.underlying44 h
  rw [Tryd.cells44] at hl
  obtain ⟨c0, c1, c2, c3, c4, c5, c6, c7, rfl⟩ := list8 hl
  obtain ⟨y0, y1, y2, y3, y4, rfl⟩ := list5' (by simpa using hlen)
  have h0 := hf 0 _ rfl
  have h1 := hf 1 _ rfl
  have h2 := hf 2 _ rfl
  have h3 := hf 3 _ rfl
  have h4 := hf 4 _ rfl
  simp [Tryd.cells3, Tryd.cells9, Tryd.cells42] at h0 h1 h2 h3 h4
  obtain ⟨a0, e0, _, _⟩ := DataW.trod_int Tryd.underlying3 h0
  obtain ⟨a1, e1, _, _⟩ := DataW.trod_int Tryd.underlying3 h1
  obtain ⟨a2, e2, _, _⟩ := DataW.trod_int Tryd.underlying3 h2
  obtain ⟨x, e3⟩ := open_op_cells h3
  obtain ⟨a4, e4, _, _⟩ := DataW.trod_string Tryd.underlying9 h4
  simp [Op4.cells] at e0 e1 e2 e3 e4
  obtain ⟨e3, e5, e6, e7⟩ := e3
  subst e0 e1 e2 e3 e4 e5 e6 e7
  exact ⟨⟨a0, a1, a2, x, a4.data.toList⟩, by simp [St8.cells, bs_data]⟩
set_option maxRecDepth 100000 in
theorem open_step {H : Type} {enc : TypeId × Value → H} {W : World} {base : Nat} {v : Value} {d : DataW H} {p : List MemPlace} (hval : Value.okWide Tryd.prog W .any base 44 v) (h : DataW.Trod enc Tryd.prog W 0 (fun _ => true) true 44 v d p) :
    ∃ s : St8, v = .agg (stepC s.op s.client s.number s.x.kind s.x.k s.x.v s.x.o s.t) := by
  obtain ⟨cs, rfl, hcs⟩ := okWide_struct Tryd.underlying44 hval
  obtain ⟨fuel, hf⟩ := h
  obtain ⟨s, h1⟩ := open_step_cells hf
  refine ⟨s, ?_⟩
  simp [Value.cells] at h1
  have : cs = s.cells.toArray := by rw [← h1]
  rw [this]
  rfl
end Go.Proofs.YtgmobjdjojffgaaDoor
