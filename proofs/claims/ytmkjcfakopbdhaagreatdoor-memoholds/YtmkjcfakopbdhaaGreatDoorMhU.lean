/- A memo that came in, opened. -/
import Derived.Test.YtmkjcfakopbdhaaGreatDoorMhM
import Derived.Lib.SmallJoins
import Derived.Deep.Strs
namespace Go.Proofs.YtmkjcfakopbdhaaGreatDoor
open Go.ChangeShapes Go.WideShapes Go.ChangeAt Go.RowKit Go.Deep

theorem Tryz.cells25 : Tryz.prog.cellsOf 25 = 7 := by kernel_rfl
theorem Tryz.cells23 : Tryz.prog.cellsOf 23 = 2 := by kernel_rfl
theorem list6' {α : Type} {l : List α} (h : l.length = 6) : ∃ a b c d e f, l = [a, b, c, d, e, f] := by
  match l with
  | [a, b, c, d, e, f] => exact ⟨a, b, c, d, e, f, rfl⟩
  | [] => cases h
  | [_] => cases h
  | [_, _] => cases h
  | [_, _, _] => cases h
  | [_, _, _, _] => cases h
  | [_, _, _, _, _] => cases h
  | _ :: _ :: _ :: _ :: _ :: _ :: _ :: _ => simp at h
set_option maxRecDepth 100000 in
set_option maxHeartbeats 2000000 in
theorem open_memo {H : Type} {enc : TypeId × Value → H} {W : World} {base : Nat} {v : Value} {d : DataW H} {p : List MemPlace} (hval : Value.okWide Tryz.prog W .any base 25 v) (h : DataW.Trod enc Tryz.prog W 0 (fun _ => true) true 25 v d p) :
    ∃ (k g n x m : Int) (t tg : List UInt8), v = .agg #[.int .i64 k, .int .i64 g, .int .i64 n, .int .i64 x, .int .i64 m, .string (bs t), .string (bs tg)] := by
  obtain ⟨cs, rfl, hcs⟩ := okWide_struct Tryz.underlying25 hval
  obtain ⟨fuel, hf0⟩ := h
  obtain ⟨xs, n, _, _, hl, hlen, hf⟩ := DataW.trod_struct Tryz.underlying25 hf0
  rw [Tryz.cells25] at hl
  obtain ⟨c0, c1, c2, c3, c4, c5, c6, hc⟩ := list7 hl
  obtain ⟨y0, y1, y2, y3, y4, y5, rfl⟩ := list6' (by simpa using hlen)
  rw [hc] at hf
  have i0 := hf 0 _ rfl
  have i1 := hf 1 _ rfl
  have i2 := hf 2 _ rfl
  have i3 := hf 3 _ rfl
  have i4 := hf 4 _ rfl
  have i5 := hf 5 _ rfl
  simp [Tryz.cells3, Tryz.cells9, Tryz.cells23] at i0 i1 i2 i3 i4 i5
  obtain ⟨a0, e0, _, _⟩ := DataW.trod_int Tryz.underlying3 i0
  obtain ⟨z0, z1, n2, _, _, t0, t1⟩ := trod_struct2 Tryz.underlying23 i1
  simp [Tryz.cells3] at t0 t1
  obtain ⟨a1, e1, _, _⟩ := DataW.trod_int Tryz.underlying3 t0
  obtain ⟨a2, e2, _, _⟩ := DataW.trod_int Tryz.underlying3 t1
  obtain ⟨a3, e3, _, _⟩ := DataW.trod_int Tryz.underlying3 i2
  obtain ⟨a4, e4, _, _⟩ := DataW.trod_int Tryz.underlying3 i3
  obtain ⟨a5, e5, _, _⟩ := DataW.trod_string Tryz.underlying9 i4
  obtain ⟨a6, e6, _, _⟩ := DataW.trod_string Tryz.underlying9 i5
  simp at e0 e1 e2 e3 e4 e5 e6
  subst e0 e1 e2 e3 e4 e5 e6
  refine ⟨a0, a1, a2, a3, a4, a5.data.toList, a6.data.toList, ?_⟩
  rw [bs_data, bs_data]
  simp [Value.cells] at hc
  rw [← hc]
set_option maxRecDepth 100000 in
theorem open_party {H : Type} {enc : TypeId × Value → H} {W : World} {base : Nat} {v : Value} {d : DataW H} {p : List MemPlace} (hval : Value.okWide Tryz.prog W .any base 23 v) (h : DataW.Trod enc Tryz.prog W 0 (fun _ => true) true 23 v d p) :
    ∃ (g n : Int), v = .agg #[.int .i64 g, .int .i64 n] ∧ (Lit.int .i64 g).wf = true ∧ (Lit.int .i64 n).wf = true := by
  obtain ⟨v0, v1, y0, y1, n, rfl, _, _, h0, h1⟩ := Joins.open_agg2 Tryz.underlying23 (by kernel_rfl) Tryz.cells23 hval h
  obtain ⟨a0, e0, _, w0⟩ := DataW.trod_int Tryz.underlying3 h0
  obtain ⟨a1, e1, _, w1⟩ := DataW.trod_int Tryz.underlying3 h1
  simp at e0 e1
  subst e0 e1
  exact ⟨a0, a1, rfl, w0, w1⟩
end Go.Proofs.YtmkjcfakopbdhaaGreatDoor
