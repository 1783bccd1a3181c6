/- Arguments that came in, opened: what a party signed, a party. -/
import Derived.Test.YtoniohmceaflnaaDoorOnT
import Derived.Lib.SmallJoins
import Derived.Deep.Strs
namespace Go.Proofs.YtoniohmceaflnaaDoor
open Go.ChangeShapes Go.WideShapes Go.ChangeAt Go.RowKit Go.Deep

theorem Tryd.cells36 : Tryd.prog.cellsOf 36 = 4 := by kernel_rfl
theorem Tryd.cells23 : Tryd.prog.cellsOf 23 = 2 := by kernel_rfl
theorem Tryd.cells3 : Tryd.prog.cellsOf 3 = 1 := by kernel_rfl
set_option maxRecDepth 100000 in
theorem open_signed {H : Type} {enc : TypeId × Value → H} {W : World} {base : Nat} {v : Value} {d : DataW H} {p : List MemPlace} (hval : Value.okWide Tryd.prog W .any base 36 v) (h : DataW.Trod enc Tryd.prog W 0 (fun _ => true) true 36 v d p) :
    ∃ (g n : Int) (s t : List UInt8), v = .agg #[.int .i64 g, .int .i64 n, .string (bs s), .string (bs t)] ∧ s.length ≤ maxLen ∧ t.length ≤ maxLen ∧ (Lit.int .i64 g).wf = true ∧ (Lit.int .i64 n).wf = true := by
  obtain ⟨cs, rfl, hcs⟩ := okWide_struct Tryd.underlying36 hval
  rw [Tryd.cells36] at hcs
  obtain ⟨fuel, hf⟩ := h
  obtain ⟨y0, y1, y2, n, _, _, h0, h1, h2⟩ := trod_struct3 Tryd.underlying36 hf
  obtain ⟨c0, c1, c2, c3, rfl⟩ := Joins.array4 hcs
  obtain ⟨z0, z1, m, _, _, i0, i1⟩ := trod_struct2 Tryd.underlying23 h0
  obtain ⟨a0, e0, _, w0⟩ := DataW.trod_int Tryd.underlying3 i0
  obtain ⟨a1, e1, _, w1⟩ := DataW.trod_int Tryd.underlying3 i1
  obtain ⟨a2, e2, _, m2⟩ := DataW.trod_string Tryd.underlying9 h1
  obtain ⟨a3, e3, _, m3⟩ := DataW.trod_string Tryd.underlying9 h2
  simp [Value.cells, Tryd.cells23, Tryd.cells9, Tryd.cells3] at e0 e1 e2 e3
  subst e0 e1 e2 e3
  exact ⟨a0, a1, a2.data.toList, a3.data.toList, by rw [bs_data, bs_data], by rw [size_list]; exact m2, by rw [size_list]; exact m3, w0, w1⟩
set_option maxRecDepth 100000 in
theorem open_party {H : Type} {enc : TypeId × Value → H} {W : World} {base : Nat} {v : Value} {d : DataW H} {p : List MemPlace} (hval : Value.okWide Tryd.prog W .any base 23 v) (h : DataW.Trod enc Tryd.prog W 0 (fun _ => true) true 23 v d p) :
    ∃ (g n : Int), v = .agg #[.int .i64 g, .int .i64 n] ∧ (Lit.int .i64 g).wf = true ∧ (Lit.int .i64 n).wf = true := by
  obtain ⟨v0, v1, y0, y1, n, rfl, _, _, h0, h1⟩ := Joins.open_agg2 Tryd.underlying23 (by kernel_rfl) Tryd.cells23 hval h
  obtain ⟨a0, e0, _, w0⟩ := DataW.trod_int Tryd.underlying3 h0
  obtain ⟨a1, e1, _, w1⟩ := DataW.trod_int Tryd.underlying3 h1
  simp at e0 e1
  subst e0 e1
  exact ⟨a0, a1, rfl, w0, w1⟩
end Go.Proofs.YtoniohmceaflnaaDoor
