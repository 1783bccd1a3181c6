/- What a party signed, as an argument that came in: also how long its texts can be. -/
import Derived.Test.YtoniohmceaflnaaDoorOnU
namespace Go.Proofs.YtoniohmceaflnaaDoor
open Go.ChangeShapes Go.WideShapes Go.ChangeAt Go.RowKit Go.Deep

set_option maxRecDepth 100000 in
theorem open_signedw {H : Type} {enc : TypeId × Value → H} {W : World} {base : Nat} {v : Value} {d : DataW H} {p : List MemPlace} (hval : Value.okWide Tryd.prog W .any base 36 v) (h : DataW.Trod enc Tryd.prog W 0 (fun _ => true) true 36 v d p) :
    ∃ (g n : Int) (s t : List UInt8) (y : DataW H), v = .agg #[.int .i64 g, .int .i64 n, .string (bs s), .string (bs t)] ∧ d = .agg [y, .lit (.string s), .lit (.string t)] ∧ (Lit.int .i64 g).wf = true ∧ (Lit.int .i64 n).wf = true := by
  obtain ⟨cs, rfl, hcs⟩ := okWide_struct Tryd.underlying36 hval
  rw [Tryd.cells36] at hcs
  obtain ⟨fuel, hf⟩ := h
  obtain ⟨y0, y1, y2, n, hd, _, h0, h1, h2⟩ := trod_struct3 Tryd.underlying36 hf
  obtain ⟨c0, c1, c2, c3, rfl⟩ := Joins.array4 hcs
  obtain ⟨z0, z1, m, _, _, i0, i1⟩ := trod_struct2 Tryd.underlying23 h0
  obtain ⟨a0, e0, _, w0⟩ := DataW.trod_int Tryd.underlying3 i0
  obtain ⟨a1, e1, _, w1⟩ := DataW.trod_int Tryd.underlying3 i1
  obtain ⟨a2, e2, k2, m2⟩ := DataW.trod_string Tryd.underlying9 h1
  obtain ⟨a3, e3, k3, m3⟩ := DataW.trod_string Tryd.underlying9 h2
  simp [Value.cells, Tryd.cells23, Tryd.cells9, Tryd.cells3] at e0 e1 e2 e3
  subst e0 e1 e2 e3
  refine ⟨a0, a1, a2.data.toList, a3.data.toList, y0.1, by rw [bs_data, bs_data], ?_, w0, w1⟩
  rw [k2, k3] at hd
  exact congrArg Prod.fst hd
theorem signed_small {H : Type} {ts : List TypeId} {ds : List (DataW H)} (h : (DataW.weightsEach Tryd.prog ts ds).all (· ≤ reachBytes) = true) {j : Nat} {s t : List UInt8} {y : DataW H} (ht : ts[j]? = some 36) (hd : ds[j]? = some (.agg [y, .lit (.string s), .lit (.string t)])) :
    s.length ≤ 140737488351232 ∧ t.length ≤ 140737488351232 := by
  have hw : (DataW.agg [y, .lit (.string s), .lit (.string t)]).weights Tryd.prog 36 = y.weights Tryd.prog 23 ++ [s.length, t.length] := by
    simp only [DataW.weights, Tryd.underlying36]
    simp [DataW.weightsEach, DataW.weights]
  have h1 := List.all_eq_true.1 h _ (DataW.weights_mem_each ht hd s.length (by rw [hw]; simp))
  have h2 := List.all_eq_true.1 h _ (DataW.weights_mem_each ht hd t.length (by rw [hw]; simp))
  exact ⟨of_decide_eq_true h1, of_decide_eq_true h2⟩
end Go.Proofs.YtoniohmceaflnaaDoor
