/- Nothing settled is lost: every case; a case that came in, opened. -/
import Derived.Test.YtifalaigfinciaaDoorShJ
import Derived.Test.YtifalaigfinciaaDoorShK
import Derived.Test.YtifalaigfinciaaDoorShL
import Derived.Test.YtifalaigfinciaaDoorShT
namespace Go.Proofs.YtifalaigfinciaaDoor
open Go.ChangeShapes Go.WideShapes Go.ChangeAt Go.RowKit Go.Deep

theorem lost_any (F Bad Held In V N O : Int) (batch other : List UInt8) (w : World) (he : Env w) :
    Calls Tryd.prog 4 #[.agg #[.int .i64 F, .int .i64 Bad, .int .i64 Held, .int .i64 In, .int .i64 V, .int .i64 N, .int .i64 O], .string (bs batch), .string (bs other)] w fun e W' => e = .returned (.bool true) ∧ Below w.heap.size w W' := by
  by_cases h : 0 ≤ F ∧ F ≤ 3 ∧ 0 ≤ V ∧ V ≤ 1000 ∧ 1 ≤ N ∧ N ≤ 8 ∧ 0 ≤ O ∧ O < V ∧ batch.length ≤ 9000 ∧ other.length ≤ 9000
  · obtain ⟨h0, h1, h2, h3, h4, h5, h6, h7, h8, h9⟩ := h
    obtain ⟨f, hf⟩ : ∃ f : Nat, F = f := ⟨F.toNat, by omega⟩
    obtain ⟨m, hm⟩ : ∃ m : Nat, N = (m : Int) + 1 := ⟨(N - 1).toNat, by omega⟩
    subst hm
    by_cases c1 : f < cntB Bad (3 * f + 1)
    · exact lost_few1 f F hf Bad Held In V O m batch other w he (by omega) h2 h3 (by omega) h6 h7 h8 h9 c1
    · by_cases c2 : cntB Held (3 * f + 1) < 2 * f + 1
      · exact lost_few2 f F hf Bad Held In V O m batch other w he (by omega) h2 h3 (by omega) h6 h7 h8 h9 (by omega) c2
      · by_cases c3 : cntB In (3 * f + 1) < 2 * f + 1
        · exact lost_few3 f F hf Bad Held In V O m batch other w he (by omega) h2 h3 (by omega) h6 h7 h8 h9 (by omega) (by omega) c3
        · exact lost_in f F hf Bad Held In V O m batch other w he (by omega) h2 h3 (by omega) h6 h7 h8 h9 (by omega) (by omega) (by omega)
  · exact lost_out F Bad Held In V N O batch other w he h
theorem Tryd.cells49 : Tryd.prog.cellsOf 49 = 7 := by kernel_rfl
theorem Tryd.cells3c : Tryd.prog.cellsOf 3 = 1 := by kernel_rfl
theorem list7 {α : Type} {cs : List α} (h : cs.length = 7) : ∃ c0 c1 c2 c3 c4 c5 c6, cs = [c0, c1, c2, c3, c4, c5, c6] := by
  match cs, h with
  | [c0, c1, c2, c3, c4, c5, c6], _ => exact ⟨c0, c1, c2, c3, c4, c5, c6, rfl⟩
set_option maxRecDepth 100000 in
set_option maxHeartbeats 1000000 in
theorem open_case {H : Type} {enc : TypeId × Value → H} {W : World} {base : Nat} {v : Value} {d : DataW H} {p : List MemPlace} (hval : Value.okWide Tryd.prog W .any base 49 v) (h : DataW.Trod enc Tryd.prog W 0 (fun _ => true) true 49 v d p) :
    ∃ a b c e f g i : Int, v = .agg #[.int .i64 a, .int .i64 b, .int .i64 c, .int .i64 e, .int .i64 f, .int .i64 g, .int .i64 i] := by
  obtain ⟨cs, rfl, hcs⟩ := okWide_struct Tryd.underlying49 hval
  obtain ⟨fuel, hf⟩ := h
  obtain ⟨xs, n, _, _, hl, hlen, hg⟩ := DataW.trod_struct Tryd.underlying49 hf
  rw [Tryd.cells49] at hl
  obtain ⟨c0, c1, c2, c3, c4, c5, c6, hc⟩ := list7 hl
  obtain ⟨y0, y1, y2, y3, y4, y5, y6, rfl⟩ := list7 (by simpa using hlen)
  rw [hc] at hg
  have h0 := hg 0 _ rfl
  have h1 := hg 1 _ rfl
  have h2 := hg 2 _ rfl
  have h3 := hg 3 _ rfl
  have h4 := hg 4 _ rfl
  have h5 := hg 5 _ rfl
  have h6 := hg 6 _ rfl
  simp [Tryd.cells3c] at h0 h1 h2 h3 h4 h5 h6
  obtain ⟨a0, e0, _, _⟩ := DataW.trod_int Tryd.underlying3 h0
  obtain ⟨a1, e1, _, _⟩ := DataW.trod_int Tryd.underlying3 h1
  obtain ⟨a2, e2, _, _⟩ := DataW.trod_int Tryd.underlying3 h2
  obtain ⟨a3, e3, _, _⟩ := DataW.trod_int Tryd.underlying3 h3
  obtain ⟨a4, e4, _, _⟩ := DataW.trod_int Tryd.underlying3 h4
  obtain ⟨a5, e5, _, _⟩ := DataW.trod_int Tryd.underlying3 h5
  obtain ⟨a6, e6, _, _⟩ := DataW.trod_int Tryd.underlying3 h6
  simp at e0 e1 e2 e3 e4 e5 e6
  subst e0 e1 e2 e3 e4 e5 e6
  refine ⟨a0, a1, a2, a3, a4, a5, a6, ?_⟩
  simp [Value.cells] at hc
  rw [← hc]
end Go.Proofs.YtifalaigfinciaaDoor
