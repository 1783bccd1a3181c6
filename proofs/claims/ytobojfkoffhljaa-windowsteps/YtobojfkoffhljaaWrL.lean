/- WindowSteps, whatever comes. -/
import Derived.Test.YtobojfkoffhljaaWrK
namespace Go.Proofs.Ytobojfkoffhljaa
open Go.RowKit

theorem steps_any (g f0 : Int) (l0 : List Vo) (v0 : Value) (w : World) (hl0 : Vl w v0 l0) : Calls Try.prog 3 #[.int .i64 g, .int .i64 f0, v0] w fun e W' => e = .returned (.bool true) ∧ Below w.heap.size w W' := by
  cases hf : (inB g 4 && inB f0 3)
  · obtain ⟨a0, c0, rfl⟩ := hl0.slice
    exact steps_no hf w
  · rw [Bool.and_eq_true] at hf
    obtain ⟨h1, h2⟩ := inB_t hf.2
    obtain ⟨f, rfl⟩ : ∃ f : Nat, f0 = f := ⟨f0.toNat, by omega⟩
    exact steps_ok hf.1 (by omega) w hl0
end Go.Proofs.Ytobojfkoffhljaa
