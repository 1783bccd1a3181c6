/- The law MarkNil at a step that came in. -/
import Derived.Test.YtmggfkhfiggloaaDoorMkI
import Derived.Test.YtmggfkhfiggloaaDoorMkU
namespace Go.Proofs.YtmggfkhfiggloaaDoor
open Go.RowKit
theorem nil_step (s : Sp) (W : World) (hT : Tp W s.u s.T) (he : EnvP W) : Calls Tryd.prog 7 #[.agg s.cells.toArray] W fun e W' => e = .returned (.bool true) ∧ Below W.heap.size W W' := by
  obtain ⟨va, vc, hu⟩ := hT.slice
  have h := nil_any s.what s.no s.n (bs s.st) (bs s.tg) (bs s.ct) s.cg va s.T.length vc W he
  rw [← hu] at h
  exact h
end Go.Proofs.YtmggfkhfiggloaaDoor
