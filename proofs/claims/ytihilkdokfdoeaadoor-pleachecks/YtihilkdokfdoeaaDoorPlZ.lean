/- A slice of a block that was laid; append in a region that draws its order. -/
import Derived.Test.YtihilkdokfdoeaaDoorPa3
namespace Go.Proofs.YtihilkdokfdoeaaDoor
open Go.RowKit Go.Maps
attribute [local go_sem ↓] Go.wp_at_zero Go.wp_at_succ

theorem SlF.of_block {α : Type} {f : α → List Value} {s : Nat} {w : World} {B : Nat} {cs : Array Value} {t : TypeId} {l : List α} {cap : Nat} (h : w.heap[B]? = some (.cells cs t)) (hf : ∀ a, (f a).length = s) (hc : cs.toList = l.flatMap f) : SlF f s w (.slice (some ⟨B, 0, none⟩) l.length cap) l := by
  refine .inr ⟨B, 0, cap, rfl, (Array.getElem?_eq_some_iff.1 h).1, fun i a ha k u hu => cellB h _ u ?_⟩
  have hk : k < s := by have := (List.getElem?_eq_some_iff.1 hu).1; rw [hf] at this; exact this
  rw [← Array.getElem?_toList, hc, Nat.zero_add, flat_get f s hf l i a ha k hk]
  exact hu
theorem opwp_append {P : Program} {w : World} {o : Oper} {a : Act} {K : Act → World → Prop} {Q : Exit → Act → World → Prop} (s x : Operand) (t : TypeId)
    (ho : o.op = .call { callee := .builtin .append, args := #[s, x], argTypes := #[t, t] }) (v u : Value) (hs : a.eval s = v) (hx : a.eval x = u) (R : Value → World → Prop)
    (hr : ∃ v' w', (Builtin.append_ #[t, t] o.type #[v, u]).run P w = .ok v' w' ∧ R v' w')
    (h : ∀ v' w', R v' w' → K (a.put o.dst v') w') : Oper.wp P o a w K Q := by
  obtain ⟨v', w', hr, hR⟩ := hr
  unfold Oper.wp execOp
  simp only [ho, resolve, invoke, builtin, Sem.run_bind, Sem.run_pure, Result.andThen_ok, List.map_toArray, List.map_cons, List.map_nil, hs, hx, hr]
  exact h v' w' hR
end Go.Proofs.YtihilkdokfdoeaaDoor
