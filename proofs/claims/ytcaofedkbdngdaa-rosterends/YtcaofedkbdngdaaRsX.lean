/- A region that draws its order, whose operations only read and whose callees may allot: one walk serves every order. -/
import Derived.Test.YtcaofedkbdngdaaRsI
namespace Go.Proofs.Ytcaofedkbdngdaa
open Go.RowKit

/-- A world behind W0: all that stood there stands there. -/
structure Cw (W0 : World) where
  w : World
  h : Below W0.heap.size W0 w
theorem wp_region_grow {P : Program} {id : Nat} {Q : Exit → Act → World → Prop} {a : Act} {w W0 : World} {l : List Oper} (hm : P.follows .mixedOrders = true) (hB : Region.lexB .any l.toArray = true) (hw : Below W0.heap.size W0 w)
    (h : wpQuiet P l.toArray (fun w' => ∃ x : Cw W0, w' = x.w) (fun a' => ∀ w', (∃ x : Cw W0, w' = x.w) → Q .normal a' w') l a) : (Code.region id l.toArray true).wp P Q a w :=
  wp_region_quiet (C := fun w' => ∃ x : Cw W0, w' = x.w) hm hB ⟨⟨_, below_drew hw⟩, rfl⟩ (by simpa using h)
theorem growC {k : Nat} {args : Array Value} {v : Value} (hC : ∀ W, Calls Try.prog k args W fun e W' => e = .returned v ∧ Below W.heap.size W W') (W0 : World) (x : Cw W0) :
    Calls Try.prog k args x.w fun e w'' => e = .returned v ∧ ∃ y : Cw W0, w'' = y.w := by
  refine (hC x.w).mono ?_
  rintro e W' ⟨rfl, hb⟩
  exact ⟨rfl, ⟨W', x.h.trans (hb.mono x.h.size)⟩, rfl⟩
theorem sameC {k : Nat} {args : Array Value} {v : Value} (hC : ∀ W, Calls Try.prog k args W fun e W' => e = .returned v ∧ W' = W) (W0 : World) (x : Cw W0) :
    Calls Try.prog k args x.w fun e w'' => e = .returned v ∧ ∃ y : Cw W0, w'' = y.w := by
  refine (hC x.w).mono ?_
  rintro e W' ⟨rfl, hb⟩
  exact ⟨rfl, x, hb⟩
end Go.Proofs.Ytcaofedkbdngdaa
