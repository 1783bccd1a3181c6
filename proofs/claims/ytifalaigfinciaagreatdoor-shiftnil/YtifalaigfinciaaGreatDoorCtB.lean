import Derived.Test.YtifalaigfinciaaGreatDoorCtA
namespace Go.Proofs.YtifalaigfinciaaGreatDoor
open Go.RowKit
attribute [local go_sem ↓] Go.wp_at_zero Go.wp_at_succ

def prevOf (l : List Tg) (k : Nat) : Int := if k = 0 then -1 else (l.getD (k - 1) (0, [])).1
theorem prevOf_succ {l : List Tg} {k : Nat} {n : Int} {s : List UInt8} (h : l[k]? = some (n, s)) : prevOf l (k + 1) = n := by
  simp [prevOf, List.getD, h]
theorem Tl.cells {w : World} {b o cap : Nat} {l : List Tg} (h : Tl w (.slice (some ⟨b, o, none⟩) l.length cap) l) {k : Nat} {t : Tg} (ht : l[k]? = some t) : w.cell? ⟨b, o + k * 2, none⟩ = some (.int .i64 t.1) ∧ w.cell? ⟨b, o + k * 2 + 1, none⟩ = some (.string (bs t.2)) := by
  rcases h with ⟨rfl, _⟩ | ⟨vb, vo, vcap, hve, _, hvc⟩
  · cases ht
  · injection hve with hva _ hvcap
    injection hva with hva
    injection hva with h1 h2
    subst h1 h2
    exact hvc k t ht
theorem Tl.some {w : World} {a : Option Addr} {cap : Nat} {l : List Tg} (h : Tl w (.slice a l.length cap) l) (hl : 0 < l.length) : ∃ b o, a = some ⟨b, o, none⟩ ∧ b < w.heap.size := by
  rcases h with ⟨rfl, _⟩ | ⟨vb, vo, vcap, hve, hlt, _⟩
  · simp at hl
  · injection hve with hva _ _
    exact ⟨vb, vo, hva, hlt⟩

end Go.Proofs.YtifalaigfinciaaGreatDoor
