import Derived.Test.YtmkjcfakopbdhaaGreatDoorNsC
namespace Go.Proofs.YtmkjcfakopbdhaaGreatDoor
open Go.RowKit Go.Shelf
attribute [local go_sem] Oper.semAt_some

/-- Is a text that of a list that is not empty? -/
def isL (s : List UInt8) : Bool := decide (s ≠ [] ∧ good s)
theorem bad_of' {s : List UInt8} {pre : List It} (h : pre.map (·.1) <+: items s) (h0 : ∃ x ∈ pre, x.1.2 ≠ 0) : isL s = false := by
  obtain ⟨x, hx, hne⟩ := h0
  have := (bad_of h hx hne).1
  simp [isL, this]

end Go.Proofs.YtmkjcfakopbdhaaGreatDoor
