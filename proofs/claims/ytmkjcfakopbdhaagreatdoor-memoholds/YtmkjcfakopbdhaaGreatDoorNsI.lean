import Derived.Test.YtmkjcfakopbdhaaGreatDoorNsH
namespace Go.Proofs.YtmkjcfakopbdhaaGreatDoor
open Go.RowKit
attribute [local go_sem ↓] Go.wp_at_zero Go.wp_at_succ

theorem tot_take (l : List (List UInt8)) (k : Nat) (t : List UInt8) (h : l[k]? = some t) : tot (l.take (k + 1)) = tot (l.take k) + t.length := by
  rw [List.take_add_one, h, tot_append]
  simp [tot]

end Go.Proofs.YtmkjcfakopbdhaaGreatDoor
