import Derived.Test.YtielknegifbmpaaDoorPtA
namespace Go.Proofs.YtielknegifbmpaaDoor
open Go.RowKit
attribute [local go_sem ↓] Go.wp_at_zero Go.wp_at_succ

theorem Is_any (g n : Int) (w : World) : Calls Tryd.prog 38 #[.agg #[.int .i64 g, .int .i64 n]] w fun e W' => e = .returned (.bool (decide (isP g n))) ∧ Below w.heap.size w W' := by
  have hb0 : Below w.heap.size w (w.alloc (.cells #[.int .i64 g, .int .i64 n] 23)) := (Below.refl _ w).alloc (Nat.le_refl _) _
  by_cases c1 : -1 ≤ g
  · by_cases c2 : g ≤ 4
    · by_cases c3 : 0 ≤ n
      · by_cases c4 : n ≤ 15
        · rw [decide_eq_true (show isP g n from ⟨c1, c2, c3, c4⟩)]
          go_enter Tryd.func38, Tryd.ntmps38
          go_wp2
          go_ret
          exact ⟨rfl, hb0⟩
        · rw [decide_eq_false (show ¬ isP g n from fun h => c4 h.2.2.2)]
          go_enter Tryd.func38, Tryd.ntmps38
          go_wp2
          go_ret
          exact ⟨rfl, hb0⟩
      · rw [decide_eq_false (show ¬ isP g n from fun h => c3 h.2.2.1)]
        go_enter Tryd.func38, Tryd.ntmps38
        go_wp2
        go_ret
        exact ⟨rfl, hb0⟩
    · rw [decide_eq_false (show ¬ isP g n from fun h => c2 h.2.1)]
      go_enter Tryd.func38, Tryd.ntmps38
      go_wp2
      go_ret
      exact ⟨rfl, hb0⟩
  · rw [decide_eq_false (show ¬ isP g n from fun h => c1 h.1)]
    go_enter Tryd.func38, Tryd.ntmps38
    go_wp2
    go_ret
    exact ⟨rfl, hb0⟩

end Go.Proofs.YtielknegifbmpaaDoor
