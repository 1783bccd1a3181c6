/- Kinds by the plain text: its table of rows, what a field may be. -/
import Derived.Test.YtielknegifbmpaaDoorMeD
namespace Go.Proofs.YtielknegifbmpaaDoor
open Go.RowKit
attribute [local go_sem ↓] Go.wp_at_zero Go.wp_at_succ

def rowsB : List (List UInt8) := [[], [45, 45, 116, 46], [48, 49, 116, 103], [48, 49, 116, 103], [45, 49, 116, 103], [49, 45, 116, 103], [49, 45, 116, 46], [45, 45, 116, 46], [48, 48, 46, 103], [48, 49, 116, 103], [45, 45, 116, 103], [45, 45, 116, 103], [45, 48, 46, 46]]
def rowB (k : Nat) : List UInt8 := rowsB.getD k []
def wiB (n : Int) (c : UInt8) : Bool := if c = 45 then n == 0 else if c = 48 then decide (0 ≤ n) && decide (n ≤ 1099511627776) else decide (1 ≤ n) && decide (n ≤ 1099511627776)
theorem row_is (k : Nat) (h1 : 1 ≤ k) (h2 : k ≤ 12) : ∃ c0 c1 c2 c3 : UInt8, rowB k = [c0, c1, c2, c3] ∧ (c0 = 45 ∨ c0 = 48 ∨ c0 = 49) ∧ (c1 = 45 ∨ c1 = 48 ∨ c1 = 49) ∧ (∀ v, wiB v c0 = decide (vlo k ≤ v ∧ v ≤ vhi k)) ∧ (∀ m, wiB m c1 = decide (nlo k ≤ m ∧ m ≤ nhi k)) ∧ (c2 = 46 ∧ txK k = 0 ∨ c2 = 116 ∧ txK k = 524288) ∧ (c3 = 103 ∧ tgK k = 16 ∨ c3 = 46 ∧ tgK k = 0) := by
  have e0 : ∀ v : Int, wiB v 45 = decide ((0 : Int) ≤ v ∧ v ≤ 0) := fun v => by
    show (v == 0) = _
    by_cases h : v = 0
    · subst h; rfl
    · rw [show (v == 0) = false by simpa using h, decide_eq_false (by omega)]
  have e1 : ∀ v : Int, wiB v 48 = decide ((0 : Int) ≤ v ∧ v ≤ 1099511627776) := fun v => by
    show (decide (0 ≤ v) && decide (v ≤ 1099511627776)) = _
    by_cases h : 0 ≤ v <;> by_cases h' : v ≤ 1099511627776 <;> simp [h, h']
  have e2 : ∀ v : Int, wiB v 49 = decide ((1 : Int) ≤ v ∧ v ≤ 1099511627776) := fun v => by
    show (decide (1 ≤ v) && decide (v ≤ 1099511627776)) = _
    by_cases h : 1 ≤ v <;> by_cases h' : v ≤ 1099511627776 <;> simp [h, h']
  have : k = 1 ∨ k = 2 ∨ k = 3 ∨ k = 4 ∨ k = 5 ∨ k = 6 ∨ k = 7 ∨ k = 8 ∨ k = 9 ∨ k = 10 ∨ k = 11 ∨ k = 12 := by omega
  rcases this with rfl | rfl | rfl | rfl | rfl | rfl | rfl | rfl | rfl | rfl | rfl | rfl
  · exact ⟨45, 45, 116, 46, rfl, .inl rfl, .inl rfl, e0, e0, .inr ⟨rfl, rfl⟩, .inr ⟨rfl, rfl⟩⟩
  · exact ⟨48, 49, 116, 103, rfl, .inr (.inl rfl), .inr (.inr rfl), e1, e2, .inr ⟨rfl, rfl⟩, .inl ⟨rfl, rfl⟩⟩
  · exact ⟨48, 49, 116, 103, rfl, .inr (.inl rfl), .inr (.inr rfl), e1, e2, .inr ⟨rfl, rfl⟩, .inl ⟨rfl, rfl⟩⟩
  · exact ⟨45, 49, 116, 103, rfl, .inl rfl, .inr (.inr rfl), e0, e2, .inr ⟨rfl, rfl⟩, .inl ⟨rfl, rfl⟩⟩
  · exact ⟨49, 45, 116, 103, rfl, .inr (.inr rfl), .inl rfl, e2, e0, .inr ⟨rfl, rfl⟩, .inl ⟨rfl, rfl⟩⟩
  · exact ⟨49, 45, 116, 46, rfl, .inr (.inr rfl), .inl rfl, e2, e0, .inr ⟨rfl, rfl⟩, .inr ⟨rfl, rfl⟩⟩
  · exact ⟨45, 45, 116, 46, rfl, .inl rfl, .inl rfl, e0, e0, .inr ⟨rfl, rfl⟩, .inr ⟨rfl, rfl⟩⟩
  · exact ⟨48, 48, 46, 103, rfl, .inr (.inl rfl), .inr (.inl rfl), e1, e1, .inl ⟨rfl, rfl⟩, .inl ⟨rfl, rfl⟩⟩
  · exact ⟨48, 49, 116, 103, rfl, .inr (.inl rfl), .inr (.inr rfl), e1, e2, .inr ⟨rfl, rfl⟩, .inl ⟨rfl, rfl⟩⟩
  · exact ⟨45, 45, 116, 103, rfl, .inl rfl, .inl rfl, e0, e0, .inr ⟨rfl, rfl⟩, .inl ⟨rfl, rfl⟩⟩
  · exact ⟨45, 45, 116, 103, rfl, .inl rfl, .inl rfl, e0, e0, .inr ⟨rfl, rfl⟩, .inl ⟨rfl, rfl⟩⟩
  · exact ⟨45, 48, 46, 46, rfl, .inl rfl, .inr (.inl rfl), e0, e1, .inl ⟨rfl, rfl⟩, .inr ⟨rfl, rfl⟩⟩

set_option maxRecDepth 20000 in
set_option maxHeartbeats 2000000 in
theorem row_any (k : Nat) (h2 : k ≤ 12) (w : World) : Calls Tryd.prog 37 #[.int .i64 (k : Int)] w fun e W' => e = .returned (.string (bs (rowB k))) ∧ Below w.heap.size w W' := by
  have : k = 0 ∨ k = 1 ∨ k = 2 ∨ k = 3 ∨ k = 4 ∨ k = 5 ∨ k = 6 ∨ k = 7 ∨ k = 8 ∨ k = 9 ∨ k = 10 ∨ k = 11 ∨ k = 12 := by omega
  rcases this with rfl | rfl | rfl | rfl | rfl | rfl | rfl | rfl | rfl | rfl | rfl | rfl | rfl
  all_goals
    go_enter Tryd.func37, Tryd.ntmps37
    go_wp2
    go_ret
    exact ⟨rfl, (Below.refl _ w).alloc (Nat.le_refl _) _⟩

theorem rwithin_any (n : Int) (c : UInt8) (hc : c = 45 ∨ c = 48 ∨ c = 49) (w : World) : Calls Tryd.prog 48 #[.int .i64 n, .int .u8 c.toNat] w fun e W' => e = .returned (.bool (wiB n c)) ∧ W' = w := by
  rcases hc with rfl | rfl | rfl
  · rw [show wiB n 45 = (n == 0) from rfl]
    go_enter Tryd.func48, Tryd.ntmps48
    go_wp2
    go_ret
    exact ⟨rfl, rfl⟩
  · rw [show wiB n 48 = (decide (0 ≤ n) && decide (n ≤ 1099511627776)) from rfl]
    by_cases h1 : 0 ≤ n
    · by_cases h2 : n ≤ 1099511627776
      · rw [decide_eq_true h1, decide_eq_true h2]
        go_enter Tryd.func48, Tryd.ntmps48
        go_wp2
        go_ret
        exact ⟨rfl, rfl⟩
      · rw [decide_eq_true h1, decide_eq_false h2]
        go_enter Tryd.func48, Tryd.ntmps48
        go_wp2
        go_ret
        exact ⟨rfl, rfl⟩
    · rw [decide_eq_false h1]
      go_enter Tryd.func48, Tryd.ntmps48
      go_wp2
      go_ret
      exact ⟨rfl, rfl⟩
  · rw [show wiB n 49 = (decide (1 ≤ n) && decide (n ≤ 1099511627776)) from rfl]
    by_cases h1 : 1 ≤ n
    · by_cases h2 : n ≤ 1099511627776
      · rw [decide_eq_true h1, decide_eq_true h2]
        go_enter Tryd.func48, Tryd.ntmps48
        go_wp2
        go_ret
        exact ⟨rfl, rfl⟩
      · rw [decide_eq_true h1, decide_eq_false h2]
        go_enter Tryd.func48, Tryd.ntmps48
        go_wp2
        go_ret
        exact ⟨rfl, rfl⟩
    · rw [decide_eq_false h1]
      go_enter Tryd.func48, Tryd.ntmps48
      go_wp2
      go_ret
      exact ⟨rfl, rfl⟩
end Go.Proofs.YtielknegifbmpaaDoor
