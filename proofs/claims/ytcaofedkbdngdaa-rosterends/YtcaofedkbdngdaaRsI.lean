/- Rosters: the document's Right and Primary, and the law RosterTurns, walked. -/
import Derived.Test.YtcaofedkbdngdaaRsH
namespace Go.Proofs.Ytcaofedkbdngdaa
open Go.RowKit
attribute [local go_sem ↓] Go.wp_at_zero Go.wp_at_succ

set_option maxHeartbeats 1000000 in
theorem Right_any (f g c : Int) (w : World) : Calls Try.prog 8 #[.int .i64 f, .int .i64 g, .int .i64 c] w fun e W' => e = .returned (.bool (Rt f g c)) ∧ W' = w := by
  have hR : Rt f g c = (decide (0 ≤ f ∧ f ≤ 3) && (decide (1 ≤ g ∧ g ≤ 4) && decide (1 ≤ c ∧ c ≤ 8))) := rfl
  have hcs : (f < 0 ∧ Rt f g c = false) ∨ (0 ≤ f ∧ 3 < f ∧ Rt f g c = false) ∨ (0 ≤ f ∧ f ≤ 3 ∧ g < 1 ∧ Rt f g c = false) ∨ (0 ≤ f ∧ f ≤ 3 ∧ 1 ≤ g ∧ 4 < g ∧ Rt f g c = false) ∨ (0 ≤ f ∧ f ≤ 3 ∧ 1 ≤ g ∧ g ≤ 4 ∧ c < 1 ∧ Rt f g c = false) ∨ (0 ≤ f ∧ f ≤ 3 ∧ 1 ≤ g ∧ g ≤ 4 ∧ 1 ≤ c ∧ 8 < c ∧ Rt f g c = false) ∨ (0 ≤ f ∧ f ≤ 3 ∧ 1 ≤ g ∧ g ≤ 4 ∧ 1 ≤ c ∧ c ≤ 8 ∧ Rt f g c = true) := by
    rw [hR]
    by_cases h1 : 0 ≤ f
    · by_cases h2 : f ≤ 3
      · by_cases h3 : 1 ≤ g
        · by_cases h4 : g ≤ 4
          · by_cases h5 : 1 ≤ c
            · by_cases h6 : c ≤ 8
              · simp [h1, h2, h3, h4, h5, h6]
              · simp [h1, h2, h3, h4, h5, h6]; omega
            · simp [h1, h2, h3, h4, h5]; omega
          · simp [h1, h2, h3, h4]; omega
        · simp [h1, h2, h3]; omega
      · simp [h1, h2]; omega
    · simp [h1]; omega
  clear hR
  rcases hcs with ⟨h1, h0⟩ | ⟨h1, h2, h0⟩ | ⟨h1, h2, h3, h0⟩ | ⟨h1, h2, h3, h4, h0⟩ | ⟨h1, h2, h3, h4, h5, h0⟩ | ⟨h1, h2, h3, h4, h5, h6, h0⟩ | ⟨h1, h2, h3, h4, h5, h6, h0⟩
  all_goals
    rw [h0]
    clear h0
    go_enter Try.func8, Try.ntmps8
    go_wp2
    go_ret
    exact ⟨by first | rfl | (show Ending.returned (Value.bool (decide (c ≤ 8))) = _; simp; omega), rfl⟩
set_option maxHeartbeats 1000000 in
theorem rPrimary_any (f g c view : Int) (w : World) : Calls Try.prog 10 #[.int .i64 f, .int .i64 g, .int .i64 c, .int .i64 view] w fun e W' => e = .returned (.tuple #[.int .i64 (primV f g c view), .int .i64 (primE f g c view)]) ∧ W' = w := by
  have hR := Right_any f g c w
  unfold primV primE
  cases h : Rt f g c
  · rw [h] at hR
    rw [if_neg (by simp), if_neg (by simp)]
    clear h
    go_enter Try.func10, Try.ntmps10
    go_wp2_with (go_at_call 8; refine hR.mono ?_; rintro e w1 ⟨rfl, rfl⟩)
    exact bodyPost_ret (v := .tuple #[.int .i64 0, .int .i64 1]) (by simp [results, Try.f10, go_sem]) rfl ⟨rfl, rfl⟩
  · rw [h] at hR
    obtain ⟨h1, h2, h3, h4, h5, h6⟩ := Rt_b h
    clear h
    cases h7 : wi view 0 1099511627776
    · rw [if_neg (by simp), if_neg (by simp)]
      rcases wi_f h7 with k1 | k1
      all_goals
        clear h7
        go_enter Try.func10, Try.ntmps10
        go_wp2_with (go_at_call 8; refine hR.mono ?_; rintro e w1 ⟨rfl, rfl⟩)
        exact bodyPost_ret (v := .tuple #[.int .i64 0, .int .i64 1]) (by simp [results, Try.f10, go_sem]) rfl ⟨rfl, rfl⟩
    · rw [if_pos ⟨rfl, rfl⟩, if_pos ⟨rfl, rfl⟩]
      obtain ⟨v0, v1⟩ := wi_t h7
      have n0 : 3 * f + 1 ≠ 0 := by omega
      have hm0 := Int.emod_nonneg view n0
      have hm1 := Int.emod_lt_of_pos view (show 0 < 3 * f + 1 by omega)
      clear h7
      go_enter Try.func10, Try.ntmps10
      go_wp2_with (go_at_call 8; refine hR.mono ?_; rintro e w1 ⟨rfl, rfl⟩)
      exact bodyPost_ret (v := .tuple #[.int .i64 (view % (3 * f + 1)), .int .i64 0]) (by simp [results, Try.f10, go_sem]) rfl ⟨rfl, rfl⟩
end Go.Proofs.Ytcaofedkbdngdaa
