/- WindowNil, walked. -/
import Derived.Test.YtobojfkoffhljaaWiL
namespace Go.Proofs.Ytobojfkoffhljaa
open Go.RowKit Go.Maps
attribute [local go_sem ↓] Go.wp_at_zero Go.wp_at_succ

theorem range3 (x M : Int) : (x < 0 ∧ inB x M = false) ∨ (0 ≤ x ∧ M < x ∧ inB x M = false) ∨ (0 ≤ x ∧ x ≤ M ∧ inB x M = true) := by
  by_cases h : x < 0
  · exact .inl ⟨h, by simp [inB]; omega⟩
  · by_cases h2 : M < x
    · exact .inr (.inl ⟨by omega, h2, by simp [inB]; omega⟩)
    · exact .inr (.inr ⟨by omega, by omega, by simp [inB]; omega⟩)
set_option maxRecDepth 20000 in
set_option maxHeartbeats 4000000 in
theorem nil_any (view n : Int) (w : World) : Calls Try.prog 6 #[.int .i64 view, .int .i64 n] w fun e W' => e = .returned (.bool true) ∧ Below w.heap.size w W' := by
  have hA := fun W => At_nil view n W
  have hN := fun W => Note_nil view n [] 0 W
  have hR := fun W => Raise_nil n W
  have hB := fun W => Best_nil n W
  have hH := fun W => Has_nil n W
  have hV := fun W => Leave_nil view W
  have hL := fun W => Low_nil W
  have hS := fun W => Slots_nil W
  have hM := fun W => moves_any W
  simp only [show bs [] = ⟨#[]⟩ from rfl] at hN
  rcases range3 view 1099511627776 with ⟨v1, vi⟩ | ⟨v1, v2, vi⟩ | ⟨v1, v2, vi⟩ <;> rcases range3 n 1099511627768 with ⟨n1, ni⟩ | ⟨n1, n2, ni⟩ | ⟨n1, n2, ni⟩
  all_goals
    simp only [vi, ni, if_true, Bool.true_eq_false, if_false] at hA hN hR
    clear vi ni
    go_enter Try.func6, Try.ntmps6
    go_wp2_with (first
      | (go_at_call 18; refine (hA _).mono ?_; rintro e w1 ⟨rfl, h9⟩; replace h9 := h9.symm; subst h9)
      | (go_at_call 23; refine (hN _).mono ?_; rintro e w2 ⟨rfl, hb2⟩)
      | (go_at_call 24; refine (hR _).mono ?_; rintro e w3 ⟨rfl, hb3⟩)
      | (go_at_call 12; refine (hB _).mono ?_; rintro e w4 ⟨rfl, hb4⟩)
      | (go_at_call 15; refine (hH _).mono ?_; rintro e w5 ⟨rfl, h9⟩; replace h9 := h9.symm; subst h9)
      | (go_at_call 21; refine (hV _).mono ?_; rintro e w5 ⟨rfl, hb5⟩)
      | (go_at_call 14; refine (hL _).mono ?_; rintro e w6 ⟨rfl, h9⟩; replace h9 := h9.symm; subst h9)
      | (go_at_call 17; refine (hS _).mono ?_; rintro e w6 ⟨rfl, h9⟩; replace h9 := h9.symm; subst h9)
      | (go_at_call 10; refine (hM _).mono ?_; rintro e w7 ⟨rfl, hb7⟩))
    go_ret
    have k3 := hb2.trans (hb3.mono hb2.size)
    have k4 := k3.trans (hb4.mono k3.size)
    have k5 := k4.alloc k4.size (.cells #[.string ⟨#[]⟩, .int .i64 0, .slice none 0 0] 38)
    have k6 := k5.trans (hb5.mono k5.size)
    exact ⟨by first | rfl | (simp; omega), k6.trans (hb7.mono k6.size)⟩
end Go.Proofs.Ytobojfkoffhljaa
