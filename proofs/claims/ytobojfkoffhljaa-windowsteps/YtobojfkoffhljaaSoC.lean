/- The slot's fault, told and Own, walked. -/
import Derived.Test.YtobojfkoffhljaaSoB
namespace Go.Proofs.Ytobojfkoffhljaa
open Go.RowKit
attribute [local go_sem ↓] Go.wp_at_zero Go.wp_at_succ

/-- Why it can't be a vote, of a kind and a replica that may be (ok), a text, a tag; of a nil slot. -/
def faultE (ok : Bool) (nl : Bool) (t g : List UInt8) : Int := if ok = false then 1 else if 30000 < t.length then 2 else if g.length ≠ 16 then 4 else if nl = true then 7 else 0
theorem faultE_0 {ok nl : Bool} {t g : List UInt8} (h : faultE ok nl t g = 0) : ok = true ∧ t.length ≤ 30000 ∧ g.length = 16 ∧ nl = false := by
  unfold faultE at h
  split at h
  · cases h
  · split at h
    · cases h
    · split at h
      · cases h
      · split at h
        · cases h
        · rename_i h1 h2 h3 h4
          exact ⟨by simpa using h1, by omega, by simpa using h3, by simpa using h4⟩
theorem faultE_cases (nl : Bool) (t g : List UInt8) : (faultE true nl t g = 2 ∧ 30000 < t.length) ∨ (faultE true nl t g = 4 ∧ t.length ≤ 30000 ∧ g.length ≠ 16) ∨ (faultE true nl t g = (if nl = true then 7 else 0) ∧ t.length ≤ 30000 ∧ g.length = 16) := by
  unfold faultE
  rw [if_neg (by decide)]
  by_cases h1 : 30000 < t.length
  · left; exact ⟨by rw [if_pos h1], h1⟩
  · rw [if_neg h1]
    by_cases h2 : g.length = 16
    · right; right; exact ⟨by rw [if_neg (by simp [h2])], by omega, h2⟩
    · right; left; exact ⟨by rw [if_pos h2], by omega, h2⟩
set_option maxHeartbeats 1000000 in
theorem fault_nil (kind no : Int) (t g : List UInt8) (w : World) : Calls Try.prog 33 #[.pointer none, .int .i64 kind, .int .i64 no, .string (bs t), .string (bs g)] w fun e W' => e = .returned (.int .i64 (faultE (isK kind && decide (0 ≤ no)) true t g)) ∧ W' = w := by
  have hsz : (bs t).size = t.length := bs_size t
  have hsg : (bs g).size = g.length := bs_size g
  cases h1 : isK kind
  · rw [show faultE (false && decide (0 ≤ no)) true t g = 1 by rfl]
    go_enter Try.func33, Try.ntmps33
    go_wp2_with (first | (go_at_call 43; refine (isKind_any _ _).mono ?_; rintro e w1 ⟨rfl, h9⟩; subst h9))
    go_ret
    exact ⟨rfl, rfl⟩
  · by_cases h2 : no < 0
    · rw [show faultE (true && decide (0 ≤ no)) true t g = 1 by rw [show decide (0 ≤ no) = false by simp; omega]; rfl]
      go_enter Try.func33, Try.ntmps33
      go_wp2_with (first | (go_at_call 43; refine (isKind_any _ _).mono ?_; rintro e w1 ⟨rfl, h9⟩; subst h9))
      go_ret
      exact ⟨rfl, rfl⟩
    · have h3 : 0 ≤ no := by omega
      rw [show decide (0 ≤ no) = true by simp [h3], Bool.and_self]
      rcases faultE_cases true t g with ⟨e1, k1⟩ | ⟨e1, k1, k2⟩ | ⟨e1, k1, k2⟩
      all_goals
        rw [e1]
        clear e1
      · have k3 : (30000 : Int) < (t.length : Int) := by omega
        go_enter Try.func33, Try.ntmps33
        go_wp2_with (first | (go_at_call 43; refine (isKind_any _ _).mono ?_; rintro e w1 ⟨rfl, h9⟩; subst h9))
        go_ret
        exact ⟨rfl, rfl⟩
      · have k3 : (t.length : Int) ≤ 30000 := by omega
        have k4 : ((g.length : Int) == 16) = false := by simp; omega
        clear k2
        go_enter Try.func33, Try.ntmps33
        go_wp2_with (first | (go_at_call 43; refine (isKind_any _ _).mono ?_; rintro e w1 ⟨rfl, h9⟩; subst h9))
        go_ret
        exact ⟨rfl, rfl⟩
      · have k3 : (t.length : Int) ≤ 30000 := by omega
        rw [k2] at hsg
        go_enter Try.func33, Try.ntmps33
        go_wp2_with (first | (go_at_call 43; refine (isKind_any _ _).mono ?_; rintro e w1 ⟨rfl, h9⟩; subst h9))
        go_ret
        exact ⟨rfl, rfl⟩
end Go.Proofs.Ytobojfkoffhljaa
