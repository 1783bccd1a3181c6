/- Chains: slices.Sort of at most four numbers, walked. -/
import Derived.Test.YtcehmaegnfelhaaChI
namespace Go.Proofs.Ytcehmaegnfelhaa
open Go.RowKit
attribute [local go_sem ↓] Go.wp_at_zero Go.wp_at_succ

set_option maxRecDepth 20000 in
set_option maxHeartbeats 2000000 in
theorem Len64_any (n : Nat) (h1 : 1 ≤ n) (h2 : n ≤ 4) (w : World) : Calls Try.prog 65 #[.int .u64 n] w fun e W' => ∃ k, e = .returned (.int .i64 k) ∧ W' = w := by
  have : n = 1 ∨ n = 2 ∨ n = 3 ∨ n = 4 := by omega
  rcases this with rfl | rfl | rfl | rfl
  all_goals
    clear h1 h2
    go_enter Try.func65, Try.ntmps65
    go_wp2
    go_ret
    exact ⟨_, rfl, rfl⟩
theorem Len_any (n : Nat) (h1 : 1 ≤ n) (h2 : n ≤ 4) (w : World) : Calls Try.prog 50 #[.int .u64 n] w fun e W' => ∃ k, e = .returned (.int .i64 k) ∧ W' = w := by
  have hL := Len64_any n h1 h2 w
  go_enter Try.func50, Try.ntmps50
  go_wp2_with (go_at_call 65; refine hL.mono ?_; rintro e w1 ⟨k, rfl, h9⟩; subst w1)
  go_ret
  exact ⟨_, rfl, rfl⟩
set_option maxRecDepth 20000 in
set_option maxHeartbeats 4000000 in
theorem pdqsort_any (L : List Int) (g cap B : Nat) (k : Int) (hl : 0 < L.length) (hl2 : L.length ≤ 12) (w : World) (hS : Sc w g L) (hg : B ≤ g) :
    Calls Try.prog 49 #[.slice (some ⟨g, 0, none⟩) L.length cap, .int .i64 0, .int .i64 L.length, .int .i64 k] w fun e W' => e = .returned (.tuple #[]) ∧ Sc W' g (insTo L L.length) ∧ Onl B g w W' := by
  have hI := insertionSort_any L g cap B hl hl2 w hS hg
  obtain ⟨n, hn⟩ : ∃ n, L.length = n := ⟨_, rfl⟩
  rw [hn] at hl hl2 hI ⊢
  have n0 : (n : Int) ≤ 12 := by omega
  clear hS hn
  go_enter Try.func49, Try.ntmps49
  go_wp2_with fail
  go_loopg [1, 2, 3, 8, 9] 0 (fun gk a b c d e wr => a = .int .i64 0 ∧ b = .int .i64 n ∧ c = .int .i64 k ∧ d = .bool true ∧ e = .bool true ∧ wr = w)
  case atStart => exact ⟨rfl, rfl, rfl, rfl, rfl, rfl⟩
  case round =>
    obtain ⟨rfl, rfl, rfl, rfl, rfl, rfl⟩ := hrel
    go_wp2_with (go_at_call 55; refine hI.mono ?_; rintro e w1 ⟨rfl, h1, h2⟩)
    exact bodyPost_ret (v := .tuple #[]) (by simp [results, Try.f49]) rfl ⟨rfl, h1, h2⟩
theorem Sort_any (L : List Int) (g cap B : Nat) (hl : 0 < L.length) (hl2 : L.length ≤ 4) (w : World) (hS : Sc w g L) (hg : B ≤ g) :
    Calls Try.prog 42 #[.slice (some ⟨g, 0, none⟩) L.length cap] w fun e W' => e = .returned (.tuple #[]) ∧ Sc W' g (insTo L L.length) ∧ Onl B g w W' := by
  have hP := fun k => pdqsort_any L g cap B k hl (by omega) w hS hg
  have hL := Len_any L.length hl hl2 w
  obtain ⟨n, hn⟩ : ∃ n, L.length = n := ⟨_, rfl⟩
  rw [hn] at hl hl2 hP hL ⊢
  clear hS hn
  go_enter Try.func42, Try.ntmps42
  go_wp2_with (first
    | (go_at_call 50; refine hL.mono ?_; rintro e w1 ⟨k, rfl, h9⟩; subst w1)
    | (go_at_call 49; refine (hP _).mono ?_; rintro e w2 ⟨rfl, h1, h2⟩))
  exact bodyPost_end (v := .tuple #[]) (by simp [results, Try.f42]) rfl ⟨rfl, h1, h2⟩
end Go.Proofs.Ytcehmaegnfelhaa
