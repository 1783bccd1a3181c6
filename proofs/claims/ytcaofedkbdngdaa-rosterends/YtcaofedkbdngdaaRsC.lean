/- Rosters: Ends, Primary, End, walked. -/
import Derived.Test.YtcaofedkbdngdaaRsB
namespace Go.Proofs.Ytcaofedkbdngdaa
open Go.RowKit
attribute [local go_sem ↓] Go.wp_at_zero Go.wp_at_succ

theorem Ends_right {f g c : Int} (h : Rt f g c = true) (w : World) : Calls Try.prog 15 #[.agg #[.int .i64 f, .int .i64 g, .int .i64 c]] w fun e W' => e = .returned (.int .i64 ((g + 1) * (3 * f + 1) + c)) ∧ Below w.heap.size w W' := by
  have hb0 : Below w.heap.size w (w.alloc (.cells #[.int .i64 f, .int .i64 g, .int .i64 c] 23)) := (Below.refl _ w).alloc (Nat.le_refl _) _
  have hC := keepC (Check_right h) (hold3 (heap_alloc_new w (.cells #[.int .i64 f, .int .i64 g, .int .i64 c] 23))) _ (Below.refl _ _)
  have hN := keepC (replicas_right h) (hold3 (heap_alloc_new w (.cells #[.int .i64 f, .int .i64 g, .int .i64 c] 23)))
  obtain ⟨h1, h2, h3, h4, h5, h6⟩ := Rt_b h
  have hm := small_mul (a := g + 1) (b := 3 * f + 1) (by omega) (by omega) (by omega) (by omega)
  obtain ⟨R, hR⟩ : ∃ R, (g + 1) * (3 * f + 1) = R := ⟨_, rfl⟩
  rw [hR] at hN hm ⊢
  have e2 : IntKind.i64.wrap (R + c) = R + c := wrap_id (by omega) (by omega)
  obtain ⟨Q, hQ⟩ : ∃ Q, R + c = Q := ⟨_, rfl⟩
  rw [hQ] at e2 ⊢
  clear h hR
  go_enter Try.func15, Try.ntmps15
  go_wp2_with (go_at_call 11; refine hC.mono ?_; rintro e w1 ⟨rfl, hb1, x0, x1, x2⟩)
  go_region_held3 (fun w' => w'.cell? ⟨w.heap.size, 0, none⟩ = some (.int .i64 f) ∧ w'.cell? ⟨w.heap.size, 1, none⟩ = some (.int .i64 g) ∧ w'.cell? ⟨w.heap.size, 2, none⟩ = some (.int .i64 c)) (go_keep)
    (first | (go_at_call 27; refine (hN _ (by first | assumption | exact below_drew (by assumption))).mono ?_; rintro e w2 ⟨rfl, hb2, y0, y1, y2⟩))
  all_goals
    go_wp2
    go_ret
    exact ⟨by first | rfl | (simp only [*]), hb0.trans (hb2.mono hb0.size)⟩
/-- What Primary answers. -/
def primV (f g c view : Int) : Int := if Rt f g c = true ∧ wi view 0 1099511627776 = true then view % (3 * f + 1) else 0
def primE (f g c view : Int) : Int := if Rt f g c = true ∧ wi view 0 1099511627776 = true then 0 else 1
set_option maxHeartbeats 1000000 in
theorem Primary_any (f g c view : Int) (w : World) : Calls Try.prog 9 #[.agg #[.int .i64 f, .int .i64 g, .int .i64 c], .int .i64 view] w fun e W' => e = .returned (.tuple #[.int .i64 (primV f g c view), .int .i64 (primE f g c view)]) ∧ Below w.heap.size w W' := by
  have hb0 : Below w.heap.size w (w.alloc (.cells #[.int .i64 f, .int .i64 g, .int .i64 c] 23)) := (Below.refl _ w).alloc (Nat.le_refl _) _
  unfold primV primE
  cases h : Rt f g c
  · rw [if_neg (by simp), if_neg (by simp)]
    have hC := keepC (Check_wrong h) (hold3 (heap_alloc_new w (.cells #[.int .i64 f, .int .i64 g, .int .i64 c] 23))) _ (Below.refl _ _)
    clear h
    go_enter Try.func9, Try.ntmps9
    go_wp2_with (go_at_call 11; refine hC.mono ?_; rintro e w1 ⟨rfl, hb1, x0, x1, x2⟩)
    exact bodyPost_ret (v := .tuple #[.int .i64 0, .int .i64 1]) (by simp [results, Try.f9, go_sem]) rfl ⟨rfl, hb0.trans (hb1.mono hb0.size)⟩
  · have hC := keepC (Check_right h) (hold3 (heap_alloc_new w (.cells #[.int .i64 f, .int .i64 g, .int .i64 c] 23))) _ (Below.refl _ _)
    have hN := keepC (N_right h) (hold3 (heap_alloc_new w (.cells #[.int .i64 f, .int .i64 g, .int .i64 c] 23)))
    obtain ⟨h1, h2, h3, h4, h5, h6⟩ := Rt_b h
    cases h7 : wi view 0 1099511627776
    · rw [if_neg (by simp), if_neg (by simp)]
      clear h
      go_enter Try.func9, Try.ntmps9
      go_wp2_with (first
        | (go_at_call 11; refine hC.mono ?_; rintro e w1 ⟨rfl, hb1, x0, x1, x2⟩)
        | (go_at_call 26; refine (within_any _ _ _ _).mono ?_; rintro e w2 ⟨rfl, h9⟩; subst h9))
      exact bodyPost_ret (v := .tuple #[.int .i64 0, .int .i64 1]) (by simp [results, Try.f9, go_sem]) rfl ⟨rfl, hb0.trans (hb1.mono hb0.size)⟩
    · rw [if_pos ⟨rfl, rfl⟩, if_pos ⟨rfl, rfl⟩]
      obtain ⟨v0, v1⟩ := wi_t h7
      obtain ⟨n, hn⟩ : ∃ n, 3 * f + 1 = n := ⟨_, rfl⟩
      have n1 : 1 ≤ n := by omega
      have n2 : n ≤ 10 := by omega
      have n0 : n ≠ 0 := by omega
      have n3 : (n == 0) = false := by simp; omega
      have hm0 := Int.emod_nonneg view n0
      have hm1 := Int.emod_lt_of_pos view (show 0 < n by omega)
      rw [hn] at hN ⊢
      clear h hn
      go_enter Try.func9, Try.ntmps9
      go_wp2_with (first
        | (go_at_call 11; refine hC.mono ?_; rintro e w1 ⟨rfl, hb1, x0, x1, x2⟩)
        | (go_at_call 26; refine (within_any _ _ _ _).mono ?_; rintro e w2 ⟨rfl, h9⟩; subst h9)
        | (go_at_call 12; refine (hN _ (by first | assumption | exact below_drew (by assumption))).mono ?_; rintro e w3 ⟨rfl, hb3, y0, y1, y2⟩))
      exact bodyPost_ret (v := .tuple #[.int .i64 (view % n), .int .i64 0]) (by simp [results, Try.f9, go_sem]) rfl ⟨rfl, hb0.trans (hb3.mono hb0.size)⟩
end Go.Proofs.Ytcaofedkbdngdaa
