/- Rosters: N, Need, Some, replicas, Ends, Primary, walked. -/
import Derived.Test.YtcaofedkbdngdaaRsA
namespace Go.Proofs.Ytcaofedkbdngdaa
open Go.RowKit
attribute [local go_sem ↓] Go.wp_at_zero Go.wp_at_succ

theorem N_wrong {f g c : Int} (h : Rt f g c = false) (w : World) : Calls Try.prog 12 #[.agg #[.int .i64 f, .int .i64 g, .int .i64 c]] w fun e W' => e = .returned (.int .i64 0) ∧ Below w.heap.size w W' := by
  have hb0 : Below w.heap.size w (w.alloc (.cells #[.int .i64 f, .int .i64 g, .int .i64 c] 23)) := (Below.refl _ w).alloc (Nat.le_refl _) _
  have hC := Check_wrong h (w.alloc (.cells #[.int .i64 f, .int .i64 g, .int .i64 c] 23))
  clear h
  go_enter Try.func12, Try.ntmps12
  go_wp2_with (go_at_call 11; refine hC.mono ?_; rintro e w1 ⟨rfl, hb1⟩)
  go_ret
  exact ⟨rfl, hb0.trans (hb1.mono hb0.size)⟩
theorem Need_wrong {f g c : Int} (h : Rt f g c = false) (w : World) : Calls Try.prog 13 #[.agg #[.int .i64 f, .int .i64 g, .int .i64 c]] w fun e W' => e = .returned (.int .i64 0) ∧ Below w.heap.size w W' := by
  have hb0 : Below w.heap.size w (w.alloc (.cells #[.int .i64 f, .int .i64 g, .int .i64 c] 23)) := (Below.refl _ w).alloc (Nat.le_refl _) _
  have hC := Check_wrong h (w.alloc (.cells #[.int .i64 f, .int .i64 g, .int .i64 c] 23))
  clear h
  go_enter Try.func13, Try.ntmps13
  go_wp2_with (go_at_call 11; refine hC.mono ?_; rintro e w1 ⟨rfl, hb1⟩)
  go_ret
  exact ⟨rfl, hb0.trans (hb1.mono hb0.size)⟩
theorem Some_wrong {f g c : Int} (h : Rt f g c = false) (w : World) : Calls Try.prog 14 #[.agg #[.int .i64 f, .int .i64 g, .int .i64 c]] w fun e W' => e = .returned (.int .i64 0) ∧ Below w.heap.size w W' := by
  have hb0 : Below w.heap.size w (w.alloc (.cells #[.int .i64 f, .int .i64 g, .int .i64 c] 23)) := (Below.refl _ w).alloc (Nat.le_refl _) _
  have hC := Check_wrong h (w.alloc (.cells #[.int .i64 f, .int .i64 g, .int .i64 c] 23))
  clear h
  go_enter Try.func14, Try.ntmps14
  go_wp2_with (go_at_call 11; refine hC.mono ?_; rintro e w1 ⟨rfl, hb1⟩)
  go_ret
  exact ⟨rfl, hb0.trans (hb1.mono hb0.size)⟩
theorem Ends_wrong {f g c : Int} (h : Rt f g c = false) (w : World) : Calls Try.prog 15 #[.agg #[.int .i64 f, .int .i64 g, .int .i64 c]] w fun e W' => e = .returned (.int .i64 0) ∧ Below w.heap.size w W' := by
  have hb0 : Below w.heap.size w (w.alloc (.cells #[.int .i64 f, .int .i64 g, .int .i64 c] 23)) := (Below.refl _ w).alloc (Nat.le_refl _) _
  have hC := Check_wrong h (w.alloc (.cells #[.int .i64 f, .int .i64 g, .int .i64 c] 23))
  clear h
  go_enter Try.func15, Try.ntmps15
  go_wp2_with (go_at_call 11; refine hC.mono ?_; rintro e w1 ⟨rfl, hb1⟩)
  go_ret
  exact ⟨rfl, hb0.trans (hb1.mono hb0.size)⟩

theorem N_right {f g c : Int} (h : Rt f g c = true) (w : World) : Calls Try.prog 12 #[.agg #[.int .i64 f, .int .i64 g, .int .i64 c]] w fun e W' => e = .returned (.int .i64 (3 * f + 1)) ∧ Below w.heap.size w W' := by
  have hb0 : Below w.heap.size w (w.alloc (.cells #[.int .i64 f, .int .i64 g, .int .i64 c] 23)) := (Below.refl _ w).alloc (Nat.le_refl _) _
  have hC := keepC (Check_right h) (hold3 (heap_alloc_new w (.cells #[.int .i64 f, .int .i64 g, .int .i64 c] 23))) _ (Below.refl _ _)
  obtain ⟨h1, h2, _⟩ := Rt_b h
  clear h
  go_enter Try.func12, Try.ntmps12
  go_wp2_with (go_at_call 11; refine hC.mono ?_; rintro e w1 ⟨rfl, hb1, x0, x1, x2⟩)
  go_ret
  exact ⟨by go_num, hb0.trans (hb1.mono hb0.size)⟩
theorem Need_right {f g c : Int} (h : Rt f g c = true) (w : World) : Calls Try.prog 13 #[.agg #[.int .i64 f, .int .i64 g, .int .i64 c]] w fun e W' => e = .returned (.int .i64 (2 * f + 1)) ∧ Below w.heap.size w W' := by
  have hb0 : Below w.heap.size w (w.alloc (.cells #[.int .i64 f, .int .i64 g, .int .i64 c] 23)) := (Below.refl _ w).alloc (Nat.le_refl _) _
  have hC := keepC (Check_right h) (hold3 (heap_alloc_new w (.cells #[.int .i64 f, .int .i64 g, .int .i64 c] 23))) _ (Below.refl _ _)
  obtain ⟨h1, h2, _⟩ := Rt_b h
  clear h
  go_enter Try.func13, Try.ntmps13
  go_wp2_with (go_at_call 11; refine hC.mono ?_; rintro e w1 ⟨rfl, hb1, x0, x1, x2⟩)
  go_ret
  exact ⟨by go_num, hb0.trans (hb1.mono hb0.size)⟩
theorem Some_right {f g c : Int} (h : Rt f g c = true) (w : World) : Calls Try.prog 14 #[.agg #[.int .i64 f, .int .i64 g, .int .i64 c]] w fun e W' => e = .returned (.int .i64 (f + 1)) ∧ Below w.heap.size w W' := by
  have hb0 : Below w.heap.size w (w.alloc (.cells #[.int .i64 f, .int .i64 g, .int .i64 c] 23)) := (Below.refl _ w).alloc (Nat.le_refl _) _
  have hC := keepC (Check_right h) (hold3 (heap_alloc_new w (.cells #[.int .i64 f, .int .i64 g, .int .i64 c] 23))) _ (Below.refl _ _)
  obtain ⟨h1, h2, _⟩ := Rt_b h
  clear h
  go_enter Try.func14, Try.ntmps14
  go_wp2_with (go_at_call 11; refine hC.mono ?_; rintro e w1 ⟨rfl, hb1, x0, x1, x2⟩)
  go_ret
  exact ⟨by go_num, hb0.trans (hb1.mono hb0.size)⟩
/-- A product of small numbers. -/
theorem small_mul {a b : Int} (h1 : 0 ≤ a) (h2 : a ≤ 5) (h3 : 0 ≤ b) (h4 : b ≤ 10) : 0 ≤ a * b ∧ a * b ≤ 50 := by
  constructor
  · exact Int.mul_nonneg h1 h3
  · have : a * b ≤ 5 * 10 := Int.mul_le_mul h2 h4 h3 (by decide)
    omega
theorem wrap_id {x : Int} (h1 : -1000000 ≤ x) (h2 : x ≤ 1000000) : IntKind.i64.wrap x = x := by
  simp [IntKind.wrap, IntKind.bits, IntKind.signed]; omega
theorem replicas_right {f g c : Int} (h : Rt f g c = true) (w : World) : Calls Try.prog 27 #[.agg #[.int .i64 f, .int .i64 g, .int .i64 c]] w fun e W' => e = .returned (.int .i64 ((g + 1) * (3 * f + 1))) ∧ Below w.heap.size w W' := by
  have hb0 : Below w.heap.size w (w.alloc (.cells #[.int .i64 f, .int .i64 g, .int .i64 c] 23)) := (Below.refl _ w).alloc (Nat.le_refl _) _
  have hN := keepC (N_right h) (hold3 (heap_alloc_new w (.cells #[.int .i64 f, .int .i64 g, .int .i64 c] 23)))
  obtain ⟨h1, h2, h3, h4, h5, h6⟩ := Rt_b h
  have hm := small_mul (a := g + 1) (b := 3 * f + 1) (by omega) (by omega) (by omega) (by omega)
  have e1 : IntKind.i64.wrap (g + 1) = g + 1 := wrap_id (by omega) (by omega)
  have e2 : IntKind.i64.wrap ((g + 1) * (3 * f + 1)) = (g + 1) * (3 * f + 1) := wrap_id (by omega) (by omega)
  obtain ⟨n, hn⟩ : ∃ n, 3 * f + 1 = n := ⟨_, rfl⟩
  rw [hn] at hN e2 hm ⊢
  obtain ⟨G, hG⟩ : ∃ G, g + 1 = G := ⟨_, rfl⟩
  rw [hG] at e1 e2 hm ⊢
  clear h hn
  have hS := Below.refl (w.alloc (.cells #[.int .i64 f, .int .i64 g, .int .i64 c] 23)).heap.size (w.alloc (.cells #[.int .i64 f, .int .i64 g, .int .i64 c] 23))
  go_enter Try.func27, Try.ntmps27
  go_wp2_with fail
  go_region_held3 (fun w' => w'.cell? ⟨w.heap.size, 0, none⟩ = some (.int .i64 f) ∧ w'.cell? ⟨w.heap.size, 1, none⟩ = some (.int .i64 g) ∧ w'.cell? ⟨w.heap.size, 2, none⟩ = some (.int .i64 c)) (go_keep)
    (first | (go_at_call 12; refine (hN _ (by first | assumption | exact below_drew (by assumption))).mono ?_; rintro e w1 ⟨rfl, hb1, x0, x1, x2⟩))
  all_goals
    go_wp2
    go_ret
    exact ⟨by first | rfl | (simp only [*]), hb0.trans (hb1.mono hb0.size)⟩
end Go.Proofs.Ytcaofedkbdngdaa
