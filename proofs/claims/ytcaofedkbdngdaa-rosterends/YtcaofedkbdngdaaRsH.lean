/- Rosters: Others, and the laws' small case, walked. -/
import Derived.Test.YtcaofedkbdngdaaRsG
namespace Go.Proofs.Ytcaofedkbdngdaa
open Go.RowKit
attribute [local go_sem ↓] Go.wp_at_zero Go.wp_at_succ

set_option maxRecDepth 20000 in
set_option maxHeartbeats 4000000 in
theorem Others_any (f g c pg pn : Int) (w : World) : Calls Try.prog 24 #[.agg #[.int .i64 f, .int .i64 g, .int .i64 c], .agg #[.int .i64 pg, .int .i64 pn]] w fun e W' => (∃ u, e = .returned u ∧ W'.ownsRow w.heap.size 3 1 u (othL f g c pg pn).length (zcs (othL f g c pg pn))) ∧ Below w.heap.size w W' := by
  have hb0 : Below w.heap.size w ((w.alloc (.cells #[.int .i64 f, .int .i64 g, .int .i64 c] 23)).alloc (.cells #[.int .i64 pg, .int .i64 pn] 37)) := ((Below.refl _ w).alloc (Nat.le_refl _) _).alloc (by simp) _
  have r0 : ((w.alloc (.cells #[.int .i64 f, .int .i64 g, .int .i64 c] 23)).alloc (.cells #[.int .i64 pg, .int .i64 pn] 37)).heap[w.heap.size]? = some (.cells #[.int .i64 f, .int .i64 g, .int .i64 c] 23) := (Below.heap_alloc _ _ _ (by simp)).trans (heap_alloc_new _ _)
  have r1 : ((w.alloc (.cells #[.int .i64 f, .int .i64 g, .int .i64 c] 23)).alloc (.cells #[.int .i64 pg, .int .i64 pn] 37)).heap[w.heap.size + 1]? = some (.cells #[.int .i64 pg, .int .i64 pn] 37) := by
    have := heap_alloc_new (w.alloc (.cells #[.int .i64 f, .int .i64 g, .int .i64 c] 23)) (.cells #[.int .i64 pg, .int .i64 pn] 37)
    rw [show (w.alloc (.cells #[.int .i64 f, .int .i64 g, .int .i64 c] 23)).heap.size = w.heap.size + 1 by simp] at this
    exact this
  have hH := hold32 r0 r1
  have hE := keepC (End_any f g c pg pn) hH _ (Below.refl _ _)
  clear r0 r1
  obtain ⟨V, hV⟩ : ∃ V, endV f g c pg pn = V := ⟨_, rfl⟩
  obtain ⟨X, hX⟩ : ∃ X, endE f g c pg pn = X := ⟨_, rfl⟩
  have hO : othL f g c pg pn = if X = 0 ∧ pg ≠ -1 then butL f g c pn pg (nN f g c) else [] := by unfold othL; rw [hX]
  rw [hV, hX] at hE
  rw [hO]
  clear hO hV hX
  by_cases hc : X = 0 ∧ pg ≠ -1
  · rw [if_pos hc]
    obtain ⟨e1, e2⟩ := hc
    have hN := keepC (N_any f g c) hH
    have hM := but_keep f g c pn pg (W0 := (w.alloc (.cells #[.int .i64 f, .int .i64 g, .int .i64 c] 23)).alloc (.cells #[.int .i64 pg, .int .i64 pn] 37))
    subst e1
    have q2 : (pg == -1) = false := by simp [e2]
    obtain ⟨L, hL⟩ : ∃ L, butL f g c pn pg (nN f g c) = L := ⟨_, rfl⟩
    rw [hL] at hM ⊢
    have HH : Hid (_) := hH
    clear e2 hL hH
    go_enter Try.func24, Try.ntmps24
    go_upto_region 4 with (first
      | (go_at_call 18; refine hE.mono ?_; rintro e w1 ⟨rfl, hb1, x0, x1, x2, x3, x4⟩))
    go_region_held3 (fun w' => w'.cell? ⟨w.heap.size, 0, none⟩ = some (.int .i64 f) ∧ w'.cell? ⟨w.heap.size, 1, none⟩ = some (.int .i64 g) ∧ w'.cell? ⟨w.heap.size, 2, none⟩ = some (.int .i64 c) ∧ w'.cell? ⟨w.heap.size + 1, 0, none⟩ = some (.int .i64 pg) ∧ w'.cell? ⟨w.heap.size + 1, 1, none⟩ = some (.int .i64 pn)) (go_keep)
      (first
        | (go_at_call 12; refine (hN _ (by first | assumption | exact below_drew (by assumption))).mono ?_; rintro e w3 ⟨rfl, hb3, y0, y1, y2, y3, y4⟩)
        | (go_at_call 28; refine (hM _ (by first | assumption | exact below_drew (by assumption))).mono ?_; rintro e w4 ⟨⟨u, rfl, ho⟩, hb4⟩; obtain ⟨z0, z1, z2, z3, z4⟩ := HH.out _ hb4))
    all_goals
      go_wp2
      go_ret
      exact ⟨⟨u, rfl, owns_base ho hb0.size⟩, hb0.trans (hb4.mono hb0.size)⟩
  · rw [if_neg hc]
    have hcc : (X == 0) = false ∨ (X = 0 ∧ pg = -1) := by
      by_cases e1 : X = 0
      · right
        refine ⟨e1, ?_⟩
        by_cases e2 : pg = -1
        · exact e2
        · exact absurd ⟨e1, e2⟩ hc
      · left; simp [e1]
    clear hc hH
    rcases hcc with q1 | ⟨rfl, rfl⟩
    all_goals
      go_enter Try.func24, Try.ntmps24
      go_wp2_with (first
        | (go_at_call 18; refine hE.mono ?_; rintro e w1 ⟨rfl, hb1, x0, x1, x2, x3, x4⟩))
      go_ret
      exact ⟨⟨_, rfl, World.ownsRow_nil _ _ _ _⟩, hb0.trans (hb1.mono hb0.size)⟩

theorem Il_lit (w : World) : Il (w.alloc (.cells #[.int .i64 4, .int .i64 5, .int .i64 6, .int .i64 7] 3)) (.slice (some ⟨w.heap.size, 0, none⟩) 4 4) [4, 5, 6, 7] := by
  refine .inr ⟨_, 0, 4, rfl, by simp, fun i n hn => ?_⟩
  rw [Nat.zero_add]
  refine cellB (heap_alloc_new _ _) i _ ?_
  have := zcs_at [4, 5, 6, 7] i n hn
  simpa [zcs] using this
set_option maxRecDepth 20000 in
set_option maxHeartbeats 4000000 in
theorem two_any (w : World) : Calls Try.prog 16 #[] w fun e W' => e = .returned (.bool true) ∧ Below w.heap.size w W' := by
  have hb0 : Below w.heap.size w (w.alloc (.cells #[.int .i64 1, .int .i64 2, .int .i64 2] 23)) := (Below.refl _ w).alloc (Nat.le_refl _) _
  have hH := hold3 (heap_alloc_new w (.cells #[.int .i64 1, .int .i64 2, .int .i64 2] 23))
  have hE := keepC (End_any 1 2 2 (-1) 1) hH
  have hN := keepC (N_any 1 2 2) hH
  have hT := keepC (Ends_right (f := 1) (g := 2) (c := 2) (by decide)) hH
  have hG := Group_any 1 2 2 1
  rw [show endV 1 2 2 (-1) 1 = 13 by decide, show endE 1 2 2 (-1) 1 = 0 by decide] at hE
  rw [show (nN 1 2 2 : Int) = 4 by decide] at hN
  rw [show ((2 : Int) + 1) * (3 * 1 + 1) + 2 = 14 by decide] at hT
  rw [show grpL 1 2 2 1 = [4, 5, 6, 7] by decide] at hG
  have HH : Hid (_) := hH
  clear hH
  go_enter Try.func16, Try.ntmps16
  go_upto_region 2 with fail
  have hS := Below.refl (w.alloc (.cells #[.int .i64 1, .int .i64 2, .int .i64 2] 23)).heap.size (w.alloc (.cells #[.int .i64 1, .int .i64 2, .int .i64 2] 23))
  go_wp2_with (first
    | (go_at_call 18; refine (hE _ (by assumption)).mono ?_; rintro e w1 ⟨rfl, hb1, x0, x1, x2⟩)
    | (go_at_call 15; refine (hT _ (by assumption)).mono ?_; rintro e w2 ⟨rfl, hb2, y0, y1, y2⟩)
    | (go_at_call 12; refine (hN _ (by assumption)).mono ?_; rintro e w3 ⟨rfl, hb3, z0, z1, z2⟩)
    | (go_at_call 25; refine (hG _).mono ?_; rintro e w4 ⟨⟨u, rfl, ho⟩, hb4⟩; have hb5 := hb3.trans (hb4.mono hb3.size))
    | (go_at_call 23; refine (Ints_any [4, 5, 6, 7] _ _ _ ((Il_owns ho).below ((Below.refl _ _).alloc (Nat.le_refl _) _) (Nat.le_refl _)) (Il_lit _) (by decide)).mono ?_; rintro e w6 ⟨rfl, hb6⟩; have hb7 := (hb5.alloc hb5.size (.cells #[.int .i64 4, .int .i64 5, .int .i64 6, .int .i64 7] 3)).trans (hb6.mono (Nat.le_trans hb5.size (by simp)))))
  go_ret
  exact ⟨rfl, hb0.trans (hb7.mono hb0.size)⟩
end Go.Proofs.Ytcaofedkbdngdaa
