/- The law RosterCounts, walked. -/
import Derived.Test.YtcaofedkbdngdaaRsL
namespace Go.Proofs.Ytcaofedkbdngdaa
open Go.RowKit
attribute [local go_sem ↓] Go.wp_at_zero Go.wp_at_succ

set_option maxRecDepth 20000 in
set_option maxHeartbeats 4000000 in
theorem counts_any (f g c view : Int) (w : World) : Calls Try.prog 3 #[.agg #[.int .i64 f, .int .i64 g, .int .i64 c], .int .i64 view] w fun e W' => e = .returned (.bool true) ∧ Below w.heap.size w W' := by
  have hb0 : Below w.heap.size w (w.alloc (.cells #[.int .i64 f, .int .i64 g, .int .i64 c] 23)) := (Below.refl _ w).alloc (Nat.le_refl _) _
  have hH := hold3 (heap_alloc_new w (.cells #[.int .i64 f, .int .i64 g, .int .i64 c] 23))
  have hT := keepC two_any hH
  have hRt := Right_any f g c
  have hP := keepC (Primary_any f g c view) hH
  have hQ := rPrimary_any f g c view
  obtain ⟨PV, hPV⟩ : ∃ v, primV f g c view = v := ⟨_, rfl⟩
  obtain ⟨PE, hPE⟩ : ∃ v, primE f g c view = v := ⟨_, rfl⟩
  rw [hPV, hPE] at hP hQ
  clear hPV hPE
  have hS := Below.refl (w.alloc (.cells #[.int .i64 f, .int .i64 g, .int .i64 c] 23)).heap.size (w.alloc (.cells #[.int .i64 f, .int .i64 g, .int .i64 c] 23))
  cases h : Rt f g c
  · rw [h] at hRt
    have hC := keepC (Check_wrong h) hH
    have hN := keepC (N_wrong h) hH
    have hD := keepC (Need_wrong h) hH
    have hO := keepC (Some_wrong h) hH
    have hE := keepC (Ends_wrong h) hH
    clear h hH
    go_enter Try.func3, Try.ntmps3
    go_wp2_with (first
      | (go_at_call 8; refine (hRt _).mono ?_; rintro e w1 ⟨rfl, h9⟩; subst h9)
      | (go_at_call 9; refine (hP _ (by assumption)).mono ?_; rintro e w2 ⟨rfl, hb2, x0, x1, x2⟩)
      | (go_at_call 10; refine (hQ _).mono ?_; rintro e w3 ⟨rfl, h9⟩; subst h9)
      | (go_at_call 11; refine (hC _ (by assumption)).mono ?_; rintro e w4 ⟨rfl, hb4, y0, y1, y2⟩)
      | (go_at_call 12; refine (hN _ (by assumption)).mono ?_; rintro e w5 ⟨rfl, hb5, z0, z1, z2⟩)
      | (go_at_call 13; refine (hD _ (by assumption)).mono ?_; rintro e w6 ⟨rfl, hb6, u0, u1, u2⟩)
      | (go_at_call 14; refine (hO _ (by assumption)).mono ?_; rintro e w7 ⟨rfl, hb7, v0, v1, v2⟩)
      | (go_at_call 15; refine (hE _ (by assumption)).mono ?_; rintro e w8 ⟨rfl, hb8, t0, t1, t2⟩)
      | (go_at_call 16; refine (hT _ (by assumption)).mono ?_; rintro e w9 ⟨rfl, hb9, s0, s1, s2⟩))
    go_ret
    exact ⟨rfl, hb0.trans (hb9.mono hb0.size)⟩
  · rw [h] at hRt
    have hC := keepC (Check_right h) hH
    have hN := keepC (N_right h) hH
    have hD := keepC (Need_right h) hH
    have hO := keepC (Some_right h) hH
    have hE := keepC (Ends_right h) hH
    obtain ⟨h1, h2, h3, h4, h5, h6⟩ := Rt_b h
    obtain ⟨n, hn⟩ : ∃ n : Nat, (n : Int) = 3 * f + 1 := ⟨(3 * f + 1).toNat, by omega⟩
    obtain ⟨G, hG⟩ : ∃ n : Nat, (n : Int) = g + 1 := ⟨(g + 1).toNat, by omega⟩
    obtain ⟨C, hCc⟩ : ∃ n : Nat, (n : Int) = c := ⟨c.toNat, by omega⟩
    have hL := rEnds_right h n G C hn hG hCc
    obtain ⟨T, hTt⟩ : ∃ T : Nat, G * n + C = T := ⟨_, rfl⟩
    have hTi : (g + 1) * (3 * f + 1) + c = (T : Int) := by rw [← hTt, ← hn, ← hG, ← hCc]; push_cast; rfl
    rw [hTt] at hL
    rw [hTi] at hE
    have HH : Hid (_) := hH
    obtain ⟨m3, q3⟩ : ∃ m, 3 * f = m := ⟨_, rfl⟩
    obtain ⟨m2, q2⟩ : ∃ m, 2 * f = m := ⟨_, rfl⟩
    obtain ⟨n3, q4⟩ : ∃ m, m3 + 1 = m := ⟨_, rfl⟩
    obtain ⟨n2, q5⟩ : ∃ m, m2 + 1 = m := ⟨_, rfl⟩
    obtain ⟨s1, q6⟩ : ∃ m, f + 1 = m := ⟨_, rfl⟩
    have e1 : IntKind.i64.wrap (3 * f) = m3 := by rw [← q3]; exact wrap_id (by omega) (by omega)
    have e2 : IntKind.i64.wrap (m3 + 1) = n3 := by rw [← q4]; exact wrap_id (by omega) (by omega)
    have e3 : IntKind.i64.wrap (2 * f) = m2 := by rw [← q2]; exact wrap_id (by omega) (by omega)
    have e4 : IntKind.i64.wrap (m2 + 1) = n2 := by rw [← q5]; exact wrap_id (by omega) (by omega)
    have e5 : IntKind.i64.wrap (f + 1) = s1 := by rw [← q6]; exact wrap_id (by omega) (by omega)
    rw [q3, q4] at hN
    rw [q2, q5] at hD
    rw [q6] at hO
    clear h hH hn hG hCc hTt hTi q2 q3 q4 q5 q6
    go_enter Try.func3, Try.ntmps3
    go_upto_region 8 with (first
      | (go_at_call 8; refine (hRt _).mono ?_; rintro e w1 ⟨rfl, h9⟩; subst h9)
      | (go_at_call 9; refine (hP _ (by assumption)).mono ?_; rintro e w2 ⟨rfl, hb2, x0, x1, x2⟩)
      | (go_at_call 10; refine (hQ _).mono ?_; rintro e w3 ⟨rfl, h9⟩; subst h9)
      | (go_at_call 11; refine (hC _ (by assumption)).mono ?_; rintro e w4 ⟨rfl, hb4, y0, y1, y2⟩))
    clear hS hC hP hQ hRt
    go_region_held3 (fun w' => w'.cell? ⟨w.heap.size, 0, none⟩ = some (.int .i64 f) ∧ w'.cell? ⟨w.heap.size, 1, none⟩ = some (.int .i64 g) ∧ w'.cell? ⟨w.heap.size, 2, none⟩ = some (.int .i64 c)) (go_keep)
      (first
        | (go_at_call 12; refine (hN _ (by first | assumption | exact below_drew (by assumption))).mono ?_; rintro e w5 ⟨rfl, hb5, z0, z1, z2⟩)
        | (go_at_call 13; refine (hD _ (by first | assumption | exact below_drew (by assumption))).mono ?_; rintro e w6 ⟨rfl, hb6, u0, u1, u2⟩)
        | (go_at_call 14; refine (hO _ (by first | assumption | exact below_drew (by assumption))).mono ?_; rintro e w7 ⟨rfl, hb7, v0, v1, v2⟩)
        | (go_at_call 15; refine (hE _ (by first | assumption | exact below_drew (by assumption))).mono ?_; rintro e w8 ⟨rfl, hb8, t0, t1, t2⟩)
        | (go_at_call 17; refine (hL w8).mono ?_; rintro e w10 ⟨⟨u, rfl, ho⟩, hb10⟩; obtain ⟨ua, uc, rfl⟩ := owns_slice ho; have hb11 := hb8.trans (hb10.mono hb8.size); obtain ⟨p0, p1, p2⟩ := HH.out _ hb11)
        | (go_at_call 16; refine (hT _ (by first | assumption | exact below_drew (by assumption))).mono ?_; rintro e w9 ⟨rfl, hb9, s0, s1, s2⟩))
    all_goals
      go_wp2
      go_ret
      exact ⟨rfl, hb0.trans (hb9.mono hb0.size)⟩
end Go.Proofs.Ytcaofedkbdngdaa
