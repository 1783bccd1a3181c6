/- Rosters: Party, walked. -/
import Derived.Test.YtcaofedkbdngdaaRsD
namespace Go.Proofs.Ytcaofedkbdngdaa
open Go.RowKit
attribute [local go_sem ↓] Go.wp_at_zero Go.wp_at_succ

/-- Whose an end is. -/
def ptG (f g c e : Int) : Int := if Rt f g c = true then (if wi e 0 ((g + 1) * (3 * f + 1) + c - 1) = true then (if (g + 1) * (3 * f + 1) ≤ e then -1 else e / (3 * f + 1)) else 0) else 0
def ptN (f g c e : Int) : Int := if Rt f g c = true then (if wi e 0 ((g + 1) * (3 * f + 1) + c - 1) = true then (if (g + 1) * (3 * f + 1) ≤ e then e - (g + 1) * (3 * f + 1) else e % (3 * f + 1)) else 0) else 0
def ptE (f g c e : Int) : Int := if Rt f g c = true then (if wi e 0 ((g + 1) * (3 * f + 1) + c - 1) = true then 0 else 6) else 1
theorem hold32f {W0 : World} {B B2 : Nat} {a b c d e : Value} {t t2 : TypeId} (r : W0.heap[B]? = some (.cells #[a, b, c] t)) (r2 : W0.heap[B2]? = some (.cells #[d, e] t2)) : ∀ W', Below W0.heap.size W0 W' → W'.cell? ⟨B, 0, none⟩ = some a ∧ W'.cell? ⟨B, 1, none⟩ = some b ∧ W'.cell? ⟨B, 2, none⟩ = some c ∧ W'.cell? ⟨B2, 0, none⟩ = some d ∧ W'.cell? ⟨B2, 1, none⟩ = some e ∧ W'.frozen? ⟨B2, 0, none⟩ = false ∧ W'.frozen? ⟨B2, 1, none⟩ = false ∧ W'.heap[B2]? = some (.cells #[d, e] t2) := by
  intro W' h
  obtain ⟨h1, h2, h3⟩ := hold3 r W' h
  obtain ⟨h4, h5⟩ := hold2 r2 W' h
  have r' := (h.block B2 (Array.getElem?_eq_some_iff.1 r2).1).trans r2
  exact ⟨h1, h2, h3, h4, h5, frozenB r' 0, frozenB r' 1, r'⟩
/-- A result's own block, written. -/
theorem fin2 {w W : World} {R : Nat} {u v : Value} {t : TypeId} (h1 : W.heap[R]? = some (.cells #[u, v] t)) (h2 : Below w.heap.size w W) (hR : w.heap.size ≤ R) (p q : Value) :
    ((W.setCell ⟨R, 0, none⟩ p).setCell ⟨R, 1, none⟩ q).cell? ⟨R, 0, none⟩ = some p ∧ ((W.setCell ⟨R, 0, none⟩ p).setCell ⟨R, 1, none⟩ q).cell? ⟨R, 1, none⟩ = some q ∧ Below w.heap.size w ((W.setCell ⟨R, 0, none⟩ p).setCell ⟨R, 1, none⟩ q) := by
  have hr := setB (setB h1 0 p) 1 q
  exact ⟨cellB hr 0 _ rfl, cellB hr 1 _ rfl, (h2.setCell (p := ⟨R, 0, none⟩) hR _).setCell (p := ⟨R, 1, none⟩) hR _⟩
theorem div_small {e n : Int} (h1 : 0 ≤ e) (h2 : e ≤ 100) (h3 : 1 ≤ n) : 0 ≤ e / n ∧ e / n ≤ 100 := by
  constructor
  · exact Int.ediv_nonneg h1 (by omega)
  · exact Int.le_trans (Int.ediv_le_self _ h1) h2
set_option maxRecDepth 20000 in
set_option maxHeartbeats 4000000 in
theorem Party_any (f g c e : Int) (w : World) : Calls Try.prog 20 #[.agg #[.int .i64 f, .int .i64 g, .int .i64 c], .int .i64 e] w fun x W' => x = .returned (.tuple #[.agg #[.int .i64 (ptG f g c e), .int .i64 (ptN f g c e)], .int .i64 (ptE f g c e)]) ∧ Below w.heap.size w W' := by
  have hb0 : Below w.heap.size w ((w.alloc (.cells #[.int .i64 f, .int .i64 g, .int .i64 c] 23)).alloc (.cells #[.int .i64 0, .int .i64 0] 37)) := ((Below.refl _ w).alloc (Nat.le_refl _) _).alloc (by simp) _
  have r0 : ((w.alloc (.cells #[.int .i64 f, .int .i64 g, .int .i64 c] 23)).alloc (.cells #[.int .i64 0, .int .i64 0] 37)).heap[w.heap.size]? = some (.cells #[.int .i64 f, .int .i64 g, .int .i64 c] 23) := (Below.heap_alloc _ _ _ (by simp)).trans (heap_alloc_new _ _)
  have r1 : ((w.alloc (.cells #[.int .i64 f, .int .i64 g, .int .i64 c] 23)).alloc (.cells #[.int .i64 0, .int .i64 0] 37)).heap[w.heap.size + 1]? = some (.cells #[.int .i64 0, .int .i64 0] 37) := by
    have := heap_alloc_new (w.alloc (.cells #[.int .i64 f, .int .i64 g, .int .i64 c] 23)) (.cells #[.int .i64 0, .int .i64 0] 37)
    rw [show (w.alloc (.cells #[.int .i64 f, .int .i64 g, .int .i64 c] 23)).heap.size = w.heap.size + 1 by simp] at this
    exact this
  have hH := hold32f r0 r1
  have hle : w.heap.size ≤ w.heap.size + 1 := Nat.le_succ _
  clear r0 r1
  cases h : Rt f g c
  · rw [show ptG f g c e = 0 by simp [ptG, h], show ptN f g c e = 0 by simp [ptN, h], show ptE f g c e = 1 by simp [ptE, h]]
    have hC := keepC (Check_wrong h) hH _ (Below.refl _ _)
    clear h hH
    go_enter Try.func20, Try.ntmps20
    go_upto_region 3 with (first | (go_at_call 11; refine hC.mono ?_; rintro e w1 ⟨rfl, hb1, x0, x1, x2, x3, x4, f0, f1, r1⟩))
    obtain ⟨y0, y1, hB3⟩ := fin2 r1 (hb0.trans (hb1.mono hb0.size)) hle (.int .i64 0) (.int .i64 0)
    go_wp2
    exact bodyPost_ret (v := .tuple #[.agg #[.int .i64 0, .int .i64 0], .int .i64 1]) (by simp [results, Try.f20, go_sem, y0, y1]) rfl ⟨rfl, hB3⟩
  · have hC := keepC (Check_right h) hH _ (Below.refl _ _)
    have hN := keepC (N_right h) hH
    have hR := keepC (replicas_right h) hH
    have hE := keepC (Ends_right h) hH
    obtain ⟨h1, h2, h3, h4, h5, h6⟩ := Rt_b h
    have hm := small_mul (a := g + 1) (b := 3 * f + 1) (by omega) (by omega) (by omega) (by omega)
    obtain ⟨n, hn⟩ : ∃ n, 3 * f + 1 = n := ⟨_, rfl⟩
    have hn1 : 1 ≤ n := by omega
    have hn2 : n ≤ 10 := by omega
    obtain ⟨M, hM⟩ : ∃ M, (g + 1) * (3 * f + 1) = M := ⟨_, rfl⟩
    obtain ⟨T, hT⟩ : ∃ T, M + c = T := ⟨_, rfl⟩
    have hT1 : 1 ≤ T := by omega
    have hT2 : T ≤ 58 := by omega
    have dG : ptG f g c e = if wi e 0 (T - 1) = true then (if M ≤ e then -1 else e / n) else 0 := by unfold ptG; rw [h, if_pos rfl, hM, hT, hn]
    have dN : ptN f g c e = if wi e 0 (T - 1) = true then (if M ≤ e then e - M else e % n) else 0 := by unfold ptN; rw [h, if_pos rfl, hM, hT, hn]
    have dE : ptE f g c e = if wi e 0 (T - 1) = true then 0 else 6 := by unfold ptE; rw [h, if_pos rfl, hM, hT]
    rw [dG, dN, dE]
    rw [hM] at hR hm hE
    rw [hT] at hE
    rw [hn] at hN
    clear h hH dG dN dE hn hM
    cases k : wi e 0 (T - 1)
    · rw [if_neg (by simp), if_neg (by simp), if_neg (by simp)]
      clear hR hN
      go_enter Try.func20, Try.ntmps20
      go_upto_region 5 with (first
        | (go_at_call 11; refine hC.mono ?_; rintro e w1 ⟨rfl, hb1, x0, x1, x2, x3, x4, f0, f1, r1⟩)
        | (go_at_call 15; refine (hE _ (by first | assumption | exact below_drew (by assumption))).mono ?_; rintro e w3 ⟨rfl, hb3, y0, y1, y2, y3, y4, f0, f1, r1⟩)
        | (go_at_call 26; refine (within_any _ _ _ _).mono ?_; rintro e w2 ⟨rfl, h9⟩; subst h9))
      obtain ⟨y0, y1, hB3⟩ := fin2 r1 (hb0.trans (hb3.mono hb0.size)) hle (.int .i64 0) (.int .i64 0)
      go_wp2
      exact bodyPost_ret (v := .tuple #[.agg #[.int .i64 0, .int .i64 0], .int .i64 6]) (by simp [results, Try.f20, go_sem, y0, y1]) rfl ⟨rfl, hB3⟩
    · rw [if_pos rfl, if_pos rfl, if_pos rfl]
      have ke := wi_t k
      by_cases hMe : M ≤ e
      · rw [if_pos hMe, if_pos hMe]
        have e7 : IntKind.i64.wrap (e - M) = e - M := wrap_id (by omega) (by omega)
        obtain ⟨D, hD⟩ : ∃ D, e - M = D := ⟨_, rfl⟩
        rw [hD] at e7 ⊢
        clear hN
        go_enter Try.func20, Try.ntmps20
        go_upto_region 7 with (first
          | (go_at_call 11; refine hC.mono ?_; rintro e w1 ⟨rfl, hb1, x0, x1, x2, x3, x4, f0, f1, r1⟩)
          | (go_at_call 15; refine (hE _ (by first | assumption | exact below_drew (by assumption))).mono ?_; rintro e w3 ⟨rfl, hb3, y0, y1, y2, y3, y4, f0, f1, r1⟩)
          | (go_at_call 27; refine (hR _ (by first | assumption | exact below_drew (by assumption))).mono ?_; rintro e w4 ⟨rfl, hb4, z0, z1, z2, z3, z4, f0, f1, r1⟩)
          | (go_at_call 26; refine (within_any _ _ _ _).mono ?_; rintro e w2 ⟨rfl, h9⟩; subst h9))
        go_wp2_with (first
          | (go_at_call 27; refine (hR _ (by first | assumption | exact below_drew (by assumption))).mono ?_; rintro e w5 ⟨rfl, hb5, z0, z1, z2, z3, z4, f0, f1, r5⟩; obtain ⟨y0, y1, hB3⟩ := fin2 r5 (hb0.trans (hb5.mono hb0.size)) hle (.int .i64 (-1)) (.int .i64 D)))
        exact bodyPost_ret (v := .tuple #[.agg #[.int .i64 (-1), .int .i64 D], .int .i64 0]) (by simp [results, Try.f20, go_sem, y0, y1]) rfl ⟨rfl, hB3⟩
      · rw [if_neg hMe, if_neg hMe]
        have hlt : e < M := by omega
        have e0 : 0 ≤ e := ke.1
        have n0 : (n == 0) = false := by simp; omega
        have nz : n ≠ 0 := by omega
        have e9 : e ≤ 100 := by omega
        obtain ⟨d0, d1⟩ := div_small e0 e9 hn1
        have m0 := Int.emod_nonneg e (show n ≠ 0 by omega)
        have m1 := Int.emod_lt_of_pos e (show 0 < n by omega)
        have HD : Hid (IntKind.i64.wrap (Int.tdiv e n) = e / n) := by show _ = _; rw [Int.tdiv_eq_ediv_of_nonneg e0]; exact wrap_id (by omega) (by omega)
        have HM : Hid (Int.tmod e n = e % n) := Int.tmod_eq_emod_of_nonneg e0
        clear hMe
        go_enter Try.func20, Try.ntmps20
        go_upto_region 8 with (first
          | (go_at_call 11; refine hC.mono ?_; rintro e w1 ⟨rfl, hb1, x0, x1, x2, x3, x4, f0, f1, r1⟩)
          | (go_at_call 15; refine (hE _ (by first | assumption | exact below_drew (by assumption))).mono ?_; rintro e w3 ⟨rfl, hb3, y0, y1, y2, y3, y4, f0, f1, r1⟩)
          | (go_at_call 27; refine (hR _ (by first | assumption | exact below_drew (by assumption))).mono ?_; rintro e w4 ⟨rfl, hb4, z0, z1, z2, z3, z4, f0, f1, r1⟩)
          | (go_at_call 26; refine (within_any _ _ _ _).mono ?_; rintro e w2 ⟨rfl, h9⟩; subst h9))
        go_region_held3 (fun w' => w'.cell? ⟨w.heap.size, 0, none⟩ = some (.int .i64 f) ∧ w'.cell? ⟨w.heap.size, 1, none⟩ = some (.int .i64 g) ∧ w'.cell? ⟨w.heap.size, 2, none⟩ = some (.int .i64 c)) (go_keep)
          (first
            | (go_at_call 12; refine (hN _ (by first | assumption | exact below_drew (by assumption))).mono ?_; rintro e w6 ⟨rfl, hb6, z0, z1, z2, z3, z4, f0, f1, r6⟩))
        all_goals
          go_wp2
          rw [HD.out, HM.out]
          obtain ⟨y0, y1, hB3⟩ := fin2 r6 (hb0.trans (hb6.mono hb0.size)) hle (.int .i64 (e / n)) (.int .i64 (e % n))
          exact bodyPost_ret (v := .tuple #[.agg #[.int .i64 (e / n), .int .i64 (e % n)], .int .i64 0]) (by simp [results, Try.f20, go_sem, y0, y1]) rfl ⟨rfl, hB3⟩
end Go.Proofs.Ytcaofedkbdngdaa
