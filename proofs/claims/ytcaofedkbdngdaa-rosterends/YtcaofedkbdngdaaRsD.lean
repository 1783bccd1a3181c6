/- Rosters: End, walked. -/
import Derived.Test.YtcaofedkbdngdaaRsC
namespace Go.Proofs.Ytcaofedkbdngdaa
open Go.RowKit
attribute [local go_sem ↓] Go.wp_at_zero Go.wp_at_succ

theorem below_drewN {n : Nat} {w w' : World} (h : Below n w w') (k : Nat) : Below n w (w'.drewN k) := ⟨h.os, h.tape, h.output, h.size, h.block⟩
/-- A party's end, and why it has none. -/
def isCl (c pg pn : Int) : Bool := decide (pg = -1) && wi pn 0 (c - 1)
def isRe (f g pg pn : Int) : Bool := wi pg 0 g && wi pn 0 (3 * f)
def endV (f g c pg pn : Int) : Int := if Rt f g c = true then (if isCl c pg pn = true then (g + 1) * (3 * f + 1) + pn else if isRe f g pg pn = true then pg * (3 * f + 1) + pn else 0) else 0
def endE (f g c pg pn : Int) : Int := if Rt f g c = true then (if isCl c pg pn = true then 0 else if isRe f g pg pn = true then 0 else 6) else 1
theorem hold32 {W0 : World} {B B2 : Nat} {a b c d e : Value} {t t2 : TypeId} (r : W0.heap[B]? = some (.cells #[a, b, c] t)) (r2 : W0.heap[B2]? = some (.cells #[d, e] t2)) : ∀ W', Below W0.heap.size W0 W' → W'.cell? ⟨B, 0, none⟩ = some a ∧ W'.cell? ⟨B, 1, none⟩ = some b ∧ W'.cell? ⟨B, 2, none⟩ = some c ∧ W'.cell? ⟨B2, 0, none⟩ = some d ∧ W'.cell? ⟨B2, 1, none⟩ = some e := by
  intro W' h
  obtain ⟨h1, h2, h3⟩ := hold3 r W' h
  obtain ⟨h4, h5⟩ := hold2 r2 W' h
  exact ⟨h1, h2, h3, h4, h5⟩
theorem small_mul2 {a b : Int} (h1 : 0 ≤ a) (h2 : a ≤ 4) (h3 : 0 ≤ b) (h4 : b ≤ 10) : 0 ≤ a * b ∧ a * b ≤ 40 := by
  constructor
  · exact Int.mul_nonneg h1 h3
  · have : a * b ≤ 4 * 10 := Int.mul_le_mul h2 h4 h3 (by decide)
    omega
set_option maxRecDepth 20000 in
set_option maxHeartbeats 4000000 in
theorem End_any (f g c pg pn : Int) (w : World) : Calls Try.prog 18 #[.agg #[.int .i64 f, .int .i64 g, .int .i64 c], .agg #[.int .i64 pg, .int .i64 pn]] w fun e W' => e = .returned (.tuple #[.int .i64 (endV f g c pg pn), .int .i64 (endE f g c pg pn)]) ∧ Below w.heap.size w W' := by
  have hb0 : Below w.heap.size w ((w.alloc (.cells #[.int .i64 f, .int .i64 g, .int .i64 c] 23)).alloc (.cells #[.int .i64 pg, .int .i64 pn] 37)) := ((Below.refl _ w).alloc (Nat.le_refl _) _).alloc (by simp) _
  have r0 : ((w.alloc (.cells #[.int .i64 f, .int .i64 g, .int .i64 c] 23)).alloc (.cells #[.int .i64 pg, .int .i64 pn] 37)).heap[w.heap.size]? = some (.cells #[.int .i64 f, .int .i64 g, .int .i64 c] 23) := (Below.heap_alloc _ _ _ (by simp)).trans (heap_alloc_new _ _)
  have r1 : ((w.alloc (.cells #[.int .i64 f, .int .i64 g, .int .i64 c] 23)).alloc (.cells #[.int .i64 pg, .int .i64 pn] 37)).heap[w.heap.size + 1]? = some (.cells #[.int .i64 pg, .int .i64 pn] 37) := by
    have := heap_alloc_new (w.alloc (.cells #[.int .i64 f, .int .i64 g, .int .i64 c] 23)) (.cells #[.int .i64 pg, .int .i64 pn] 37)
    rw [show (w.alloc (.cells #[.int .i64 f, .int .i64 g, .int .i64 c] 23)).heap.size = w.heap.size + 1 by simp] at this
    exact this
  have hH := hold32 r0 r1
  clear r0 r1
  cases h : Rt f g c
  · rw [show endV f g c pg pn = 0 by simp [endV, h], show endE f g c pg pn = 1 by simp [endE, h]]
    have hC := keepC (Check_wrong h) hH _ (Below.refl _ _)
    clear h hH
    go_enter Try.func18, Try.ntmps18
    go_wp2_with (go_at_call 11; refine hC.mono ?_; rintro e w1 ⟨rfl, hb1, x0, x1, x2, x3, x4⟩)
    exact bodyPost_ret (v := .tuple #[.int .i64 0, .int .i64 1]) (by simp [results, Try.f18, go_sem]) rfl ⟨rfl, hb0.trans (hb1.mono hb0.size)⟩
  · have hC := keepC (Check_right h) hH _ (Below.refl _ _)
    have hN := keepC (N_right h) hH
    have hR := keepC (replicas_right h) hH
    obtain ⟨h1, h2, h3, h4, h5, h6⟩ := Rt_b h
    obtain ⟨cc, hcc⟩ : ∃ cc, c - 1 = cc := ⟨_, rfl⟩
    have ec : IntKind.i64.wrap (c - 1) = cc := by rw [← hcc]; exact wrap_id (by omega) (by omega)
    obtain ⟨n, hn⟩ : ∃ n, 3 * f + 1 = n := ⟨_, rfl⟩
    obtain ⟨q, hq2⟩ : ∃ q, 3 * f = q := ⟨_, rfl⟩
    have en : q = n - 1 := by omega
    subst en
    have HW : Hid (IntKind.i64.wrap (n - 1) = n - 1) := by show _ = _; exact wrap_id (by omega) (by omega)
    have hn1 : 0 ≤ n := by omega
    have hn2 : n ≤ 10 := by omega
    cases hq : isCl c pg pn
    · have hcl : (pg == -1) = false ∨ ((pg == -1) = true ∧ wi pn 0 cc = false) := by
        unfold isCl at hq
        by_cases h7 : pg = -1
        · right; subst h7; rw [← hcc]; simpa using hq
        · left; simp [h7]
      cases hq3 : isRe f g pg pn
      · have hre : wi pg 0 g = false ∨ (wi pg 0 g = true ∧ wi pn 0 (n - 1) = false) := by
          unfold isRe at hq3
          rw [← hq2]
          cases h7 : wi pg 0 g
          · left; rfl
          · right; rw [h7] at hq3; simpa using hq3
        rw [show endV f g c pg pn = 0 by simp [endV, h, hq, hq3], show endE f g c pg pn = 6 by simp [endE, h, hq, hq3]]
        rw [hn] at hN
        clear h hH hq hq3 hR hn hq2 hcc
        rcases hre with k3 | ⟨k3, k4⟩
        · have hW : ∀ W, Calls Try.prog 26 #[.int .i64 pg, .int .i64 0, .int .i64 g] W fun e W' => e = .returned (.bool false) ∧ W' = W := fun W => by
            have := within_any pg 0 g W
            rw [k3] at this
            exact this
          rcases hcl with k1 | ⟨k1, k2⟩
          all_goals
            go_enter Try.func18, Try.ntmps18
            go_upto_region 6 with (first
              | (go_at_call 11; refine hC.mono ?_; rintro e w1 ⟨rfl, hb1, x0, x1, x2, x3, x4⟩)
              | (go_at_call 26; refine (within_any _ _ _ _).mono ?_; rintro e w2 ⟨rfl, h9⟩; subst h9))
            go_quiet (first | (go_at_call 26; refine Calls.quiet_of_same (hW _)))
            go_wp2
            exact bodyPost_ret (v := .tuple #[.int .i64 0, .int .i64 6]) (by simp [results, Try.f18, go_sem]) rfl ⟨rfl, below_drewN (hb0.trans (hb1.mono hb0.size)) _⟩
        · have hW : ∀ W, Calls Try.prog 26 #[.int .i64 pg, .int .i64 0, .int .i64 g] W fun e W' => e = .returned (.bool true) ∧ W' = W := fun W => by
            have := within_any pg 0 g W
            rw [k3] at this
            exact this
          rcases hcl with k1 | ⟨k1, k2⟩
          all_goals
            go_enter Try.func18, Try.ntmps18
            go_upto_region 6 with (first
              | (go_at_call 11; refine hC.mono ?_; rintro e w1 ⟨rfl, hb1, x0, x1, x2, x3, x4⟩)
              | (go_at_call 26; refine (within_any _ _ _ _).mono ?_; rintro e w2 ⟨rfl, h9⟩; subst h9))
            go_region_held3 (fun w' => w'.cell? ⟨w.heap.size, 0, none⟩ = some (.int .i64 f) ∧ w'.cell? ⟨w.heap.size, 1, none⟩ = some (.int .i64 g) ∧ w'.cell? ⟨w.heap.size, 2, none⟩ = some (.int .i64 c) ∧ w'.cell? ⟨w.heap.size + 1, 0, none⟩ = some (.int .i64 pg) ∧ w'.cell? ⟨w.heap.size + 1, 1, none⟩ = some (.int .i64 pn)) (go_keep)
              (first
                | (go_at_call 12; refine (hN _ (by first | assumption | exact below_drew (by assumption))).mono ?_; rintro e w3 ⟨rfl, hb3, y0, y1, y2, y3, y4⟩)
                | (go_at_call 26; refine (within_any _ _ _ _).mono ?_; rintro e w4 ⟨he, h9⟩; (try rw [HW.out] at he); (first | rw [k3] at he | rw [k4] at he); subst he; obtain rfl := h9.symm; clear h9))
          all_goals
            go_wp2
            exact bodyPost_ret (v := .tuple #[.int .i64 0, .int .i64 6]) (by simp [results, Try.f18, go_sem]) rfl ⟨rfl, hb0.trans (hb3.mono hb0.size)⟩
      · have hre : wi pg 0 g = true ∧ wi pn 0 (n - 1) = true := by
          unfold isRe at hq3
          rw [← hq2]
          simpa using hq3
        obtain ⟨k3, k4⟩ := hre
        have b3 := wi_t k3
        have b4 := wi_t k4
        have hm := small_mul2 (a := pg) (b := n) (by omega) (by omega) (by omega) (by omega)
        obtain ⟨M, hM⟩ : ∃ M, pg * n = M := ⟨_, rfl⟩
        rw [show endV f g c pg pn = M + pn by simp [endV, h, hq, hq3, hn, hM], show endE f g c pg pn = 0 by simp [endE, h, hq, hq3]]
        rw [hM] at hm
        have e5 : IntKind.i64.wrap (pg * n) = M := by rw [hM]; exact wrap_id (by omega) (by omega)
        have e6 : IntKind.i64.wrap (M + pn) = M + pn := wrap_id (by omega) (by omega)
        obtain ⟨V, hV⟩ : ∃ V, M + pn = V := ⟨_, rfl⟩
        rw [hV] at e6 ⊢
        rw [hn] at hN
        clear h hH hq hq3 hR hn hq2 hcc hM
        rcases hcl with k1 | ⟨k1, k2⟩
        all_goals
          go_enter Try.func18, Try.ntmps18
          go_upto_region 6 with (first
            | (go_at_call 11; refine hC.mono ?_; rintro e w1 ⟨rfl, hb1, x0, x1, x2, x3, x4⟩)
            | (go_at_call 26; refine (within_any _ _ _ _).mono ?_; rintro e w2 ⟨rfl, h9⟩; subst h9))
          go_region_held3 (fun w' => w'.cell? ⟨w.heap.size, 0, none⟩ = some (.int .i64 f) ∧ w'.cell? ⟨w.heap.size, 1, none⟩ = some (.int .i64 g) ∧ w'.cell? ⟨w.heap.size, 2, none⟩ = some (.int .i64 c) ∧ w'.cell? ⟨w.heap.size + 1, 0, none⟩ = some (.int .i64 pg) ∧ w'.cell? ⟨w.heap.size + 1, 1, none⟩ = some (.int .i64 pn)) (go_keep)
            (first
              | (go_at_call 12; refine (hN _ (by first | assumption | exact below_drew (by assumption))).mono ?_; rintro e w3 ⟨rfl, hb3, y0, y1, y2, y3, y4⟩)
              | (go_at_call 26; refine (within_any _ _ _ _).mono ?_; rintro e w4 ⟨he, h9⟩; (try rw [HW.out] at he); (first | rw [k3] at he | rw [k4] at he); subst he; obtain rfl := h9.symm; clear h9))
        all_goals
          go_upto_region 7 with fail
          go_region_held3 (fun w' => w'.cell? ⟨w.heap.size, 0, none⟩ = some (.int .i64 f) ∧ w'.cell? ⟨w.heap.size, 1, none⟩ = some (.int .i64 g) ∧ w'.cell? ⟨w.heap.size, 2, none⟩ = some (.int .i64 c) ∧ w'.cell? ⟨w.heap.size + 1, 0, none⟩ = some (.int .i64 pg) ∧ w'.cell? ⟨w.heap.size + 1, 1, none⟩ = some (.int .i64 pn)) (go_keep)
            (first
              | (go_at_call 12; refine (hN _ (by first | assumption | exact below_drew (by assumption))).mono ?_; rintro e w5 ⟨rfl, hb5, z0, z1, z2, z3, z4⟩))
        all_goals
          go_wp2
          exact bodyPost_ret (v := .tuple #[.int .i64 V, .int .i64 0]) (by simp [results, Try.f18, go_sem]) rfl ⟨rfl, hb0.trans (hb5.mono hb0.size)⟩
    · have hcl : (pg == -1) = true ∧ wi pn 0 cc = true := by
        unfold isCl at hq
        rw [← hcc]
        simpa using hq
      obtain ⟨k1, k2⟩ := hcl
      have b2 := wi_t k2
      have hm := small_mul (a := g + 1) (b := 3 * f + 1) (by omega) (by omega) (by omega) (by omega)
      obtain ⟨M, hM⟩ : ∃ M, (g + 1) * (3 * f + 1) = M := ⟨_, rfl⟩
      rw [show endV f g c pg pn = M + pn by simp [endV, h, hq, hM], show endE f g c pg pn = 0 by simp [endE, h, hq]]
      rw [hM] at hm hR
      have e6 : IntKind.i64.wrap (M + pn) = M + pn := wrap_id (by omega) (by omega)
      obtain ⟨V, hV⟩ : ∃ V, M + pn = V := ⟨_, rfl⟩
      rw [hV] at e6 ⊢
      clear h hH hq hN hn hq2 hcc hM
      go_enter Try.func18, Try.ntmps18
      go_upto_region 5 with (first
        | (go_at_call 11; refine hC.mono ?_; rintro e w1 ⟨rfl, hb1, x0, x1, x2, x3, x4⟩)
        | (go_at_call 26; refine (within_any _ _ _ _).mono ?_; rintro e w2 ⟨rfl, h9⟩; subst h9))
      go_region_held3 (fun w' => w'.cell? ⟨w.heap.size, 0, none⟩ = some (.int .i64 f) ∧ w'.cell? ⟨w.heap.size, 1, none⟩ = some (.int .i64 g) ∧ w'.cell? ⟨w.heap.size, 2, none⟩ = some (.int .i64 c) ∧ w'.cell? ⟨w.heap.size + 1, 0, none⟩ = some (.int .i64 pg) ∧ w'.cell? ⟨w.heap.size + 1, 1, none⟩ = some (.int .i64 pn)) (go_keep)
        (first
          | (go_at_call 27; refine (hR _ (by first | assumption | exact below_drew (by assumption))).mono ?_; rintro e w5 ⟨rfl, hb5, z0, z1, z2, z3, z4⟩))
      all_goals
        go_wp2
        exact bodyPost_ret (v := .tuple #[.int .i64 V, .int .i64 0]) (by simp [results, Try.f18, go_sem]) rfl ⟨rfl, hb0.trans (hb5.mono hb0.size)⟩
end Go.Proofs.Ytcaofedkbdngdaa
