/- WindowBounds, walked. -/
import Derived.Test.YtobojfkoffhljaaWiM
import Derived.OpenShut
namespace Go.Proofs.Ytobojfkoffhljaa
open Go.RowKit Go.Maps
attribute [local go_sem ↓] Go.wp_at_zero Go.wp_at_succ

/-- A new window, raised. -/
theorem Raise_fresh {base : Nat} {w : World} {B : Nat} {g : Int} {f : Nat} (h : WinAt base w B none none g f 0 [] []) {x : Int} (h0 : 0 ≤ x) (h1 : x ≤ 1099511627768) : Calls Try.prog 24 #[.pointer (some ⟨B, 0, none⟩), .int .i64 x] w fun e W' => e = .returned (.tuple #[.bool (decide (0 < x)), .int .i64 0]) ∧ WinAt base W' B none none g f x [] [] ∧ Below base w W' := by
  have hi : inB x 1099511627768 = true := by simp [inB]; omega
  by_cases hx : 0 < x
  · refine (Raise_ok h hi hx).mono ?_
    rintro e W' ⟨rfl, k1, k2⟩
    exact ⟨by simp [hx], k1, h.bel k2 (Nat.le_refl _)⟩
  · have e0 : x = 0 := by omega
    subst e0
    refine (Raise_no h hi (by omega)).mono ?_
    rintro e W' ⟨rfl, k1⟩
    have := h.on k1
    exact ⟨rfl, this, k1.mono (by have := h.lt; have := h.up; omega)⟩
set_option maxRecDepth 20000 in
set_option maxHeartbeats 4000000 in
theorem bounds_any (a n : Int) (wn : (Lit.int .i64 n).wf = true) (w : World) : Calls Try.prog 7 #[.int .i64 a, .int .i64 n] w fun e W' => e = .returned (.bool true) ∧ Below w.heap.size w W' := by
  have hN := wNew_ok (g := 1) (f := 1) rfl (by omega) w.heap.size w (Nat.le_refl _)
  have hM := fun W => moves_any W
  have n64 : -9223372036854775808 ≤ n ∧ n ≤ 9223372036854775807 := bounds_i64 wn
  clear wn
  rcases range3 a 1099511627768 with ⟨a1, ai⟩ | ⟨a1, a2, ai⟩ | ⟨a1, a2, ai⟩
  · go_enter Try.func7, Try.ntmps7
    go_wp2_with (first
      | (go_at_call 8; refine hN.mono ?_; rintro e w1 ⟨rfl, h1, hb1⟩; have hR := Raise_bad h1 ai; clear h1)
      | (go_at_call 24; refine hR.mono ?_; rintro e w2 ⟨rfl, hb2⟩)
      | (go_at_call 10; refine (hM _).mono ?_; rintro e w7 ⟨rfl, hb7⟩))
    go_ret
    have k3 := hb1.trans (hb2.mono hb1.size)
    exact ⟨rfl, k3.trans (hb7.mono k3.size)⟩
  · go_enter Try.func7, Try.ntmps7
    go_wp2_with (first
      | (go_at_call 8; refine hN.mono ?_; rintro e w1 ⟨rfl, h1, hb1⟩; have hR := Raise_bad h1 ai; clear h1)
      | (go_at_call 24; refine hR.mono ?_; rintro e w2 ⟨rfl, hb2⟩)
      | (go_at_call 10; refine (hM _).mono ?_; rintro e w7 ⟨rfl, hb7⟩))
    go_ret
    have k3 := hb1.trans (hb2.mono hb1.size)
    exact ⟨rfl, k3.trans (hb7.mono k3.size)⟩
  · clear ai
    obtain ⟨d, hd⟩ : ∃ d, decide (0 < a) = d := ⟨_, rfl⟩
    go_enter Try.func7, Try.ntmps7
    go_upto_region 7 with (first
      | (go_at_call 8; refine hN.mono ?_; rintro e w1 ⟨rfl, h1, hb1⟩; have hR := Raise_fresh h1 a1 a2; clear h1)
      | (go_at_call 24; refine hR.mono ?_; rintro e w2 ⟨rfl, h2, hb2⟩))
    have HX : Hid (_ ∧ _) := ⟨h2, hb1.trans hb2⟩
    have hH := fun x => Has_any h2 x
    have hL := Low_any h2
    clear h2 hb1 hb2 hR hN
    go_wp2
    go_loop [9] (fun i => ∃ k : Nat, 1 ≤ k ∧ k ≤ 9 ∧ i = .int .i64 k) (fun i => 9 - (intOf i).toNat)
    case atStart => exact ⟨1, by omega, by omega, rfl⟩
    case round =>
      obtain ⟨k, k1, k9, rfl⟩ := hrel
      by_cases hk : k ≤ 8
      · have hh := hH (a + (k : Int))
        rw [show hasW a (a + (k : Int)) = true by simp [hasW]; omega] at hh
        have HH : Hid (_) := hH
        clear hH
        go_wp2_with (first
          | (go_at_call 15; refine hh.mono ?_; rintro e w5 ⟨rfl, h9⟩; replace h9 := h9.symm; subst h9))
        go_round
        case rel => exact ⟨k + 1, by omega, by omega, by go_num⟩
        case measure => simp [intOf]; omega
      · have e9 : k = 9 := by omega
        subst e9
        by_cases na : a < n
        · by_cases nb : n ≤ a + 8
          · have hA := At_new HX.out.1 (by simp) (view := 0) (n := n) (show askE a 0 n = 0 by simp [askE, inB, hasW]; omega) (by simp)
            have g1 : n - a ≤ 8 := by omega
            have g2 : decide (n - a ≤ 8) = true := decide_eq_true g1
            clear hH hL
            go_wp2_with (first
              | (go_at_call 18; refine hA.mono ?_; rintro e w5 ⟨b5, ms5, rfl, h5, hs5, hbs5, hv5⟩; have HX5 : Hid (_) := HX.out.1.bel hv5 (Nat.le_refl _); have hh := fun x => Has_any h5 x; have f1 : hasW a n = true := (by simp only [hasW, Bool.and_eq_true, decide_eq_true_eq]; omega); have f2 : hasW a a = false := (by simp [hasW]); have hL := Low_any h5; clear h5 hs5 hbs5 hv5 hA)
              | (go_at_call 15; refine (hh _).mono ?_; rintro e w6 ⟨rfl, h9⟩; replace h9 := h9.symm; subst h9)
              | (go_at_call 14; refine hL.mono ?_; rintro e w6 ⟨rfl, h9⟩; replace h9 := h9.symm; subst h9)
              | (go_at_call 10; refine (hM _).mono ?_; rintro e w7 ⟨rfl, hb7⟩))
            go_ret
            have k3 := HX.out.2.trans HX5.out
            exact ⟨rfl, k3.trans (hb7.mono k3.size)⟩
          · have nb2 : a + 8 < n := by omega
            have g1 : 8 < n - a := by omega
            have g2 : decide (n - a ≤ 8) = false := decide_eq_false (by omega)
            have hA := At_bad HX.out.1 (view := 0) (n := n) (by rw [show askE a 0 n = 6 by simp [askE, inB, hasW]; omega]; decide)
            rw [show askE a 0 n = 6 by simp [askE, inB, hasW]; omega] at hA
            have f1 : hasW a n = false := by simp [hasW]; omega
            have f2 : hasW a a = false := by simp [hasW]
            have hh := hH
            clear hH
            go_wp2_with (first
              | (go_at_call 18; refine hA.mono ?_; rintro e w5 ⟨rfl, h9⟩; replace h9 := h9.symm; subst h9)
              | (go_at_call 15; refine (hh _).mono ?_; rintro e w5 ⟨rfl, h9⟩; replace h9 := h9.symm; subst h9)
              | (go_at_call 14; refine hL.mono ?_; rintro e w5 ⟨rfl, h9⟩; replace h9 := h9.symm; subst h9)
              | (go_at_call 10; refine (hM _).mono ?_; rintro e w7 ⟨rfl, hb7⟩))
            go_ret
            exact ⟨rfl, HX.out.2.trans (hb7.mono HX.out.2.size)⟩
        · have na2 : n ≤ a := by omega
          have hA := At_bad HX.out.1 (view := 0) (n := n) (by rw [show askE a 0 n = 6 by simp [askE, inB, hasW]; omega]; decide)
          rw [show askE a 0 n = 6 by simp [askE, inB, hasW]; omega] at hA
          have f1 : hasW a n = false := by simp [hasW]; omega
          have f2 : hasW a a = false := by simp [hasW]
          have hh := hH
          clear hH
          go_wp2_with (first
            | (go_at_call 18; refine hA.mono ?_; rintro e w5 ⟨rfl, h9⟩; replace h9 := h9.symm; subst h9)
            | (go_at_call 15; refine (hh _).mono ?_; rintro e w5 ⟨rfl, h9⟩; replace h9 := h9.symm; subst h9)
            | (go_at_call 14; refine hL.mono ?_; rintro e w5 ⟨rfl, h9⟩; replace h9 := h9.symm; subst h9)
            | (go_at_call 10; refine (hM _).mono ?_; rintro e w7 ⟨rfl, hb7⟩))
          go_ret
          exact ⟨rfl, HX.out.2.trans (hb7.mono HX.out.2.size)⟩
end Go.Proofs.Ytobojfkoffhljaa
