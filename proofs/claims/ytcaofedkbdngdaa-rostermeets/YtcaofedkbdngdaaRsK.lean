/- The law RosterMeets, walked. -/
import Derived.Test.YtcaofedkbdngdaaRsX
namespace Go.Proofs.Ytcaofedkbdngdaa
open Go.RowKit
attribute [local go_sem ↓] Go.wp_at_zero Go.wp_at_succ

theorem wrap_small (n : Int) (h0 : 0 ≤ n) (h1 : n ≤ 1) : IntKind.i64.wrap n = n := by
  have : n = 0 ∨ n = 1 := by omega
  rcases this with rfl | rfl <;> decide
theorem wrap_par (n : Int) : IntKind.i64.wrap n % 2 = n % 2 := by
  simp only [IntKind.wrap, IntKind.bits, IntKind.signed]
  simp
  split <;> omega
theorem ofInt_par (x : Int) : ((BitVec.ofInt 64 x).toNat : Int) % 2 = x % 2 := by
  rw [BitVec.toNat_ofInt]; omega
theorem and_one (x : Int) : bits .and .i64 x 1 = x % 2 := by
  have h : ((BitVec.ofInt 64 x) &&& (BitVec.ofInt 64 1)).toNat = (BitVec.ofInt 64 x).toNat % 2 := by
    rw [BitVec.toNat_and, show (BitVec.ofInt 64 1).toNat = 1 from by decide, Nat.and_one_is_mod]
  show IntKind.i64.wrap (((BitVec.ofInt 64 x) &&& (BitVec.ofInt 64 1)).toNat : Int) = _
  rw [h]
  have := ofInt_par x
  rw [wrap_small _ (by omega) (by omega)]
  omega
theorem and_two (x y : Int) : bits .and .i64 x y % 2 = (x % 2) * (y % 2) := by
  show IntKind.i64.wrap (((BitVec.ofInt 64 x) &&& (BitVec.ofInt 64 y)).toNat : Int) % 2 = _
  rw [wrap_par, BitVec.toNat_and]
  have h1 := ofInt_par x
  have h2 := ofInt_par y
  have h3 := Nat.and_mod_two_pow (a := (BitVec.ofInt 64 x).toNat) (b := (BitVec.ofInt 64 y).toNat) (n := 1)
  rw [Nat.pow_one] at h3
  have e : (((BitVec.ofInt 64 x).toNat &&& (BitVec.ofInt 64 y).toNat : Nat) : Int) % 2 = (((BitVec.ofInt 64 x).toNat % 2 &&& (BitVec.ofInt 64 y).toNat % 2 : Nat) : Int) := by rw [← h3]; omega
  rw [e, ← h1, ← h2]
  have a1 : (BitVec.ofInt 64 x).toNat % 2 = 0 ∨ (BitVec.ofInt 64 x).toNat % 2 = 1 := by omega
  have b1 : (BitVec.ofInt 64 y).toNat % 2 = 0 ∨ (BitVec.ofInt 64 y).toNat % 2 = 1 := by omega
  have c1 : ((BitVec.ofInt 64 x).toNat : Int) % 2 = ((BitVec.ofInt 64 x).toNat % 2 : Nat) := by omega
  have c2 : ((BitVec.ofInt 64 y).toNat : Int) % 2 = ((BitVec.ofInt 64 y).toNat % 2 : Nat) := by omega
  rw [c1, c2]
  rcases a1 with a1 | a1 <;> rcases b1 with b1 | b1 <;> rw [a1, b1] <;> decide
theorem three_bits (x y : Int) : ∃ p q r : Int, bits .and .i64 x 1 = p ∧ bits .and .i64 y 1 = q ∧ bits .and .i64 (bits .and .i64 x y) 1 = r ∧ 0 ≤ p ∧ p ≤ 1 ∧ 0 ≤ q ∧ q ≤ 1 ∧ 0 ≤ r ∧ r ≤ 1 ∧ p + q ≤ 1 + r := by
  refine ⟨_, _, _, rfl, rfl, rfl, ?_⟩
  rw [and_one, and_one, and_one, and_two]
  have a1 : x % 2 = 0 ∨ x % 2 = 1 := by omega
  have b1 : y % 2 = 0 ∨ y % 2 = 1 := by omega
  rcases a1 with a1 | a1 <;> rcases b1 with b1 | b1 <;> rw [a1, b1] <;> omega

set_option maxRecDepth 20000 in
set_option maxHeartbeats 4000000 in
theorem meets_any (f g c a b : Int) (w : World) : Calls Try.prog 6 #[.agg #[.int .i64 f, .int .i64 g, .int .i64 c], .int .i64 a, .int .i64 b] w fun e W' => e = .returned (.bool true) ∧ Below w.heap.size w W' := by
  have hb0 : Below w.heap.size w (w.alloc (.cells #[.int .i64 f, .int .i64 g, .int .i64 c] 23)) := (Below.refl _ w).alloc (Nat.le_refl _) _
  have hH := hold3 (heap_alloc_new w (.cells #[.int .i64 f, .int .i64 g, .int .i64 c] 23))
  have hT := keepC two_any hH
  cases h : Rt f g c
  · have hC := keepC (Check_wrong h) hH _ (Below.refl _ _)
    clear h hH
    go_enter Try.func6, Try.ntmps6
    go_wp2_with (first
      | (go_at_call 11; refine hC.mono ?_; rintro e w1 ⟨rfl, hb1, x0, x1, x2⟩)
      | (go_at_call 16; refine (hT _ (by assumption)).mono ?_; rintro e w2 ⟨rfl, hb2, y0, y1, y2⟩))
    go_ret
    exact ⟨rfl, hb0.trans (hb2.mono hb0.size)⟩
  · have hC := keepC (Check_right h) hH _ (Below.refl _ _)
    have hN := keepC (N_right h) hH
    have hD := keepC (Need_right h) hH
    have hO := keepC (Some_right h) hH
    obtain ⟨hf0, hf3, _⟩ := Rt_b h
    obtain ⟨n, hn⟩ : ∃ n, 3 * f + 1 = n := ⟨_, rfl⟩
    obtain ⟨d, hd⟩ : ∃ d, 2 * f + 1 = d := ⟨_, rfl⟩
    obtain ⟨s, hs⟩ : ∃ s, f + 1 = s := ⟨_, rfl⟩
    rw [hn] at hN
    rw [hd] at hD
    rw [hs] at hO
    have HH : Hid (_) := hH
    have hR := h
    clear h hH
    obtain ⟨N0, hN0⟩ : ∃ N0 : Nat, (N0 : Int) = n := ⟨n.toNat, by omega⟩
    go_enter Try.func6, Try.ntmps6
    go_upto_region 3 with (first
      | (go_at_call 11; refine hC.mono ?_; rintro e w1 ⟨rfl, hb1, x0, x1, x2⟩))
    clear hC
    go_wp2_with fail
    go_loopg [7, 8, 9, 10] N0 (fun gk vx vy vz vi wr => ∃ (k : Nat) (x y z : Int), k + gk = N0 ∧ vx = .int .i64 x ∧ vy = .int .i64 y ∧ vz = .int .i64 z ∧ vi = .int .i64 k ∧ 0 ≤ x ∧ x ≤ k ∧ 0 ≤ y ∧ y ≤ k ∧ 0 ≤ z ∧ z ≤ k ∧ x + y ≤ k + z ∧ Below (w.alloc (.cells #[.int .i64 f, .int .i64 g, .int .i64 c] 23)).heap.size (w.alloc (.cells #[.int .i64 f, .int .i64 g, .int .i64 c] 23)) wr)
    case atStart => exact ⟨0, 0, 0, 0, by omega, rfl, rfl, rfl, rfl, by omega, by omega, by omega, by omega, by omega, by omega, by omega, hb1⟩
    case round =>
      clear hb1 x0 x1 x2
      obtain ⟨k, x, y, z, hk, rfl, rfl, rfl, rfl, x0, x1, y0, y1, z0, z1, hs1, hB⟩ := hrel
      obtain ⟨c0, c1, c2⟩ := HH.out _ hB
      by_cases hk1 : k < N0
      · obtain ⟨p, q, r, hp, hq, hr, p0, p1, q0, q1, r0, r1, hpq⟩ := three_bits (a / 2 ^ k) (b / 2 ^ k)
        have k1 : (k : Int) < n := by omega
        have k2 : (k : Int) ≤ 10 := by omega
        clear hT hD hO hR
        go_wp2_with (first
          | (go_at_call 12; refine (hN _ (by assumption)).mono ?_; rintro e w2 ⟨rfl, hb2, t0, t1, t2⟩))
        go_roundg (N0 - (k + 1))
        case measure => omega
        case rel => exact ⟨k + 1, x + p, y + q, z + r, by omega, by go_num, by go_num, by go_num, by go_num, by omega, by omega, by omega, by omega, by omega, by omega, by omega, hb2⟩
      · have hkn : (k : Int) = n := by omega
        have e7 : IntKind.i64.wrap (n - f) = d := by rw [show n - f = d by omega]; exact wrap_id (by omega) (by omega)
        have x9 : x ≤ 10 := by omega
        have key : d ≤ x → d ≤ y → s ≤ z := by omega
        have HK : Hid (d ≤ x → d ≤ y → s ≤ z) := key
        clear key
        have hcs : (x < d) ∨ (d ≤ x ∧ y < d) ∨ (d ≤ x ∧ d ≤ y ∧ s ≤ z) := by
          have := HK.out
          omega
        have hall : (x < d ∧ x < s) ∨ (x < d ∧ s ≤ x ∧ f < x) ∨ (d ≤ x ∧ y < d ∧ s ≤ x ∧ f < x) ∨ (d ≤ x ∧ d ≤ y ∧ s ≤ z ∧ s ≤ x ∧ f < x) := by omega
        clear hcs
        have b0 : (w.alloc (.cells #[.int .i64 f, .int .i64 g, .int .i64 c] 23)).heap.size ≤ wr.heap.size := hB.size
        clear HK
        obtain ⟨W0, hW0⟩ : ∃ W, (w.alloc (.cells #[.int .i64 f, .int .i64 g, .int .i64 c] 23)) = W := ⟨_, rfl⟩
        rw [hW0] at hb0 hB HH hN hD hO hT
        have hne : Nonempty (Cw W0) := ⟨⟨W0, Below.refl _ _⟩⟩
        have gN := growC (N_right hR) W0
        have gD := growC (Need_right hR) W0
        have gO := growC (Some_right hR) W0
        have gT := growC two_any W0
        rw [hn] at gN
        rw [hd] at gD
        rw [hs] at gO
        have gx0 : ∀ x : Cw W0, x.w.cell? ⟨w.heap.size, 0, none⟩ = some (.int .i64 f) := fun x => (HH.out _ x.h).1
        have gx1 : ∀ x : Cw W0, x.w.cell? ⟨w.heap.size, 1, none⟩ = some (.int .i64 g) := fun x => (HH.out _ x.h).2.1
        have gx2 : ∀ x : Cw W0, x.w.cell? ⟨w.heap.size, 2, none⟩ = some (.int .i64 c) := fun x => (HH.out _ x.h).2.2
        clear hW0 HH
        rcases hall with ⟨q1, q4⟩ | ⟨q1, q4, q5⟩ | ⟨q1, q2, q4, q5⟩ | ⟨q1, q2, q3, q4, q5⟩
        all_goals
          go_upto_region 14 with (first
            | (go_at_call 12; refine (hN _ (by assumption)).mono ?_; rintro e w2 ⟨rfl, hb2, t0, t1, t2⟩)
            | (go_at_call 13; refine (hD _ (by assumption)).mono ?_; rintro e w3 ⟨rfl, hb3, t0, t1, t2⟩)
            | (go_at_call 14; refine (hO _ (by assumption)).mono ?_; rintro e w4 ⟨rfl, hb4, t0, t1, t2⟩))
          refine wp_region_grow (W0 := W0) (by kernel_rfl) (by kernel_rfl) (by assumption) ?_
          repeat (quiet_step (first
            | (go_at_call 12; exact gN _)
            | (go_at_call 13; exact gD _)
            | (go_at_call 14; exact gO _)
            | (go_at_call 16; exact gT _)))
          refine wpQuiet_nil ?_
          rintro _ ⟨xx, rfl⟩
          go_wp2
          go_ret
          exact ⟨rfl, hb0.trans (xx.h.mono hb0.size)⟩
end Go.Proofs.Ytcaofedkbdngdaa
