import Derived.Test.YtoniohmceaflnabDoorCtF
namespace Go.Proofs.YtoniohmceaflnabDoor
open Go.RowKit
attribute [local go_sem ↓] Go.wp_at_zero Go.wp_at_succ

theorem wrap_small (n : Int) (h0 : 0 ≤ n) (h1 : n ≤ 1) : IntKind.i64.wrap n = n := by
  have : n = 0 ∨ n = 1 := by omega
  rcases this with rfl | rfl <;> decide
theorem wrap_par (n : Int) : IntKind.i64.wrap n % 2 = n % 2 := by
  simp only [IntKind.wrap, IntKind.bits, IntKind.signed]
  simp
  split <;> omega
theorem ofInt_par (x : Int) : ((BitVec.ofInt 64 x).toNat : Int) % 2 = x % 2 := by
  rw [BitVec.toNat_ofInt]; omega
theorem and_one (x : Int) : bits .and .i64 x 1 = x % 2 := by
  have h : ((BitVec.ofInt 64 x) &&& (BitVec.ofInt 64 1)).toNat = (BitVec.ofInt 64 x).toNat % 2 := by
    rw [BitVec.toNat_and, show (BitVec.ofInt 64 1).toNat = 1 from by decide, Nat.and_one_is_mod]
  show IntKind.i64.wrap (((BitVec.ofInt 64 x) &&& (BitVec.ofInt 64 1)).toNat : Int) = _
  rw [h]
  have := ofInt_par x
  rw [wrap_small _ (by omega) (by omega)]
  omega
theorem and_two (x y : Int) : bits .and .i64 x y % 2 = (x % 2) * (y % 2) := by
  show IntKind.i64.wrap (((BitVec.ofInt 64 x) &&& (BitVec.ofInt 64 y)).toNat : Int) % 2 = _
  rw [wrap_par, BitVec.toNat_and]
  have h1 := ofInt_par x
  have h2 := ofInt_par y
  have h3 := Nat.and_mod_two_pow (a := (BitVec.ofInt 64 x).toNat) (b := (BitVec.ofInt 64 y).toNat) (n := 1)
  rw [Nat.pow_one] at h3
  have e : (((BitVec.ofInt 64 x).toNat &&& (BitVec.ofInt 64 y).toNat : Nat) : Int) % 2 = (((BitVec.ofInt 64 x).toNat % 2 &&& (BitVec.ofInt 64 y).toNat % 2 : Nat) : Int) := by rw [← h3]; omega
  rw [e, ← h1, ← h2]
  have a1 : (BitVec.ofInt 64 x).toNat % 2 = 0 ∨ (BitVec.ofInt 64 x).toNat % 2 = 1 := by omega
  have b1 : (BitVec.ofInt 64 y).toNat % 2 = 0 ∨ (BitVec.ofInt 64 y).toNat % 2 = 1 := by omega
  have c1 : ((BitVec.ofInt 64 x).toNat : Int) % 2 = ((BitVec.ofInt 64 x).toNat % 2 : Nat) := by omega
  have c2 : ((BitVec.ofInt 64 y).toNat : Int) % 2 = ((BitVec.ofInt 64 y).toNat % 2 : Nat) := by omega
  rw [c1, c2]
  rcases a1 with a1 | a1 <;> rcases b1 with b1 | b1 <;> rw [a1, b1] <;> decide
theorem three_bits (x y : Int) : ∃ p q r : Int, bits .and .i64 x 1 = p ∧ bits .and .i64 y 1 = q ∧ bits .and .i64 (bits .and .i64 x y) 1 = r ∧ 0 ≤ p ∧ p ≤ 1 ∧ 0 ≤ q ∧ q ≤ 1 ∧ 0 ≤ r ∧ r ≤ 1 ∧ p + q ≤ 1 + r := by
  refine ⟨_, _, _, rfl, rfl, rfl, ?_⟩
  rw [and_one, and_one, and_one, and_two]
  have a1 : x % 2 = 0 ∨ x % 2 = 1 := by omega
  have b1 : y % 2 = 0 ∨ y % 2 = 1 := by omega
  rcases a1 with a1 | a1 <;> rcases b1 with b1 | b1 <;> rw [a1, b1] <;> omega

set_option maxRecDepth 20000 in
set_option maxHeartbeats 2000000 in
theorem meets_any (f a b : Int) (w : World) (he : EnvP w) (hone : ∀ W, EnvP W → Calls Tryd.prog 8 #[] W fun e w' => e = .returned (.bool true) ∧ Below W.heap.size W w') :
    Calls Tryd.prog 6 #[.int .i64 f, .int .i64 a, .int .i64 b] w fun e w' => e = .returned (.bool true) ∧ Below w.heap.size w w' := by
  have h1 := hone w he
  by_cases hf : f < 0 ∨ 3 < f
  · rcases hf with hf | hf
    · go_enter Tryd.func6, Tryd.ntmps6
      go_wp2_with (go_at_call 8; refine h1.mono ?_; rintro e w1 ⟨rfl, hb1⟩)
      go_ret
      exact ⟨rfl, hb1⟩
    · go_enter Tryd.func6, Tryd.ntmps6
      go_wp2_with (go_at_call 8; refine h1.mono ?_; rintro e w1 ⟨rfl, hb1⟩)
      go_ret
      exact ⟨rfl, hb1⟩
  · have hf0 : 0 ≤ f := by omega
    have hf3 : f ≤ 3 := by omega
    clear hf
    go_enter Tryd.func6, Tryd.ntmps6
    go_wp2
    go_loopw [8, 9, 10, 11] (fun vx vy vz vi wr => ∃ (k : Nat) (x y z : Int), vx = .int .i64 x ∧ vy = .int .i64 y ∧ vz = .int .i64 z ∧ vi = .int .i64 k ∧ (k : Int) ≤ 3 * f + 1 ∧ 0 ≤ x ∧ x ≤ k ∧ 0 ≤ y ∧ y ≤ k ∧ 0 ≤ z ∧ z ≤ k ∧ x + y ≤ k + z ∧ wr = w)
      (fun _ _ _ i _ => 20 - (intOf i).toNat)
    case atStart => exact ⟨0, 0, 0, 0, rfl, rfl, rfl, rfl, by omega, by omega, by omega, by omega, by omega, by omega, by omega, by omega, rfl⟩
    case round =>
      obtain ⟨k, x, y, z, rfl, rfl, rfl, rfl, hk, x0, x1, y0, y1, z0, z1, hs, rfl⟩ := hrel
      by_cases hk1 : (k : Int) = 3 * f + 1
      · by_cases c1 : x < 2 * f + 1
        · go_wp2_with (go_at_call 8; refine h1.mono ?_; rintro e w1 ⟨rfl, hb1⟩)
          go_ret
          exact ⟨rfl, hb1⟩
        · by_cases c2 : y < 2 * f + 1
          · go_wp2_with (go_at_call 8; refine h1.mono ?_; rintro e w1 ⟨rfl, hb1⟩)
            go_ret
            exact ⟨rfl, hb1⟩
          · have c3 : f + 1 ≤ z := by omega
            go_wp2_with (go_at_call 8; refine h1.mono ?_; rintro e w1 ⟨rfl, hb1⟩)
            go_ret
            exact ⟨rfl, hb1⟩
      · have hk2 : (k : Int) < 3 * f + 1 := by omega
        obtain ⟨p, q, r, hp, hq, hr, p0, p1, q0, q1, r0, r1, hpq⟩ := three_bits (a / 2 ^ k) (b / 2 ^ k)
        clear h1
        go_wp2
        go_roundw
        case rel => exact ⟨k + 1, x + p, y + q, z + r, rfl, rfl, rfl, by go_num, by omega, by omega, by omega, by omega, by omega, by omega, by omega, by omega, trivial⟩
        case measure => simp [intOf]; omega
end Go.Proofs.YtoniohmceaflnabDoor
