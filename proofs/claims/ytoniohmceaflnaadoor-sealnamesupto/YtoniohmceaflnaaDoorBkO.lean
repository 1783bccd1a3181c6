import Derived.Test.YtoniohmceaflnaaDoorBkN
namespace Go.Proofs.YtoniohmceaflnaaDoor
open Go.RowKit

/-- Word i of the first n bytes of l, built byte by byte. -/
def wpart (l : List UInt8) (i n : Nat) : Int :=
  (if 4 * i < n then bt l (4 * i) else 0) + (if 4 * i + 1 < n then 256 * bt l (4 * i + 1) else 0) + (if 4 * i + 2 < n then 65536 * bt l (4 * i + 2) else 0) + (if 4 * i + 3 < n then 16777216 * bt l (4 * i + 3) else 0)
theorem or_disj (a b i : Nat) (ha : a < 2 ^ i) (hab : a + b * 2 ^ i < 4294967296) : bits .or .u32 (a : Int) ((b * 2 ^ i : Nat) : Int) = ((a + b * 2 ^ i : Nat) : Int) := by
  rw [u32_or_nat _ _ (by omega) (by omega), Nat.or_comm, or_add b a (2 ^ i) i rfl ha, Nat.add_comm]
theorem step_word (l : List UInt8) (k : Nat) : bits .or .u32 (wpart l (k / 4) k) (bt l k % 4294967296 * 2 ^ (8 * (k % 4)) % 4294967296) = wpart l (k / 4) (k + 1) := by
  obtain ⟨a0, a1⟩ := bt_bd l (4 * (k / 4)); obtain ⟨b0, b1⟩ := bt_bd l (4 * (k / 4) + 1); obtain ⟨c0, c1⟩ := bt_bd l (4 * (k / 4) + 2); obtain ⟨d0, d1⟩ := bt_bd l k
  obtain ⟨A, hA⟩ := Int.eq_ofNat_of_zero_le a0; obtain ⟨B, hB⟩ := Int.eq_ofNat_of_zero_le b0; obtain ⟨C, hC⟩ := Int.eq_ofNat_of_zero_le c0; obtain ⟨D, hD⟩ := Int.eq_ofNat_of_zero_le d0
  have h4 : k % 4 = 0 ∨ k % 4 = 1 ∨ k % 4 = 2 ∨ k % 4 = 3 := by omega
  rcases h4 with h | h | h | h
  · have e : k = 4 * (k / 4) := by omega
    have p1 : wpart l (k / 4) k = ((0 : Nat) : Int) := by unfold wpart; rw [if_neg (by omega), if_neg (by omega), if_neg (by omega), if_neg (by omega)]; rfl
    have p2 : wpart l (k / 4) (k + 1) = (D : Int) := by unfold wpart; rw [if_pos (by omega), if_neg (by omega), if_neg (by omega), if_neg (by omega), ← e, hD]; omega
    have := or_disj 0 D 0 (by decide) (by omega)
    rw [p1, p2, hD, h]
    simp only [Nat.mul_zero, Int.pow_zero, Int.mul_one]
    rw [show (D : Int) % 4294967296 % 4294967296 = ((D * 2 ^ 0 : Nat) : Int) from by omega, this]
    omega
  · have e : k = 4 * (k / 4) + 1 := by omega
    have p1 : wpart l (k / 4) k = (A : Int) := by unfold wpart; rw [if_pos (by omega), if_neg (by omega), if_neg (by omega), if_neg (by omega), hA]; omega
    have p2 : wpart l (k / 4) (k + 1) = ((A + D * 2 ^ 8 : Nat) : Int) := by unfold wpart; rw [if_pos (by omega), if_pos (by omega), if_neg (by omega), if_neg (by omega), ← e, hA, hD]; omega
    have := or_disj A D 8 (by omega) (by omega)
    rw [p1, p2, hD, h, ← this, show (D : Int) % 4294967296 * 2 ^ (8 * 1) % 4294967296 = ((D * 2 ^ 8 : Nat) : Int) from by omega]
  · have e : k = 4 * (k / 4) + 2 := by omega
    have p1 : wpart l (k / 4) k = ((A + 256 * B : Nat) : Int) := by unfold wpart; rw [if_pos (by omega), if_pos (by omega), if_neg (by omega), if_neg (by omega), hA, hB]; omega
    have p2 : wpart l (k / 4) (k + 1) = ((A + 256 * B + D * 2 ^ 16 : Nat) : Int) := by unfold wpart; rw [if_pos (by omega), if_pos (by omega), if_pos (by omega), if_neg (by omega), ← e, hA, hB, hD]; omega
    have := or_disj (A + 256 * B) D 16 (by omega) (by omega)
    rw [p1, p2, hD, h, ← this, show (D : Int) % 4294967296 * 2 ^ (8 * 2) % 4294967296 = ((D * 2 ^ 16 : Nat) : Int) from by omega]
  · have e : k = 4 * (k / 4) + 3 := by omega
    have p1 : wpart l (k / 4) k = ((A + 256 * B + 65536 * C : Nat) : Int) := by unfold wpart; rw [if_pos (by omega), if_pos (by omega), if_pos (by omega), if_neg (by omega), hA, hB, hC]; omega
    have p2 : wpart l (k / 4) (k + 1) = ((A + 256 * B + 65536 * C + D * 2 ^ 24 : Nat) : Int) := by unfold wpart; rw [if_pos (by omega), if_pos (by omega), if_pos (by omega), if_pos (by omega), ← e, hA, hB, hC, hD]; omega
    have := or_disj (A + 256 * B + 65536 * C) D 24 (by omega) (by omega)
    rw [p1, p2, hD, h, ← this, show (D : Int) % 4294967296 * 2 ^ (8 * 3) % 4294967296 = ((D * 2 ^ 24 : Nat) : Int) from by omega]
theorem wordsTo_at (l : List UInt8) : ∀ (n : Nat) (_ : n ≤ 64) (i : Nat) (_ : i < 16), gv (wordsTo l n) i = wpart l i n
  | 0, _, i, hi => by
    have : gv (List.replicate 16 0) (i : Int) = 0 := by
      unfold gv
      rw [List.getD_eq_getElem?_getD, List.getElem?_replicate]
      split <;> rfl
    unfold wordsTo wpart
    rw [this, if_neg (by omega), if_neg (by omega), if_neg (by omega), if_neg (by omega)]
    rfl
  | n + 1, hn, i, hi => by
    have ih := wordsTo_at l n (by omega)
    rw [wordsTo, wordStep]
    by_cases e : n / 4 = i
    · subst e
      rw [gv_pv_same _ _ _ (by omega) (by rw [wordsTo_len]; omega), show ((n : Int) / 4) = ((n / 4 : Nat) : Int) from by omega, ih _ hi, step_word]
    · rw [gv_pv_other _ _ _ _ (by omega) (by omega) (by omega), ih i hi]
      have I : ∀ (a : Nat) (x : Int), a ≠ n → (if a < n + 1 then x else 0) = if a < n then x else 0 := by
        intro a x h
        by_cases c : a < n
        · rw [if_pos c, if_pos (by omega)]
        · rw [if_neg c, if_neg (by omega)]
      unfold wpart
      rw [I _ _ (by omega), I _ _ (by omega), I _ _ (by omega), I _ _ (by omega)]
theorem words_eq (l l' : List UInt8) (n : Nat) (hn : n ≤ 64) (hb : ∀ j, j < 64 → bt l' j = if j < n then bt l j else 0) : wordsTo l n = mTo l' 16 := by
  apply list_of_gv (by rw [wordsTo_len]; simp [mTo])
  intro j j0 j1
  have hj : j < 16 := by simpa [mTo] using j1
  obtain ⟨i, rfl⟩ := Int.eq_ofNat_of_zero_le j0
  have hi : i < 16 := by omega
  rw [wordsTo_at l n hn i hi]
  have e : gv (mTo l' 16) (i : Int) = wd l' i := by simp [gv, mTo, List.getElem?_range hi]
  rw [e, wpart, wd, hb _ (by omega), hb _ (by omega), hb _ (by omega), hb _ (by omega)]
  split <;> split <;> split <;> split <;> omega
theorem begin_eq : ∀ n : Nat, n ≤ 32 → bits .xor .i64 (bits .xor .i64 (gv ivL 0) 16842752) (256 * (n : Int) + 32) = bits .xor .u32 (gv ivL 0) (bits .xor .u32 (bits .xor .u32 16842752 ((n : Int) * 256)) 32) := by
  decide +kernel
end Go.Proofs.YtoniohmceaflnaaDoor
