import Derived.Test.YtmkjcfakopbdhaaGreatDoorNsH
namespace Go.Proofs.YtmkjcfakopbdhaaGreatDoor
open Go.RowKit

/-- The number that digits are. -/
def dval (l : List UInt8) : Nat := l.foldl (fun a c => 10 * a + (c.toNat - 48)) 0
theorem dval_snoc (l : List UInt8) (c : UInt8) : dval (l ++ [c]) = 10 * dval l + (c.toNat - 48) := by simp [dval]
theorem dval_nil : dval [] = 0 := rfl
theorem dval_take (l : List UInt8) (k : Nat) (c : UInt8) (h : l[k]? = some c) : dval (l.take (k + 1)) = 10 * dval (l.take k) + (c.toNat - 48) := by
  rw [List.take_add_one, h, ← dval_snoc]; rfl
theorem dval_mono (l : List UInt8) (k : Nat) : dval (l.take k) ≤ dval l := by
  have key : ∀ (m : List UInt8) (a b : Nat), a ≤ b → a ≤ m.foldl (fun a c => 10 * a + (c.toNat - 48)) b := by
    intro m
    induction m with
    | nil => intro a b h; exact h
    | cons c m ih => intro a b h; exact ih _ _ (show a ≤ 10 * b + (c.toNat - 48) by omega)
  have h := List.take_append_drop k l
  conv => rhs; rw [← h]
  show List.foldl _ 0 (l.take k) ≤ List.foldl _ 0 (l.take k ++ l.drop k)
  rw [List.foldl_append]
  exact key _ _ _ (Nat.le_refl _)
theorem dec_big {u : Nat} (h : ¬ u < 10) : Lib.decDigits u = Lib.decDigits (u / 10) ++ [UInt8.ofNat (48 + u % 10)] := by
  rw [Lib.decDigits, dif_neg h]
theorem dig_nat (d : Nat) (h : d < 10) : (UInt8.ofNat (48 + d)).toNat = 48 + d := by
  rw [UInt8.toNat_ofNat']
  omega
theorem dval_dec (u : Nat) : dval (Lib.decDigits u) = u := by
  induction u using Nat.strongRecOn with
  | _ u ih =>
    by_cases h : u < 10
    · rw [Lib.decDigits_one h]
      show 10 * 0 + ((UInt8.ofNat (48 + u)).toNat - 48) = u
      rw [dig_nat u h]; omega
    · rw [dec_big h, dval_snoc, ih (u / 10) (by omega), dig_nat _ (by omega)]
      omega
/-- The digits that are left of a number, none where it is none. -/
def decs (u : Nat) : List UInt8 := if u = 0 then [] else Lib.decDigits u
theorem decs_step {u : Nat} (h : u ≠ 0) : decs u = decs (u / 10) ++ [UInt8.ofNat (48 + u % 10)] := by
  unfold decs
  rw [if_neg h]
  by_cases h1 : u < 10
  · rw [if_pos (by omega), Lib.decDigits_one h1, Nat.mod_eq_of_lt h1]; rfl
  · rw [if_neg (by omega), dec_big h1]
theorem itoa_digits {z : Int} : ∀ c ∈ (if z < 0 then (Lib.itoa z).drop 1 else Lib.itoa z), 48 ≤ c.toNat ∧ c.toNat ≤ 57 := by
  unfold Lib.itoa
  split
  · exact dec_digit _
  · exact dec_digit _

/-- Of a text that a number is: its digits. -/
def digs (s : List UInt8) : List UInt8 := if s.head? = some 45 then s.drop 1 else s
theorem digs_itoa (z : Int) : digs (Lib.itoa z) = Lib.decDigits z.natAbs := by
  unfold digs Lib.itoa
  by_cases h : z < 0
  · rw [if_pos h]; simp
  · rw [if_neg h]
    have e : z.toNat = z.natAbs := by omega
    rw [e, if_neg]
    intro hh
    have : (45 : UInt8) ∈ Lib.decDigits z.natAbs := List.mem_of_mem_head? (by rw [hh]; rfl)
    have := dec_digit _ _ this
    simp at this
theorem digs_len_itoa (z : Int) : (digs (Lib.itoa z)).length = (Lib.itoa z).length ↔ 0 ≤ z := by
  rw [digs_itoa]
  unfold Lib.itoa
  by_cases h : z < 0
  · rw [if_pos h]; simp; omega
  · rw [if_neg h]
    have e : z.toNat = z.natAbs := by omega
    rw [e]; simp; omega
theorem dec_len19 {z : Int} (h0 : -9223372036854775808 ≤ z) (h1 : z ≤ 9223372036854775807) : 1 ≤ (Lib.decDigits z.natAbs).length ∧ (Lib.decDigits z.natAbs).length ≤ 19 := by
  rw [decDigits_len]
  exact ⟨Lib.nDigits_pos _, nDigits_le 18 _ (by simp; omega)⟩

/-- Nine digits are as many as nineteen where a text is short. -/
theorem first_9_19 {s : List UInt8} (h : s.length ≤ 100000000) : firstL 9 s = firstL 19 s := by
  have key : ∀ (c d : Nat) (a b : List UInt8), 9 ≤ d → firstL c s = some (a, b) → firstL d s = some (a, b) := by
    intro c d a b hd hc
    have hl := first_len hc
    rw [first_back hc]
    refine first_one d a b (by omega) ?_ (by omega)
    have : 10 ^ 9 ≤ 10 ^ d := Nat.pow_le_pow_right (by omega) hd
    omega
  cases h9 : firstL 9 s with
  | some ab => exact (key 9 19 _ _ (by omega) h9).symm
  | none =>
    cases h19 : firstL 19 s with
    | none => rfl
    | some ab => rw [key 19 9 _ _ (by omega) h19] at h9; cases h9
end Go.Proofs.YtmkjcfakopbdhaaGreatDoor
