import Derived.Test.YtihilkdokfdoeaaDoorBkI
import Derived.Laws.BitsAllLaws
namespace Go.Proofs.YtihilkdokfdoeaaDoor
open Go.RowKit

/-- A word. -/
def Wd (x : Int) : Prop := 0 ≤ x ∧ x < 4294967296
theorem or_add (a b P : Nat) (i : Nat) (hP : P = 2 ^ i) (hb : b < P) : (a * P) ||| b = a * P + b := by
  subst hP
  rw [Nat.mul_comm a, Nat.two_pow_add_eq_or_of_lt hb]
theorem rot_gen (x P Q i : Nat) (hx : x < 4294967296) (hPQ : Q * P = 4294967296) (hP : P = 2 ^ i) (hQ : 0 < Q) :
    bits .or .u32 ((x : Int) * (P : Int) % 4294967296) ((x : Int) / (Q : Int)) = (x : Int) / (Q : Int) + (x : Int) % (Q : Int) * (P : Int) := by
  have hP0 : 0 < P := by subst hP; exact Nat.two_pow_pos i
  have e1 : ((x : Int) * (P : Int) % 4294967296) = ((x * P % 4294967296 : Nat) : Int) := by omega
  have e2 : x * P % 4294967296 = (x % Q) * P := by rw [← hPQ, Nat.mul_mod_mul_right]
  have e3 : ((x : Int) / (Q : Int)) = ((x / Q : Nat) : Int) := by omega
  have hlt : x / Q < P := by rw [Nat.div_lt_iff_lt_mul hQ, Nat.mul_comm, hPQ]; exact hx
  have hlt2 : (x % Q) * P < 4294967296 := by rw [← e2]; exact Nat.mod_lt _ (by decide)
  rw [e1, e2, e3, u32_or_nat _ _ hlt2 (Nat.lt_of_le_of_lt (Nat.div_le_self _ _) hx), or_add _ _ P i hP hlt]
  push_cast
  omega
theorem rot16_eq (x : Int) (h : Wd x) : rot16 x = x / 65536 + x % 65536 * 65536 := by
  obtain ⟨n, rfl⟩ := Int.eq_ofNat_of_zero_le h.1
  exact rot_gen n 65536 65536 16 (by have := h.2; omega) (by decide) (by decide) (by decide)
theorem rot12_eq (x : Int) (h : Wd x) : rot12 x = x / 4096 + x % 4096 * 1048576 := by
  obtain ⟨n, rfl⟩ := Int.eq_ofNat_of_zero_le h.1
  exact rot_gen n 1048576 4096 20 (by have := h.2; omega) (by decide) (by decide) (by decide)
theorem rot8_eq (x : Int) (h : Wd x) : rot8 x = x / 256 + x % 256 * 16777216 := by
  obtain ⟨n, rfl⟩ := Int.eq_ofNat_of_zero_le h.1
  exact rot_gen n 16777216 256 24 (by have := h.2; omega) (by decide) (by decide) (by decide)
theorem rot7_eq (x : Int) (h : Wd x) : rot7 x = x / 128 + x % 128 * 33554432 := by
  obtain ⟨n, rfl⟩ := Int.eq_ofNat_of_zero_le h.1
  exact rot_gen n 33554432 128 25 (by have := h.2; omega) (by decide) (by decide) (by decide)
theorem rot16_wd (x : Int) (h : Wd x) : Wd (rot16 x) := by
  rw [rot16_eq x h]; obtain ⟨a, b⟩ := h; constructor <;> omega
theorem rot12_wd (x : Int) (h : Wd x) : Wd (rot12 x) := by
  rw [rot12_eq x h]; obtain ⟨a, b⟩ := h; constructor <;> omega
theorem rot8_wd (x : Int) (h : Wd x) : Wd (rot8 x) := by
  rw [rot8_eq x h]; obtain ⟨a, b⟩ := h; constructor <;> omega
theorem rot7_wd (x : Int) (h : Wd x) : Wd (rot7 x) := by
  rw [rot7_eq x h]; obtain ⟨a, b⟩ := h; constructor <;> omega
theorem xor_nat (x y : Int) (h : Wd x) (k : Wd y) : bits .xor .u32 x y = ((x.toNat ^^^ y.toNat : Nat) : Int) := u32_xor x y h.1 h.2 k.1 k.2
theorem xor_lt (a b : Nat) (ha : a < 4294967296) (hb : b < 4294967296) : a ^^^ b < 4294967296 := Nat.xor_lt_two_pow (n := 32) ha hb
theorem xor_wd (x y : Int) (h : Wd x) (k : Wd y) : Wd (bits .xor .u32 x y) := by
  rw [xor_nat x y h k]
  obtain ⟨a, b⟩ := h; obtain ⟨c, d⟩ := k
  have := xor_lt x.toNat y.toNat (by omega) (by omega)
  constructor <;> omega
theorem xor64 (x y : Int) (h : Wd x) (k : Wd y) : bits .xor .i64 x y = bits .xor .u32 x y := by
  rw [xor_nat x y h k]
  obtain ⟨a, b⟩ := h; obtain ⟨c, d⟩ := k
  obtain ⟨n, rfl⟩ := Int.eq_ofNat_of_zero_le a
  obtain ⟨m, rfl⟩ := Int.eq_ofNat_of_zero_le c
  have hl := xor_lt n m (by omega) (by omega)
  have e1 : (BitVec.ofInt 64 (n : Int)).toNat = n := by simp; omega
  have e2 : (BitVec.ofInt 64 (m : Int)).toNat = m := by simp; omega
  show IntKind.i64.wrap ((BitVec.ofInt 64 (n : Int) ^^^ BitVec.ofInt 64 (m : Int)).toNat : Int) = _
  rw [BitVec.toNat_xor, e1, e2]
  simp [IntKind.wrap, IntKind.bits, IntKind.signed]
  omega
theorem not32 (x : Int) (h : Wd x) : bits .xor .u32 IntKind.u32.max x = 4294967295 - x := by
  have hm : IntKind.u32.max = 4294967295 := by decide
  rw [hm, xor_nat _ _ ⟨by decide, by decide⟩ h]
  obtain ⟨a, b⟩ := h
  obtain ⟨n, rfl⟩ := Int.eq_ofNat_of_zero_le a
  have e := congrArg BitVec.toNat (BitVec.allOnes_xor (x := BitVec.ofNat 32 n))
  rw [BitVec.toNat_xor, BitVec.toNat_not, BitVec.toNat_allOnes, BitVec.toNat_ofNat, Nat.mod_eq_of_lt (by omega)] at e
  have e2 : Int.toNat 4294967295 ^^^ (n : Int).toNat = 4294967295 - n := e
  rw [e2]
  omega
theorem mod_wd (x : Int) : Wd (x % 4294967296) := ⟨by omega, by omega⟩
end Go.Proofs.YtihilkdokfdoeaaDoor
