import Derived.Test.YtmkjcfakopbdhaaGreatDoorNsM
namespace Go.Proofs.YtmkjcfakopbdhaaGreatDoor
open Go.RowKit
attribute [local go_sem ↓] Go.wp_at_zero Go.wp_at_succ

theorem tn_len {s : List UInt8} {z : Int} (h : toNumL s = some z) : 1 ≤ (digs s).length ∧ (digs s).length ≤ 19 := by
  obtain ⟨h0, h1⟩ := toNum_range h
  rw [← toNum_back h, digs_itoa]
  exact dec_len19 h0 h1
theorem tn_dig {s : List UInt8} {z : Int} (h : toNumL s = some z) : ∀ c ∈ digs s, 48 ≤ c.toNat ∧ c.toNat ≤ 57 := by
  rw [← toNum_back h, digs_itoa]
  exact dec_digit _
theorem tn_val {s : List UInt8} {z : Int} (h : toNumL s = some z) : dval (digs s) = z.natAbs := by
  rw [← toNum_back h, digs_itoa, dval_dec]
theorem tn_sign {s : List UInt8} {z : Int} (h : toNumL s = some z) : (digs s).length = s.length ↔ 0 ≤ z := by
  have := digs_len_itoa z
  rw [toNum_back h] at this
  exact this
/-- What is left of a text's number, summed up from below. -/
def Part (s : List UInt8) (x : Int) (i : Nat) : Prop := ∀ z, toNumL s = some z → x = -(dval ((digs s).take i) : Int)
theorem part_zero (s : List UInt8) : Part s 0 0 := fun z _ => by simp [dval]
theorem part_fits {s : List UInt8} {x : Int} {i : Nat} {c : UInt8} (h : Part s x i) (hc : (digs s)[i]? = some c) {z : Int} (hz : toNumL s = some z) :
    10 * x - ((c.toNat : Int) - 48) = -(dval ((digs s).take (i + 1)) : Int) ∧ -9223372036854775808 ≤ 10 * x - ((c.toNat : Int) - 48) ∧ 10 * x - ((c.toNat : Int) - 48) ≤ 0 ∧ x ≤ 0 ∧ -9223372036854775808 ≤ 10 * x := by
  have hd := tn_dig hz c (List.mem_of_getElem? hc)
  have hx := h z hz
  have hs := dval_take _ i c hc
  have hm := dval_mono (digs s) (i + 1)
  rw [tn_val hz] at hm
  obtain ⟨h0, h1⟩ := toNum_range hz
  omega
theorem tn_none_of_len {s : List UInt8} (h : (digs s).length < 1 ∨ 19 < (digs s).length) : toNumL s = none := by
  cases hz : toNumL s with
  | none => rfl
  | some z => have := tn_len hz; omega
theorem tn_none_of_dig {s : List UInt8} {i : Nat} {c : UInt8} (hc : (digs s)[i]? = some c) (h : c.toNat < 48 ∨ 57 < c.toNat) : toNumL s = none := by
  cases hz : toNumL s with
  | none => rfl
  | some z => have := tn_dig hz c (List.mem_of_getElem? hc); omega
theorem tnV_none {s : List UInt8} (h : toNumL s = none) : tnV s = 0 ∧ tnE s = 4 := by simp [tnV, tnE, h]
theorem tnV_some {s : List UInt8} {z : Int} (h : toNumL s = some z) : tnV s = z ∧ tnE s = 0 := by simp [tnV, tnE, h]
def numOf : Value → Nat
  | .int _ i => i.toNat
  | _ => 0

theorem wrap_in (y : Int) : -9223372036854775808 ≤ wrap64 y ∧ wrap64 y ≤ 9223372036854775807 := by
  unfold wrap64
  omega
theorem wrap_id {y : Int} (h0 : -9223372036854775808 ≤ y) (h1 : y ≤ 9223372036854775807) : wrap64 y = y := by
  unfold wrap64
  omega
theorem part_next {s : List UInt8} {x : Int} {i : Nat} {c : UInt8} (h : Part s x i) (hc : (digs s)[i]? = some c) : Part s (wrap64 (wrap64 (10 * x) - ((c.toNat : Int) - 48))) (i + 1) := by
  intro z hz
  obtain ⟨h1, h2, h3, h4, h5⟩ := part_fits h hc hz
  rw [wrap_id (y := 10 * x) (by omega) (by omega), wrap_id (by omega) (by omega)]
  exact h1
theorem tn_end2 {s : List UInt8} {x : Int} (h : Part s x (digs s).length) (hn : (digs s).length = s.length) (hne : ¬ Lib.itoa (wrap64 (-x)) = s) : toNumL s = none := by
  cases hz : toNumL s with
  | none => rfl
  | some z =>
    have hx := h z hz
    rw [List.take_length, tn_val hz] at hx
    have hs := (tn_sign hz).1 hn
    have hr := toNum_range hz
    have : wrap64 (-x) = z := by rw [wrap_id (by omega) (by omega)]; omega
    exact absurd (by rw [this]; exact toNum_back hz) hne
theorem tn_end1 {s : List UInt8} {x : Int} (h : Part s x (digs s).length) (hn : ¬ (digs s).length = s.length) (hne : ¬ Lib.itoa x = s) : toNumL s = none := by
  cases hz : toNumL s with
  | none => rfl
  | some z =>
    have hx := h z hz
    rw [List.take_length, tn_val hz] at hx
    have hs := tn_sign hz
    have : x = z := by omega
    exact absurd (by rw [this]; exact toNum_back hz) hne
theorem head_of (s : ByteArray) (h : 0 < s.size) : s.data.toList.head? = some s[0] := by
  rw [List.head?_eq_getElem?]; exact byte_at s 0 h
theorem digs_plain (s : ByteArray) (h : 0 < s.size) (hb : ((s[0].toNat : Int) == 45) = false) : digs s.data.toList = s.data.toList := by
  unfold digs
  rw [if_neg]
  rw [head_of s h]
  intro hh
  injection hh with hh
  rw [hh] at hb
  exact absurd hb (by decide)
theorem digs_dash (s : ByteArray) (h : 0 < s.size) (hb : ((s[0].toNat : Int) == 45) = true) : digs s.data.toList = (s.extract 1 s.size).data.toList := by
  have e : s[0] = 45 := by
    have : (s[0].toNat : Int) = 45 := by simpa using hb
    apply UInt8.toNat_inj.1
    show s[0].toNat = 45
    omega
  unfold digs
  rw [if_pos (by rw [head_of s h, e]), extract_list, ← size_list, List.take_length]

theorem tn_nil : toNumL [] = none := tn_none_of_len (.inl (by decide))
end Go.Proofs.YtmkjcfakopbdhaaGreatDoor
