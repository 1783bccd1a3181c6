/- Memos, plain: what each kind has, what is wrong with one, its bytes, what bytes say; there and back. -/
import Derived.Test.YtmkjcfakopbdhaaGreatDoorPtA
namespace Go.Proofs.YtmkjcfakopbdhaaGreatDoor
open Go.RowKit

def anyL : List Bool := [false, true, false, false, false, false, false, false, false, false, false, false, true]
def vloL : List Int := [0, 0, 0, 0, 0, 1, 1, 0, 0, 0, 0, 0, 0]
def vhiL : List Int := [0, 0, 1099511627776, 1099511627776, 0, 1099511627776, 1099511627776, 0, 1099511627776, 1099511627776, 0, 0, 0]
def nloL : List Int := [0, 0, 1, 1, 1, 0, 0, 0, 0, 1, 0, 0, 0]
def nhiL : List Int := [0, 0, 1099511627776, 1099511627776, 1099511627776, 0, 0, 0, 1099511627776, 1099511627776, 0, 0, 1099511627776]
def txL : List Int := [0, 524288, 524288, 524288, 524288, 524288, 524288, 524288, 0, 524288, 524288, 524288, 0]
def tgL : List Int := [0, 0, 16, 16, 16, 16, 0, 0, 16, 16, 16, 16, 0]
def anyK (k : Nat) : Bool := anyL.getD k false
def vlo (k : Nat) : Int := vloL.getD k 0
def vhi (k : Nat) : Int := vhiL.getD k 0
def nlo (k : Nat) : Int := nloL.getD k 0
def nhi (k : Nat) : Int := nhiL.getD k 0
def txK (k : Nat) : Int := txL.getD k 0
def tgK (k : Nat) : Int := tgL.getD k 0
/-- What a kind has, as it lies. -/
def shc (k : Nat) : List Value := [.bool (anyK k), .int .i64 (vlo k), .int .i64 (vhi k), .int .i64 (nlo k), .int .i64 (nhi k), .int .i64 (txK k), .int .i64 (tgK k)]

/-- Are a memo's fields as its kind tells? -/
abbrev okF (k : Nat) (v m : Int) (tl : Nat) : Prop := vlo k ≤ v ∧ v ≤ vhi k ∧ nlo k ≤ m ∧ m ≤ nhi k ∧ (tl : Int) ≤ txK k
abbrev isK (k : Int) : Prop := 1 ≤ k ∧ k ≤ 12
/-- What is wrong with a memo but for its tag. -/
def fE (k g n v m : Int) (tl : Nat) : Int :=
  if ¬ isK k then 1 else if ¬ isP g n then 1 else if g = -1 ∧ anyK k.toNat = false then 1 else if okF k.toNat v m tl then 0 else 4
/-- What is wrong with a memo. -/
def cE (k g n v m : Int) (tl gl : Nat) : Int := if fE k g n v m tl = 0 then (if (gl : Int) = tgK k.toNat then 0 else 4) else fE k g n v m tl
def meTs (k g n v m : Int) (t tg : List UInt8) : List (List UInt8) := [Lib.itoa k, nameL g n, Lib.itoa v, Lib.itoa m, t, tg]
/-- A memo's bytes. -/
def meL (k g n v m : Int) (t tg : List UInt8) : List UInt8 := packL (meTs k g n v m t tg)
def meV (k g n v m : Int) (t tg : List UInt8) : List UInt8 := if cE k g n v m t.length tg.length = 0 then meL k g n v m t tg else []

abbrev Me : Type := Int × Int × Int × Int × Int × List UInt8 × List UInt8
/-- The memo of texts. -/
def deT : List (List UInt8) → Option Me
  | [a, b, c, d, t, tg] =>
    match toNumL a, partyL b, toNumL c, toNumL d with
    | some k, some (g, n), some v, some m => if cE k g n v m t.length tg.length = 0 then some (k, g, n, v, m, t, tg) else none
    | _, _, _, _ => none
  | _ => none
/-- The memo of bytes. -/
def deL (s : List UInt8) : Option Me := deT (texts s)
def deV (s : List UInt8) : Me := (deL s).getD (0, 0, 0, 0, 0, [], [])
def deE (s : List UInt8) : Int := if (deL s).isSome then 0 else 4

theorem kinds (k : Nat) (hk : k ≤ 12) : (vlo k = 0 ∨ vlo k = 1) ∧ (nlo k = 0 ∨ nlo k = 1) ∧ 0 ≤ vhi k ∧ vhi k ≤ 1099511627776 ∧ 0 ≤ nhi k ∧ nhi k ≤ 1099511627776 ∧ 0 ≤ txK k ∧ txK k ≤ 524288 ∧ (tgK k = 0 ∨ tgK k = 16) := by
  have : k = 0 ∨ k = 1 ∨ k = 2 ∨ k = 3 ∨ k = 4 ∨ k = 5 ∨ k = 6 ∨ k = 7 ∨ k = 8 ∨ k = 9 ∨ k = 10 ∨ k = 11 ∨ k = 12 := by omega
  rcases this with rfl | rfl | rfl | rfl | rfl | rfl | rfl | rfl | rfl | rfl | rfl | rfl | rfl <;> decide
theorem fE_ok {k g n v m : Int} {tl : Nat} (h : fE k g n v m tl = 0) : isK k ∧ isP g n ∧ ¬ (g = -1 ∧ anyK k.toNat = false) ∧ okF k.toNat v m tl := by
  unfold fE at h
  by_cases h1 : isK k
  · rw [if_neg (fun c => c h1)] at h
    by_cases h2 : isP g n
    · rw [if_neg (fun c => c h2)] at h
      by_cases h3 : g = -1 ∧ anyK k.toNat = false
      · rw [if_pos h3] at h; cases h
      · rw [if_neg h3] at h
        by_cases h4 : okF k.toNat v m tl
        · exact ⟨h1, h2, h3, h4⟩
        · rw [if_neg h4] at h; cases h
    · rw [if_pos h2] at h; cases h
  · rw [if_pos h1] at h; cases h
theorem cE_ok {k g n v m : Int} {tl gl : Nat} (h : cE k g n v m tl gl = 0) : fE k g n v m tl = 0 ∧ (gl : Int) = tgK k.toNat := by
  unfold cE at h
  by_cases h1 : fE k g n v m tl = 0
  · rw [if_pos h1] at h
    by_cases h2 : (gl : Int) = tgK k.toNat
    · exact ⟨h1, h2⟩
    · rw [if_neg h2] at h; cases h
  · rw [if_neg h1] at h; exact absurd h h1
theorem cE_num {k g n v m : Int} {tl gl : Nat} (h : cE k g n v m tl gl = 0) : isK k ∧ isP g n ∧ 0 ≤ v ∧ v ≤ 1099511627776 ∧ 0 ≤ m ∧ m ≤ 1099511627776 ∧ tl ≤ 524288 ∧ gl ≤ 16 := by
  obtain ⟨h1, h2⟩ := cE_ok h
  obtain ⟨hk, hp, -, ha, hb, hc, hd, he⟩ := fE_ok h1
  have := kinds k.toNat (by have := hk.1; have := hk.2; omega)
  omega
theorem itoa_le {z : Int} (h0 : -9223372036854775808 ≤ z) (h1 : z ≤ 9223372036854775807) : (Lib.itoa z).length ≤ 21 := by
  unfold Lib.itoa
  split
  · have : (Lib.decDigits z.natAbs).length ≤ 20 := by rw [decDigits_len]; exact nDigits_le 19 _ (by omega)
    simp only [List.length_cons]; omega
  · have : (Lib.decDigits z.toNat).length ≤ 20 := by rw [decDigits_len]; exact nDigits_le 19 _ (by omega)
    omega
theorem tot6 (a b c d e f : List UInt8) : tot [a, b, c, d, e, f] = a.length + b.length + c.length + d.length + e.length + f.length := by simp [tot]; omega
theorem me_tot {k g n v m : Int} {t tg : List UInt8} (h : cE k g n v m t.length tg.length = 0) : tot (meTs k g n v m t tg) ≤ 200 + t.length := by
  obtain ⟨hk, hp, h1, h2, h3, h4, h5, h6⟩ := cE_num h
  have hk0 := hk.1
  have hk1 := hk.2
  have a1 := itoa_le (z := k) (by omega) (by omega)
  have a2 := itoa_le (z := v) (by omega) (by omega)
  have a3 := itoa_le (z := m) (by omega) (by omega)
  have a4 := name_len g n hp
  rw [meTs, tot6]; omega
theorem me_len {k g n v m : Int} {t tg : List UInt8} : (meV k g n v m t tg).length ≤ 500 + t.length := by
  unfold meV
  split
  · rename_i h
    obtain ⟨-, -, -, -, -, -, h5, -⟩ := cE_num h
    have h1 := me_tot h
    have h2 := pack_len (meTs k g n v m t tg) (by omega)
    rw [meL]
    simp only [meTs, List.length_cons, List.length_nil] at h1 h2 ⊢
    omega
  · exact Nat.zero_le _
/-- What is said is read. -/
theorem de_me {k g n v m : Int} {t tg : List UInt8} (h : cE k g n v m t.length tg.length = 0) : deL (meL k g n v m t tg) = some (k, g, n, v, m, t, tg) := by
  obtain ⟨hk, hp, h1, h2, h3, h4, h5, h6⟩ := cE_num h
  have hk0 := hk.1
  have hk1 := hk.2
  have a1 := itoa_le (z := k) (by omega) (by omega)
  have a2 := itoa_le (z := v) (by omega) (by omega)
  have a3 := itoa_le (z := m) (by omega) (by omega)
  have a4 := name_len g n hp
  rw [deL, meL, texts_pack _ (by intro x hx; simp [meTs] at hx; rcases hx with rfl | rfl | rfl | rfl | rfl | rfl <;> omega), meTs, deT]
  rw [toNum_itoa k (by omega) (by omega), toNum_itoa v (by omega) (by omega), toNum_itoa m (by omega) (by omega), party_name hp]
  simp only
  rw [if_pos h]
theorem deT_some {l : List (List UInt8)} {k g n v m : Int} {t tg : List UInt8} (h : deT l = some (k, g, n, v, m, t, tg)) : cE k g n v m t.length tg.length = 0 ∧ l = meTs k g n v m t tg := by
  unfold deT at h
  split at h
  · rename_i a b c d t' tg'
    split at h
    · rename_i k' g' n' v' m' e1 e2 e3 e4
      split at h
      · rename_i hc
        simp only [Option.some.injEq, Prod.mk.injEq] at h
        obtain ⟨rfl, rfl, rfl, rfl, rfl, rfl, rfl⟩ := h
        refine ⟨hc, ?_⟩
        rw [meTs, toNum_back e1, (party_back e2).2, toNum_back e3, toNum_back e4]
      · cases h
    · cases h
  · cases h
/-- What is read was said so. -/
theorem me_de {s : List UInt8} {k g n v m : Int} {t tg : List UInt8} (h : deL s = some (k, g, n, v, m, t, tg)) : cE k g n v m t.length tg.length = 0 ∧ meL k g n v m t tg = s ∧ texts s = meTs k g n v m t tg := by
  obtain ⟨h1, h2⟩ := deT_some h
  have hg : good s := by
    by_cases hg : good s
    · exact hg
    · rw [texts, if_neg hg] at h2; cases h2
  exact ⟨h1, by rw [meL, ← h2, pack_texts hg], h2⟩
end Go.Proofs.YtmkjcfakopbdhaaGreatDoor
