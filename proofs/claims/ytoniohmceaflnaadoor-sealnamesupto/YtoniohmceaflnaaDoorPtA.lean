/- The party that a name is, what bytes say was signed: plain, there and back. -/
import Derived.Test.YtoniohmceaflnaaDoorSlE
import Derived.Test.YtoniohmceaflnaaDoorNsR
namespace Go.Proofs.YtoniohmceaflnaaDoor
open Go.RowKit

/-- The party of two numbers that may be none. -/
def party2 : Option Int → Option Int → Option (Int × Int)
  | some g, some n => if isP g n then some (g, n) else none
  | _, _ => none
def partyT : List (List UInt8) → Option (Int × Int)
  | [a, b] => party2 (toNumL a) (toNumL b)
  | _ => none
/-- The party of a name. -/
def partyL (s : List UInt8) : Option (Int × Int) := partyT (texts s)
theorem party_name {g n : Int} (h : isP g n) : partyL (nameL g n) = some (g, n) := by
  have h1 := itoa_len2 g (by omega) (by omega)
  have h2 := itoa_len2 n (by omega) (by omega)
  rw [partyL, nameL, texts_pack _ (by intro t ht; simp at ht; rcases ht with rfl | rfl <;> omega)]
  rw [partyT, toNum_itoa g (by omega) (by omega), toNum_itoa n (by omega) (by omega)]
  exact if_pos h
theorem partyT_some {l : List (List UInt8)} {g n : Int} (h : partyT l = some (g, n)) : isP g n ∧ l = [Lib.itoa g, Lib.itoa n] := by
  unfold partyT at h
  split at h
  · rename_i a b
    rcases ha : toNumL a with _ | x
    · rw [ha] at h; cases h
    rcases hb : toNumL b with _ | y
    · rw [ha, hb] at h; cases h
    rw [ha, hb] at h
    simp only [party2] at h
    split at h
    · rename_i hp
      simp only [Option.some.injEq, Prod.mk.injEq] at h
      obtain ⟨rfl, rfl⟩ := h
      exact ⟨hp, by rw [toNum_back ha, toNum_back hb]⟩
    · cases h
  · cases h
theorem party_back {s : List UInt8} {g n : Int} (h : partyL s = some (g, n)) : isP g n ∧ nameL g n = s := by
  obtain ⟨h1, h2⟩ := partyT_some h
  refine ⟨h1, ?_⟩
  have hg : good s := by
    by_cases hg : good s
    · exact hg
    · rw [texts, if_neg hg] at h2; cases h2
  rw [nameL, ← h2, pack_texts hg]
theorem party_none {s : List UInt8} (h : ∀ g n, isP g n → nameL g n ≠ s) : partyL s = none := by
  rcases hp : partyL s with _ | ⟨g, n⟩
  · rfl
  · exact absurd (party_back hp).2 (h g n (party_back hp).1)
def partyG (s : List UInt8) : Int := ((partyL s).getD (0, 0)).1
def partyN (s : List UInt8) : Int := ((partyL s).getD (0, 0)).2
def partyE (s : List UInt8) : Int := if (partyL s).isSome then 0 else 4

/-- The bytes of what was signed. -/
def sEncE (g n : Int) (tg : List UInt8) : Int := if ¬ isP g n then 1 else if tg.length = 16 then 0 else 4
def sEncV (g n : Int) (t tg : List UInt8) : List UInt8 := if sEncE g n tg = 0 then packL [nameL g n, t, tg] else []
def sDecT : List (List UInt8) → Option ((Int × Int) × List UInt8 × List UInt8)
  | [a, t, tg] => if tg.length = 16 then (partyL a).map fun p => (p, t, tg) else none
  | _ => none
def sDecL (s : List UInt8) : Option ((Int × Int) × List UInt8 × List UInt8) := sDecT (texts s)
theorem sEnc_ok {g n : Int} {tg : List UInt8} (h : sEncE g n tg = 0) : isP g n ∧ tg.length = 16 := by
  unfold sEncE at h
  split at h
  · cases h
  · rename_i hp
    split at h
    · rename_i hl; exact ⟨Classical.not_not.1 hp, hl⟩
    · cases h
theorem sEnc_of {g n : Int} {tg : List UInt8} (h : isP g n) (hl : tg.length = 16) : sEncE g n tg = 0 := by
  rw [sEncE, if_neg (fun c => c h), if_pos hl]
theorem sDec_enc {g n : Int} {t tg : List UInt8} (h : sEncE g n tg = 0) (ht : t.length ≤ 1000000) : sDecL (sEncV g n t tg) = some ((g, n), t, tg) := by
  obtain ⟨hp, hl⟩ := sEnc_ok h
  have hn := name_len g n hp
  rw [sEncV, if_pos h, sDecL, texts_pack _ (by intro x hx; simp at hx; rcases hx with rfl | rfl | rfl <;> omega)]
  rw [sDecT, if_pos hl, party_name hp]; rfl
theorem sDec_some {s t tg : List UInt8} {g n : Int} (h : sDecL s = some ((g, n), t, tg)) : sEncE g n tg = 0 ∧ sEncV g n t tg = s ∧ texts s = [nameL g n, t, tg] := by
  unfold sDecL sDecT at h
  split at h
  · rename_i a t' tg' hs
    split at h
    · rename_i hl
      rcases hp : partyL a with _ | ⟨g', n'⟩
      · rw [hp] at h; cases h
      · rw [hp] at h
        simp only [Option.map_some, Option.some.injEq, Prod.mk.injEq] at h
        obtain ⟨⟨rfl, rfl⟩, rfl, rfl⟩ := h
        obtain ⟨h1, h2⟩ := party_back hp
        have he := sEnc_of h1 hl
        have hg : good s := by
          by_cases hg : good s
          · exact hg
          · rw [texts, if_neg hg] at hs; cases hs
        refine ⟨he, ?_, by rw [hs, h2]⟩
        rw [sEncV, if_pos he, h2, ← hs, pack_texts hg]
    · cases h
  · cases h
end Go.Proofs.YtoniohmceaflnaaDoor
