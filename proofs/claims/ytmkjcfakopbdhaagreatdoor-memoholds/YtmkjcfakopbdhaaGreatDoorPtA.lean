/- The party that a name is, what bytes say was signed: plain, there and back. -/
import Derived.Test.YtmkjcfakopbdhaaGreatDoorSlA
import Derived.Test.YtmkjcfakopbdhaaGreatDoorNsP
namespace Go.Proofs.YtmkjcfakopbdhaaGreatDoor
open Go.RowKit

theorem name_len (g n : Int) (hp : isP g n) : (nameL g n).length ≤ 100 := by
  have h1 := name_tot hp
  have := pack_len [Lib.itoa g, Lib.itoa n] (by omega)
  simp only [List.length_cons, List.length_nil] at this
  rw [nameL]; omega
theorem cellB {w : World} {B : Nat} {cs : Array Value} {t : TypeId} {fr : Nat × Nat} (h : w.heap[B]? = some (.cells cs t fr)) (j : Nat) (u : Value) (hu : cs[j]? = some u) : w.cell? ⟨B, j, none⟩ = some u := by
  unfold World.cell?
  simp only [h]
  exact hu
theorem frozenB {w : World} {B : Nat} {cs : Array Value} {t : TypeId} (h : w.heap[B]? = some (.cells cs t)) (j : Nat) : w.frozen? ⟨B, j, none⟩ = false := by
  unfold World.frozen?; simp [h]
theorem setB {w : World} {B : Nat} {cs : Array Value} {t : TypeId} {fr : Nat × Nat} (h : w.heap[B]? = some (.cells cs t fr)) (j : Nat) (a : Value) :
    (w.setCell ⟨B, j, none⟩ a).heap[B]? = some (.cells (cs.setIfInBounds j a) t fr) := by
  unfold World.setCell
  simp only [Array.getElem?_modify, if_true, h, Option.map_some]
  rfl
theorem strs_same (a : List UInt8) : ((bs a).toList == (bs a).toList) = true := by simp
theorem strs_other {a b : List UInt8} (h : a ≠ b) : ((bs a).toList == (bs b).toList) = false := str_ne (fun e => h (bs_inj e))
/-- The party of two numbers that may be none. -/
def party2 : Option Int → Option Int → Option (Int × Int)
  | some g, some n => if isP g n then some (g, n) else none
  | _, _ => none
def partyT : List (List UInt8) → Option (Int × Int)
  | [a, b] => party2 (toNumL a) (toNumL b)
  | _ => none
/-- The party of a name. -/
def partyL (s : List UInt8) : Option (Int × Int) := partyT (texts s)
theorem party_name {g n : Int} (h : isP g n) : partyL (nameL g n) = some (g, n) := by
  have h1 := itoa_len2 g (by omega) (by omega)
  have h2 := itoa_len2 n (by omega) (by omega)
  rw [partyL, nameL, texts_pack _ (by intro t ht; simp at ht; rcases ht with rfl | rfl <;> omega)]
  rw [partyT, toNum_itoa g (by omega) (by omega), toNum_itoa n (by omega) (by omega)]
  exact if_pos h
theorem partyT_some {l : List (List UInt8)} {g n : Int} (h : partyT l = some (g, n)) : isP g n ∧ l = [Lib.itoa g, Lib.itoa n] := by
  unfold partyT at h
  split at h
  · rename_i a b
    rcases ha : toNumL a with _ | x
    · rw [ha] at h; cases h
    rcases hb : toNumL b with _ | y
    · rw [ha, hb] at h; cases h
    rw [ha, hb] at h
    simp only [party2] at h
    split at h
    · rename_i hp
      simp only [Option.some.injEq, Prod.mk.injEq] at h
      obtain ⟨rfl, rfl⟩ := h
      exact ⟨hp, by rw [toNum_back ha, toNum_back hb]⟩
    · cases h
  · cases h
theorem party_back {s : List UInt8} {g n : Int} (h : partyL s = some (g, n)) : isP g n ∧ nameL g n = s := by
  obtain ⟨h1, h2⟩ := partyT_some h
  refine ⟨h1, ?_⟩
  have hg : good s := by
    by_cases hg : good s
    · exact hg
    · rw [texts, if_neg hg] at h2; cases h2
  rw [nameL, ← h2, pack_texts hg]
theorem party_none {s : List UInt8} (h : ∀ g n, isP g n → nameL g n ≠ s) : partyL s = none := by
  rcases hp : partyL s with _ | ⟨g, n⟩
  · rfl
  · exact absurd (party_back hp).2 (h g n (party_back hp).1)
def partyG (s : List UInt8) : Int := ((partyL s).getD (0, 0)).1
def partyN (s : List UInt8) : Int := ((partyL s).getD (0, 0)).2
def partyE (s : List UInt8) : Int := if (partyL s).isSome then 0 else 4

end Go.Proofs.YtmkjcfakopbdhaaGreatDoor
