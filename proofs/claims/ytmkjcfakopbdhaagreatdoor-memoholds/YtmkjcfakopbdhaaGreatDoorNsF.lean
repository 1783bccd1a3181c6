import Derived.Test.YtmkjcfakopbdhaaGreatDoorNsE
namespace Go.Proofs.YtmkjcfakopbdhaaGreatDoor
open Go.RowKit
attribute [local go_sem ↓] Go.wp_at_zero Go.wp_at_succ

/-- How long texts are together. -/
def tot (l : List (List UInt8)) : Nat := (l.map List.length).sum
theorem tot_cons (a : List UInt8) (l : List (List UInt8)) : tot (a :: l) = a.length + tot l := by simp [tot]
theorem tot_append (a b : List (List UInt8)) : tot (a ++ b) = tot a + tot b := by simp [tot]
theorem tot_filter (p : List UInt8 → Bool) (l : List (List UInt8)) : tot (l.filter p) ≤ tot l := by
  induction l with
  | nil => simp
  | cons a l ih =>
    rw [List.filter_cons]
    split
    · rw [tot_cons, tot_cons]; omega
    · rw [tot_cons]; omega
theorem items_tot {s : List UInt8} (h0 : s ≠ []) : tot ((items s).map (·.1)) < s.length := by
  induction h : s.length using Nat.strongRecOn generalizing s with
  | _ k ih =>
    subst h
    have hp : 0 < s.length := List.length_pos_iff.2 h0
    cases hf : firstL 19 s with
    | none => rw [items_none h0 hf]; simpa [tot] using hp
    | some ab =>
      obtain ⟨a, b⟩ := ab
      rw [items_some h0 hf, List.map_cons, tot_cons]
      have := first_len hf
      by_cases hb : b = []
      · subst hb; rw [items_nil]; simp only [List.map_nil, List.length_nil] at *; simp [tot]; omega
      · have := ih b.length (by omega) hb rfl
        simp only
        omega
theorem inner_nil : innerL [] = [] := rfl
theorem inner_cons (a : List UInt8) (l : List (List UInt8)) : innerL (a :: l) = ((items a).map (·.1)).filter isL ++ innerL l := by simp [innerL]
theorem inner_le (l : List (List UInt8)) : tot (innerL l) ≤ tot l := by
  induction l with
  | nil => simp [inner_nil]
  | cons a l ih =>
    rw [inner_cons, tot_append, tot_cons]
    have h1 := tot_filter isL ((items a).map (·.1))
    by_cases h0 : a = []
    · subst h0; rw [items_nil]; simpa [tot] using ih
    · have := items_tot h0; omega
theorem inner_lt {l : List (List UInt8)} (hl : l ≠ []) (h : ∀ s ∈ l, isL s = true) : tot (innerL l) < tot l := by
  cases l with
  | nil => exact absurd rfl hl
  | cons a l =>
    rw [inner_cons, tot_append, tot_cons]
    have h1 := tot_filter isL ((items a).map (·.1))
    have h2 := inner_le l
    have ha := h a (by simp)
    have h0 : a ≠ [] := by simp [isL] at ha; exact ha.1
    have := items_tot h0
    omega
theorem inner_isL (l : List (List UInt8)) : ∀ s ∈ innerL l, isL s = true := by
  intro s hs
  simp only [innerL, List.mem_flatMap, List.mem_filter] at hs
  obtain ⟨_, _, _, h⟩ := hs
  exact h

/-- How many levels lists have, of at most so many. -/
def levelsN : Nat → List (List UInt8) → Nat
  | 0, _ => 0
  | n + 1, l => if l ≠ [] ∧ tot (innerL l) < tot l then 1 + levelsN n (innerL l) else 0
/-- How many levels lists have. -/
def levels (l : List (List UInt8)) : Nat := levelsN (tot l) l
theorem levelsN_more : ∀ (n : Nat) (l : List (List UInt8)), tot l ≤ n → levelsN n l = levelsN (tot l) l
  | 0, l, h => by rw [Nat.le_zero.1 h]
  | n + 1, l, h => by
    cases hs : tot l with
    | zero =>
      simp only [levelsN]
      rw [if_neg (by omega)]
    | succ m =>
      simp only [levelsN]
      by_cases h0 : l ≠ [] ∧ tot (innerL l) < tot l
      · rw [if_pos h0, if_pos h0, levelsN_more n _ (by omega), levelsN_more m _ (by omega)]
      · rw [if_neg h0, if_neg h0]
theorem levels_nil : levels [] = 0 := rfl
theorem levels_step {l : List (List UInt8)} (hl : l ≠ []) (h : ∀ s ∈ l, isL s = true) : levels l = 1 + levels (innerL l) := by
  have hlt := inner_lt hl h
  unfold levels
  cases hs : tot l with
  | zero => omega
  | succ m =>
    simp only [levelsN]
    rw [if_pos ⟨hl, hlt⟩, levelsN_more m _ (by omega)]
theorem levelsN_le : ∀ (n : Nat) (l : List (List UInt8)), levelsN n l ≤ n
  | 0, _ => Nat.le_refl _
  | n + 1, l => by
    simp only [levelsN]
    split
    · have := levelsN_le n (innerL l); omega
    · omega
theorem levels_le (l : List (List UInt8)) : levels l ≤ tot l := levelsN_le _ _
/-- How deep lists stand in a text. -/
def deepL (s : List UInt8) : Nat := if isL s = true then levels [s] else 0

theorem len_le_tot {l : List (List UInt8)} (h : ∀ s ∈ l, isL s = true) : l.length ≤ tot l := by
  induction l with
  | nil => simp
  | cons a l ih =>
    rw [tot_cons, List.length_cons]
    have := ih fun s hs => h s (by simp [hs])
    have ha := h a (by simp)
    have h0 : a ≠ [] := by simp [isL] at ha; exact ha.1
    have := List.length_pos_iff.2 h0
    omega
def lenOf : Value → Nat
  | .int _ i => i.toNat
  | _ => 0

end Go.Proofs.YtmkjcfakopbdhaaGreatDoor
