import Derived.Test.YtoniohmceaflnabDoorNsA
import Derived.RangeFuncNested
import Derived.RangeFuncBound
import Derived.RangeFuncCalls
import Derived.RangeFuncLeaves
import Derived.RangeFuncBox
import Derived.Shelf.Abstract
import Derived.Shelf.RegionOpen
import Derived.OwnWalkIn
import Derived.TacticsInMore
import Derived.LoopNIn
import Derived.LoopIn
import Derived.Maps.AppendAt
namespace Go.Proofs.YtoniohmceaflnabDoor
open Go.RowKit Go.Shelf
attribute [local go_sem] Oper.semAt_some

theorem first_len {d : Nat} {s a b : List UInt8} (h : firstL d s = some (a, b)) : a.length + b.length < s.length := by
  unfold firstL at h
  simp only at h
  split at h
  · cases h
  · split at h
    · cases h
    · split at h
      · cases h
      · split at h
        · rename_i hx
          have hlt := (List.getElem?_eq_some_iff.1 hx).1
          injection h with h
          injection h with ha hb
          subst ha hb
          rw [List.length_drop] at hlt
          simp only [List.length_take, List.length_drop]
          omega
        · cases h

/-- What is handed on of a text, one by one, of at most so many. -/
def itemsN : Nat → List UInt8 → List (List UInt8 × Int)
  | 0, _ => []
  | n + 1, s => if s = [] then [] else match firstL 19 s with
    | none => [([], 4)]
    | some (a, b) => (a, 0) :: itemsN n b
/-- What is handed on of a text, one by one. -/
def items (s : List UInt8) : List (List UInt8 × Int) := itemsN s.length s

theorem itemsN_more : ∀ (n : Nat) (s : List UInt8), s.length ≤ n → itemsN n s = itemsN s.length s
  | 0, s, h => by rw [Nat.le_zero.1 h]
  | n + 1, s, h => by
    cases hs : s.length with
    | zero =>
      have : s = [] := List.length_eq_zero_iff.1 hs
      subst this
      rfl
    | succ m =>
      simp only [itemsN]
      by_cases h0 : s = []
      · rw [if_pos h0, if_pos h0]
      · rw [if_neg h0, if_neg h0]
        cases hf : firstL 19 s with
        | none => rfl
        | some ab =>
          obtain ⟨a, b⟩ := ab
          have hl := first_len hf
          simp only
          rw [itemsN_more n b (by omega), itemsN_more m b (by omega)]
theorem items_nil : items [] = [] := rfl
theorem items_none {s : List UInt8} (h0 : s ≠ []) (h : firstL 19 s = none) : items s = [([], 4)] := by
  unfold items
  cases hs : s.length with
  | zero => exact absurd (List.length_eq_zero_iff.1 hs) h0
  | succ m =>
    simp only [itemsN]
    rw [if_neg h0, h]
theorem items_some {s a b : List UInt8} (h0 : s ≠ []) (h : firstL 19 s = some (a, b)) : items s = (a, 0) :: items b := by
  have hl := first_len h
  unfold items
  cases hs : s.length with
  | zero => exact absurd (List.length_eq_zero_iff.1 hs) h0
  | succ m =>
    simp only [itemsN]
    rw [if_neg h0, h]
    simp only
    rw [itemsN_more m b (by omega)]

/-- What a round gets. -/
abbrev It := { x : List UInt8 × Int // x.1.length ≤ 140737488355328 }
abbrev enc2 (x : It) : Array Value := #[.string (bs x.1.1), .int .i64 x.1.2]
def strLen : Value → Nat
  | .string b => b.size
  | _ => 0
theorem grown_of_below {w w' : World} (h : Below w.heap.size w w') : w.grownBy w' none := ⟨h.os, h.tape, h.output, h.size, fun k hk _ => h.block k hk⟩
theorem bs_eq_nil (r : List UInt8) (h : (bs r).toList = []) : r = [] := by
  rw [ByteArray.toList_eq] at h; exact h

end Go.Proofs.YtoniohmceaflnabDoor
