import Derived.Test.YtmkjcfakopbdhaaGreatDoorNsA
import Derived.RangeFuncNested
import Derived.RangeFuncBound
import Derived.RangeFuncCalls
import Derived.RangeFuncLeaves
import Derived.RangeFuncBox
import Derived.Shelf.Abstract
import Derived.Shelf.RegionOpen
import Derived.OwnWalkIn
import Derived.TacticsInMore
import Derived.LoopNIn
import Derived.LoopIn
import Derived.Maps.AppendAt
namespace Go.Proofs.YtmkjcfakopbdhaaGreatDoor
open Go.RowKit Go.Shelf
attribute [local go_sem] Oper.semAt_some

theorem first_len {d : Nat} {s a b : List UInt8} (h : firstL d s = some (a, b)) : a.length + b.length < s.length := by
  unfold firstL at h
  simp only at h
  split at h
  · cases h
  · split at h
    · cases h
    · split at h
      · cases h
      · split at h
        · rename_i hx
          have hlt := (List.getElem?_eq_some_iff.1 hx).1
          injection h with h
          injection h with ha hb
          subst ha hb
          rw [List.length_drop] at hlt
          simp only [List.length_take, List.length_drop]
          omega
        · cases h

/-- What is handed on of a text, one by one, of at most so many. -/
def itemsN : Nat → List UInt8 → List (List UInt8 × Int)
  | 0, _ => []
  | n + 1, s => if s = [] then [] else match firstL 19 s with
    | none => [([], 4)]
    | some (a, b) => (a, 0) :: itemsN n b
/-- What is handed on of a text, one by one. -/
def items (s : List UInt8) : List (List UInt8 × Int) := itemsN s.length s

theorem itemsN_more : ∀ (n : Nat) (s : List UInt8), s.length ≤ n → itemsN n s = itemsN s.length s
  | 0, s, h => by rw [Nat.le_zero.1 h]
  | n + 1, s, h => by
    cases hs : s.length with
    | zero =>
      have : s = [] := List.length_eq_zero_iff.1 hs
      subst this
      rfl
    | succ m =>
      simp only [itemsN]
      by_cases h0 : s = []
      · rw [if_pos h0, if_pos h0]
      · rw [if_neg h0, if_neg h0]
        cases hf : firstL 19 s with
        | none => rfl
        | some ab =>
          obtain ⟨a, b⟩ := ab
          have hl := first_len hf
          simp only
          rw [itemsN_more n b (by omega), itemsN_more m b (by omega)]
theorem items_nil : items [] = [] := rfl
theorem items_none {s : List UInt8} (h0 : s ≠ []) (h : firstL 19 s = none) : items s = [([], 4)] := by
  unfold items
  cases hs : s.length with
  | zero => exact absurd (List.length_eq_zero_iff.1 hs) h0
  | succ m =>
    simp only [itemsN]
    rw [if_neg h0, h]
theorem items_some {s a b : List UInt8} (h0 : s ≠ []) (h : firstL 19 s = some (a, b)) : items s = (a, 0) :: items b := by
  have hl := first_len h
  unfold items
  cases hs : s.length with
  | zero => exact absurd (List.length_eq_zero_iff.1 hs) h0
  | succ m =>
    simp only [itemsN]
    rw [if_neg h0, h]
    simp only
    rw [itemsN_more m b (by omega)]

/-- What a round gets. -/
abbrev It := { x : List UInt8 × Int // x.1.length ≤ 140737488355328 }
abbrev enc2 (x : It) : Array Value := #[.string (bs x.1.1), .int .i64 x.1.2]
def strLen : Value → Nat
  | .string b => b.size
  | _ => 0
theorem grown_of_below {w w' : World} (h : Below w.heap.size w w') : w.grownBy w' none := ⟨h.os, h.tape, h.output, h.size, fun k hk _ => h.block k hk⟩
theorem bs_eq_nil (r : List UInt8) (h : (bs r).toList = []) : r = [] := by
  rw [ByteArray.toList_eq] at h; exact h

set_option maxRecDepth 100000 in
set_option maxHeartbeats 1000000 in
theorem texts1_in (n : Nat) (hn : 1 ≤ n) (l Bn n₀ : Nat) (hn4 : 4 ≤ n₀) (s : List UInt8) (hs : s.length ≤ 140737488355328) (J Jx : List It → World → Prop) (W : World)
    (hJ : AbidesFrom W.heap.size J)
    (hY : ∀ pre x W1, J pre W1 → pre.length < (items s).length → YieldAt Fence.wide (n - 1) Tryz.prog l (enc2 x) W1 fun e W' =>
      (e = .returned (.bool true) ∧ J (pre ++ [x]) W' ∧ Below n₀ W1 W') ∨ (e = .returned (.bool false) ∧ Jx (pre ++ [x]) W'))
    (hBn : W.cell? ⟨Bn, 0, none⟩ = some (.string (bs s))) (he : Env W) (h0 : J [] W) :
    CallsIn Fence.wide n Tryz.prog 53 #[.func (.yield l) #[] #[], .pointer (some ⟨Bn, 0, none⟩)] W fun e W' => (∃ v, e = .returned v) ∧
      ((∃ ys : List It, ys.map (·.1) = items s ∧ J ys W') ∨ (∃ pre : List It, pre.map (·.1) <+: items s ∧ Jx pre W')) := by
  refine callsIn_of_wp Tryz.func53 rfl trivial ?_ rfl
  simp only [Tryz.ntmps53, List.size_toArray, List.length_cons, List.length_nil, Nat.reduceAdd, Nat.reduceSub, Array.replicate_succ, Array.replicate_zero, List.push_toArray, List.append_toArray, List.nil_append, List.cons_append]
  gi_wp2
  gi_loopw [3] (fun p wr => ∃ (pre : List It) (r : List UInt8), p = .string (bs r) ∧ r.length ≤ s.length ∧ pre.map (·.1) ++ items r = items s ∧ Env wr ∧ J pre wr)
    (fun p _ => strLen p)
  case atStart =>
    exact ⟨[], s, rfl, Nat.le_refl _, rfl, he, h0⟩
  case round =>
    obtain ⟨pre, r, rfl, hr, hx, her, hJs⟩ := hrel
    by_cases hr0 : r = []
    · subst hr0
      have hE : (bs []).toList.isEmpty = true := by rw [ByteArray.toList_eq]; rfl
      gi_wp2
      go_end0
      exact ⟨⟨_, rfl⟩, .inl ⟨pre, by rw [← hx, items_nil, List.append_nil], hJs⟩⟩
    · have hE : (bs r).toList.isEmpty = false := by rw [ByteArray.toList_eq, bs_list]; simpa using hr0
      have hf := first_any (bs r) 19 wr (by omega) (by rw [bs_size]; omega) her
      rw [bs_list] at hf
      cases hfr : firstL 19 r with
      | none =>
        rw [hfr] at hf
        simp only [firstV] at hf
        have hx' := items_none hr0 hfr
        rw [hx'] at hx
        gi_wp2
        refine ⟨trivial, (callsIn_wide.2 hf).mono ?_⟩
        clear hf
        rintro e w1 ⟨rfl, hb⟩
        have hJ1 := hJ pre wr w1 none hJs (grown_of_below hb) (fun r e => by cases e)
        obtain ⟨fn, tmps, assign, body, hy, hR⟩ := hY pre ⟨([], 4), by simp⟩ w1 hJ1 (by rw [← hx]; simp)
        dsimp only [enc2] at hy
        gi_wp2
        refine hR.mono ?_
        rintro e W3 (⟨rfl, hJ3, hk3⟩ | ⟨rfl, hJx3⟩)
        · gi_wp2
          refine bodyPost_ret (results_none rfl _ _ _) rfl ?_
          exact ⟨⟨_, rfl⟩, .inl ⟨_, by rw [← hx]; simp, hJ3⟩⟩
        · gi_wp2
          refine bodyPost_ret (results_none rfl _ _ _) rfl ?_
          exact ⟨⟨_, rfl⟩, .inr ⟨_, by rw [← hx]; simp, hJx3⟩⟩
      | some ab =>
        obtain ⟨a, b⟩ := ab
        rw [hfr] at hf
        simp only [firstV] at hf
        have hx' := items_some hr0 hfr
        have hlen := first_len hfr
        rw [hx'] at hx
        gi_wp2
        refine ⟨trivial, (callsIn_wide.2 hf).mono ?_⟩
        clear hf
        rintro e w1 ⟨rfl, hb⟩
        have hJ1 := hJ pre wr w1 none hJs (grown_of_below hb) (fun r e => by cases e)
        have he1 := her.next hb
        obtain ⟨fn, tmps, assign, body, hy, hR⟩ := hY pre ⟨(a, 0), by show a.length ≤ _; omega⟩ w1 hJ1 (by rw [← hx]; simp)
        dsimp only [enc2] at hy
        gi_wp2
        refine hR.mono ?_
        rintro e W3 (⟨rfl, hJ3, hk3⟩ | ⟨rfl, hJx3⟩)
        · gi_wp2
          go_roundw
          case rel => exact ⟨_, b, rfl, by omega, by rw [← hx]; simp, he1.below hk3 hn4 (Nat.le_trans he1.size hk3.size), hJ3⟩
          case measure => simp only [strLen, bs_size]; omega
        · gi_wp2
          refine bodyPost_ret (results_none rfl _ _ _) rfl ?_
          exact ⟨⟨_, rfl⟩, .inr ⟨_, by rw [← hx]; simp, hJx3⟩⟩

theorem texts_any (s : ByteArray) (w : World) :
    Calls Tryz.prog 37 #[.string s] w fun e w' => e = .returned (.func (.func 53) #[] #[.pointer (some ⟨w.heap.size, 0, none⟩)]) ∧ w' = w.alloc (.cells #[.string s] 9) := by
  go_enter Tryz.func37, Tryz.ntmps37
  go_wp2
  go_ret
  exact ⟨rfl, rfl⟩

/-- The function that texts hands back, as a loop takes it. -/
theorem texts_stops (n : Nat) (hn : 1 ≤ n) (Bn n₀ : Nat) (hn4 : 4 ≤ n₀) (s : List UInt8) (hs : s.length ≤ 140737488355328) (w : World) (hBn : Bn < w.heap.size)
    (hc : w.cell? ⟨Bn, 0, none⟩ = some (.string (bs s))) (he : Env w) :
    SeqStopsK Fence.wide n Tryz.prog 53 #[.pointer (some ⟨Bn, 0, none⟩)] enc2 (Below n₀) (fun ys => ys.map (·.1) = items s) (fun pre => pre.map (·.1) <+: items s) (items s).length w := fun l J Jx W hW hJ _ hY h0 =>
  texts1_in n hn l Bn n₀ hn4 s hs J Jx W hJ hY ((hW.cell (p := ⟨Bn, 0, none⟩) hBn).trans hc) (he.next hW) h0
end Go.Proofs.YtmkjcfakopbdhaaGreatDoor
