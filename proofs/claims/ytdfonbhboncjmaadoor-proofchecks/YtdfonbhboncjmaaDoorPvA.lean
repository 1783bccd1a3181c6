/- Operations that are done one behind the other: which rule is broken, plain. -/
import Derived.Test.YtdfonbhboncjmaaDoorPrS
namespace Go.Proofs.YtdfonbhboncjmaaDoor
open Go.RowKit Go.Maps

def opZ : Opr := ⟨0, [], [], []⟩
/-- The answer that is handed in: with a sign more at the wrong place. -/
def bAn (A : List An) (x : Int) (i : Nat) : An := (if (i : Int) = x then ((A[i]?).getD ([], 0)).1 ++ [33] else ((A[i]?).getD ([], 0)).1, ((A[i]?).getD ([], 0)).2)
def fC (l : List Opr) (A : List An) (x : Int) (i : Nat) : Cl := ⟨((i % 8 : Nat) : Int), (i : Int) + 1, (l[i]?).getD opZ, 3 * (i : Int), 3 * (i : Int) + 2, bAn A x i⟩
def fP (A : List An) (x : Int) (i : Nat) : Pt := ⟨3 * (i : Int) + 1, ((i % 8 : Nat) : Int), (i : Int) + 1, bAn A x i⟩
def oneC (l : List Opr) (A : List An) (x : Int) (n : Nat) : List Cl := (List.range n).map (fC l A x)
def oneP (A : List An) (x : Int) (n : Nat) : List Pt := (List.range n).map (fP A x)
theorem oneC_at {l : List Opr} {A : List An} {x : Int} {n i : Nat} (h : i < n) : (oneC l A x n)[i]? = some (fC l A x i) := by
  rw [oneC, List.getElem?_map, List.getElem?_range h]; rfl
theorem oneP_at {A : List An} {x : Int} {n i : Nat} (h : i < n) : (oneP A x n)[i]? = some (fP A x i) := by
  rw [oneP, List.getElem?_map, List.getElem?_range h]; rfl
theorem oneC_len (l : List Opr) (A : List An) (x : Int) (n : Nat) : (oneC l A x n).length = n := by simp [oneC]
theorem oneP_len (A : List An) (x : Int) (n : Nat) : (oneP A x n).length = n := by simp [oneP]
theorem oneC_succ (l : List Opr) (A : List An) (x : Int) (n : Nat) : oneC l A x (n + 1) = oneC l A x n ++ [fC l A x n] := by
  rw [oneC, List.range_succ, List.map_append]; rfl
theorem oneP_succ (A : List An) (x : Int) (n : Nat) : oneP A x (n + 1) = oneP A x n ++ [fP A x n] := by
  rw [oneP, List.range_succ, List.map_append]; rfl
theorem lastI_only {ks : List (Int × Int)} {c m : Int} {n i : Nat} (h : ks[i]? = some (c, m)) (hi : i < n) (hu : ∀ j, j < n → ks[j]? = some (c, m) → j = i) : lastI ks c m n = some i := by
  cases e : lastI ks c m n with
  | none => exact absurd h (lastI_none e i hi)
  | some j =>
    obtain ⟨h1, h2⟩ := lastI_some e
    rw [hu j h1 h2]
theorem lastI_no {ks : List (Int × Int)} {c m : Int} {n : Nat} (hu : ∀ j, j < n → ks[j]? ≠ some (c, m)) : lastI ks c m n = none := by
  cases e : lastI ks c m n with
  | none => rfl
  | some j =>
    obtain ⟨h1, h2⟩ := lastI_some e
    exact absurd h2 (hu j h1)
theorem keyC {l : List Opr} {A : List An} {x : Int} {n i : Nat} (h : i < n) : ((oneC l A x n).map ck)[i]? = some (((i % 8 : Nat) : Int), (i : Int) + 1) := by
  rw [List.getElem?_map, oneC_at h]; rfl
theorem keyP {A : List An} {x : Int} {n i : Nat} (h : i < n) : ((oneP A x n).map pk2)[i]? = some (((i % 8 : Nat) : Int), (i : Int) + 1) := by
  rw [List.getElem?_map, oneP_at h]; rfl
theorem key_eq {i j : Nat} (h : some (((j % 8 : Nat) : Int), (j : Int) + 1) = some (((i % 8 : Nat) : Int), (i : Int) + 1)) : j = i := by
  injection h with h
  injection h with _ h
  omega
theorem lastOneC {l : List Opr} {A : List An} {x : Int} {n i : Nat} (h : i < n) : lastI ((oneC l A x n).map ck) ((i % 8 : Nat) : Int) ((i : Int) + 1) n = some i :=
  lastI_only (keyC h) h fun j hj e => by rw [keyC hj] at e; exact key_eq e
theorem lastOneP {A : List An} {x : Int} {n i : Nat} (h : i < n) : lastI ((oneP A x n).map pk2) ((i % 8 : Nat) : Int) ((i : Int) + 1) n = some i :=
  lastI_only (keyP h) h fun j hj e => by rw [keyP hj] at e; exact key_eq e
theorem callOfOne {l : List Opr} {A : List An} {x : Int} {n i : Nat} (h : i < n) : callOf (oneC l A x n) (fP A x i) = some (fC l A x i) := by
  unfold callOf
  rw [oneC_len]
  show (lastI ((oneC l A x n).map ck) ((i % 8 : Nat) : Int) ((i : Int) + 1) n).bind _ = _
  rw [lastOneC h]
  exact oneC_at h
theorem callAtOne {l : List Opr} {A : List An} {x : Int} {n i : Nat} (h : i < n) : callAt (oneC l A x n) (fP A x i) = fC l A x i := by
  rw [callAt, callOfOne h]; rfl
theorem lastCOne {l : List Opr} {A : List An} {x c : Int} {n : Nat} : ∀ {k : Nat}, k ≤ n → lastC (oneC l A x n) c k = clZ ∨ ∃ j, j < k ∧ lastC (oneC l A x n) c k = fC l A x j
  | 0, _ => .inl rfl
  | k + 1, hk => by
    rw [lastC_succ (oneC_at (l := l) (A := A) (x := x) (n := n) (i := k) (by omega))]
    by_cases e : (fC l A x k).cl = c
    · rw [if_pos e]
      exact .inr ⟨k, by omega, rfl⟩
    · rw [if_neg e]
      rcases lastCOne (l := l) (A := A) (x := x) (c := c) (n := n) (k := k) (by omega) with h | ⟨j, hj, h⟩
      · exact .inl h
      · exact .inr ⟨j, by omega, h⟩
theorem repl_get : ∀ (S : Ms) (l : List Opr) (i : Nat) (o : Opr), l[i]? = some o → (repl S l)[i]? = some (tell (fin S (l.take i)) o)
  | _, [], i, o, h => by simp at h
  | S, a :: l, 0, o, h => by simp at h; subst h; rfl
  | S, a :: l, i + 1, o, h => by
    simp at h
    exact repl_get (next S a) l i o h
section
variable {l : List Opr} {A : List An} {x : Int}
theorem one1 (hok : ∀ o ∈ l, chk o.kind o.k o.v o.o = 0) (hn : l.length ≤ 1000) : ∀ i, i < l.length → P1 (oneC l A x l.length) i = false := by
  intro i hi
  rw [P1_at (oneC_at hi)]
  have ho : l[i]? = some l[i] := List.getElem?_eq_getElem hi
  have h1 : okCall (fC l A x i) = true := by
    have hc := hok l[i] (List.getElem_mem hi)
    simp only [okCall, fC, ho, Option.getD_some, Bool.and_eq_true, decide_eq_true_eq]
    refine ⟨⟨⟨⟨⟨⟨by omega, by omega⟩, by omega⟩, by omega⟩, hc⟩, by omega⟩, ?_⟩
    rw [if_neg (by omega)]
    exact decide_eq_true (by omega)
  have h2 : behind (fC l A x i) (lastC (oneC l A x l.length) (fC l A x i).cl i) = true := by
    rcases lastCOne (l := l) (A := A) (x := x) (c := (fC l A x i).cl) (n := l.length) (k := i) (by omega) with h | ⟨j, hj, h⟩
    · rw [h]
      simp only [behind, ansd, fC, clZ, Bool.and_eq_true]
      exact ⟨⟨decide_eq_true (by omega), by decide⟩, decide_eq_true (by omega)⟩
    · rw [h]
      simp only [behind, ansd, fC, Bool.and_eq_true]
      exact ⟨⟨decide_eq_true (by omega), decide_eq_true (by omega)⟩, decide_eq_true (by omega)⟩
  rw [h1, h2]
  rfl
theorem one2 : ∀ i, i < l.length → P2 (oneC l A x l.length) (oneP A x l.length) i = false := by
  intro i hi
  rw [P2_at (oneP_at hi), callOfOne hi]
  have h1 : ¬ (fP A x i).tm < prevT (oneP A x l.length) i := by
    rcases i with _ | i
    · show ¬ (3 * ((0 : Nat) : Int) + 1 < 0); omega
    · rw [prevT_succ (oneP_at (A := A) (x := x) (n := l.length) (i := i) (by omega))]
      show ¬ (3 * ((i + 1 : Nat) : Int) + 1 < 3 * (i : Int) + 1)
      omega
  have h2 : hasM (fC l A x i) (fP A x i).tm = true := by
    simp only [hasM, fC, fP, Bool.and_eq_true, Bool.or_eq_true]
    exact ⟨decide_eq_true (by omega), .inr (decide_eq_true (by omega))⟩
  have h3 : lastI ((oneP A x l.length).map pk2) (fP A x i).cl (fP A x i).no i = none := lastI_no fun j hj e => by
    rw [keyP (by omega)] at e
    have := key_eq e
    omega
  rw [decide_eq_false h1, h3]
  show (false || !true || !(hasM (fC l A x i) (fP A x i).tm) || false) = false
  rw [h2]
  rfl
theorem one3 : ∀ i, i < l.length → P3 (oneC l A x l.length) (oneP A x l.length) i = false := by
  intro i hi
  rw [P3_at (oneC_at hi), oneP_len]
  show (!(lastI ((oneP A x l.length).map pk2) ((i % 8 : Nat) : Int) ((i : Int) + 1) l.length).isSome && _) = false
  rw [lastOneP hi]
  rfl
theorem one_ops : opsOf (oneC l A x l.length) (oneP A x l.length) = l := by
  refine List.ext_getElem? fun i => ?_
  by_cases hi : i < l.length
  · rw [opsOf, List.getElem?_map, oneP_at hi]
    show some (callAt (oneC l A x l.length) (fP A x i)).op = _
    rw [callAtOne hi]
    show some ((l[i]?).getD opZ) = _
    rw [List.getElem?_eq_getElem hi]
    rfl
  · rw [List.getElem?_eq_none (by rw [opsOf, List.length_map, oneP_len]; omega), List.getElem?_eq_none (by omega)]
theorem one4 (hA : A = repl (fun _ => []) l) : ∀ i, i < l.length → P4 (oneC l A x l.length) (oneP A x l.length) i = decide ((i : Int) = x) := by
  intro i hi
  rw [P4_at (oneP_at hi), callAtOne hi, one_ops]
  have ho : l[i]? = some l[i] := List.getElem?_eq_getElem hi
  have hAi : (A[i]?) = some (tell (fin (fun _ => []) (l.take i)) l[i]) := by rw [hA]; exact repl_get _ _ _ _ ho
  obtain ⟨a, ha⟩ : ∃ a, tell (fin (fun _ => []) (l.take i)) l[i] = a := ⟨_, rfl⟩
  have hop : (fC l A x i).op = l[i] := by show (l[i]?).getD opZ = _; rw [ho]; rfl
  rw [ha] at hAi
  rw [hop, ha]
  have h2 : decide ((fP A x i).an ≠ (fC l A x i).an) = false := by simp [fP, fC]
  rw [h2, Bool.and_false, Bool.or_false]
  have hb : (fP A x i).an = (if (i : Int) = x then a.1 ++ [33] else a.1, a.2) := by
    show bAn A x i = _
    rw [bAn, hAi]
    rfl
  rw [hb]
  by_cases e : (i : Int) = x
  · rw [if_pos e, decide_eq_true e]
    refine decide_eq_true fun h => ?_
    have := congrArg (fun z : An => z.1.length) h
    simp at this
  · rw [if_neg e, decide_eq_false e]
    exact decide_eq_false fun h => h rfl
/-- Which rule is broken, and where. -/
theorem one_chk (hok : ∀ o ∈ l, chk o.kind o.k o.v o.o = 0) (hn : l.length ≤ 1000) (hA : A = repl (fun _ => []) l) : chkG (oneC l A x l.length) (oneP A x l.length) = if 0 ≤ x ∧ x < (l.length : Int) then (4, x) else (0, 0) := by
  have r0 : Rl (oneC l A x l.length) (oneP A x l.length) 0 = -1 := by show fstB _ _ = -1; rw [oneC_len]; exact fstB_none (one1 hok hn)
  have r1 : Rl (oneC l A x l.length) (oneP A x l.length) 1 = -1 := by show fstB _ _ = -1; rw [oneP_len]; exact fstB_none one2
  have r2 : Rl (oneC l A x l.length) (oneP A x l.length) 2 = -1 := by show fstB _ _ = -1; rw [oneC_len]; exact fstB_none one3
  by_cases hx : 0 ≤ x ∧ x < (l.length : Int)
  · rw [if_pos hx]
    obtain ⟨i, rfl⟩ : ∃ i : Nat, x = i := ⟨x.toNat, by omega⟩
    have hi : i < l.length := by omega
    have r3 : Rl (oneC l A (i : Int) l.length) (oneP A (i : Int) l.length) 3 = i := by
      show fstB _ _ = _
      rw [oneP_len]
      exact fstB_at hi (by rw [one4 hA i hi]; simp) fun j hj => by rw [one4 hA j (by omega)]; exact decide_eq_false (by omega)
    rw [chkG_at (k := 3) (by decide) (fun r hr => ?_) (by rw [r3]; omega), r3]
    · rfl
    · rcases r with _ | _ | _ | r
      · exact r0
      · exact r1
      · exact r2
      · omega
  · rw [if_neg hx]
    refine chkG_none fun r hr => ?_
    rcases r with _ | _ | _ | _ | r
    · exact r0
    · exact r1
    · exact r2
    · show fstB _ _ = -1
      rw [oneP_len]
      exact fstB_none fun i hi => by rw [one4 hA i hi]; exact decide_eq_false (by omega)
    · omega
end
end Go.Proofs.YtdfonbhboncjmaaDoor
