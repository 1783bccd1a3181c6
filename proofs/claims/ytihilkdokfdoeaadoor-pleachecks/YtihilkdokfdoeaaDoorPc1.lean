/- What is put is read: the law's own case, walked. -/
import Derived.Test.YtihilkdokfdoeaaDoorPr1
import Derived.Test.YtihilkdokfdoeaaDoorPlZ
import Derived.Test.YtihilkdokfdoeaaDoorPrY
import Derived.WalkSpells
namespace Go.Proofs.YtihilkdokfdoeaaDoor
section
open Go.RowKit Go.Maps
attribute [local go_sem ↓] Go.wp_at_zero Go.wp_at_succ

def rc1 : Cl := ⟨0, 1, ⟨2, [107], [97], []⟩, 0, 3, ([], 0)⟩
def rc2 : Cl := ⟨0, 2, ⟨1, [107], [], []⟩, 4, 6, ([97], 0)⟩
def rp1 : List Pt := [⟨2, 0, 1, ([], 0)⟩, ⟨5, 0, 2, ([97], 0)⟩]
def rp2 : List Pt := [⟨5, 0, 1, ([], 0)⟩]
theorem rP1 : fstB (P1 [rc1, rc2]) 2 = -1 := by decide +kernel
theorem rP2 : fstB (P2 [rc1, rc2] rp1) 2 = -1 := by decide +kernel
theorem rP3 : fstB (P3 [rc1, rc2] rp1) 2 = -1 := by decide +kernel
theorem rP2b : fstB (P2 [rc1, rc2] rp2) 1 = 0 := by decide +kernel
theorem rAt1 : callAt [rc1, rc2] ⟨2, 0, 1, ([], 0)⟩ = rc1 := rfl
theorem rAt2 : callAt [rc1, rc2] ⟨5, 0, 2, ([97], 0)⟩ = rc2 := rfl
theorem rP4 : fstB (P4 [rc1, rc2] rp1) 2 = -1 := by
  refine fstB_none fun j hj => ?_
  rcases j with _ | _ | j
  · rw [P4_at (p := ⟨2, 0, 1, ([], 0)⟩) rfl, rAt1]
    show (decide (([], (0 : Int)) ≠ ((doR [] 2 [107] [97] []).1, (doR [] 2 [107] [97] []).2.1)) || _) = false
    decide +kernel
  · rw [P4_at (p := ⟨5, 0, 2, ([97], 0)⟩) rfl, rAt2]
    have h : fin (fun _ => []) ((opsOf [rc1, rc2] rp1).take 1) (plcK rc2.op.k) = [([107], [97])] := by
      show putM (fun _ => []) (plcK [107]) (doR [] 2 [107] [97] []).2.2 (plcK [107]) = _
      rw [putM, if_pos rfl]
      decide +kernel
    rw [tell, h]
    decide +kernel
  · omega
theorem rChk1 : chkG [rc1, rc2] rp1 = (0, 0) := chkG_none fun r hr => by
  rcases r with _ | _ | _ | _ | r
  · exact rP1
  · exact rP2
  · exact rP3
  · exact rP4
  · omega
theorem rChk2 : chkG [rc1, rc2] rp2 = (2, 0) := by
  have h := chkG_at (calls := [rc1, rc2]) (pts := rp2) (k := 1) (by decide) (fun r hr => by
    obtain rfl : r = 0 := by omega
    exact rP1) (by show fstB (P2 [rc1, rc2] rp2) 1 ≠ -1; rw [rP2b]; decide)
  rw [h]
  show ((1 : Int) + 1, fstB (P2 [rc1, rc2] rp2) 1) = _
  rw [rP2b]
  rfl
theorem wfK_small {a b : Int} (h1 : 0 ≤ a) (h2 : a ≤ 1000) (h3 : 0 ≤ b) (h4 : b ≤ 1000) : wfK (a, b) := ⟨wf64 (by omega) (by omega), wf64 (by omega) (by omega)⟩
theorem rwc : ∀ c ∈ [rc1, rc2], wfK (ck c) := by
  intro c hc
  rcases List.mem_cons.1 hc with rfl | hc
  · exact wfK_small (by decide) (by decide) (by decide) (by decide)
  · rcases List.mem_singleton.1 hc with rfl
    exact wfK_small (by decide) (by decide) (by decide) (by decide)
theorem rwp1 : ∀ p ∈ rp1, wfK (pk2 p) := by
  intro p hp
  rcases List.mem_cons.1 hp with rfl | hp
  · exact wfK_small (by decide) (by decide) (by decide) (by decide)
  · rcases List.mem_singleton.1 hp with rfl
    exact wfK_small (by decide) (by decide) (by decide) (by decide)
theorem rwp2 : ∀ p ∈ rp2, wfK (pk2 p) := by
  intro p hp
  rcases List.mem_singleton.1 hp with rfl
  exact wfK_small (by decide) (by decide) (by decide) (by decide)
end
section
open Go.RowKit Go.Maps

def opZ : Opr := ⟨0, [], [], []⟩
/-- The answer that is handed in: with a sign more at the wrong place. -/
def bAn (A : List An) (x : Int) (i : Nat) : An := (if (i : Int) = x then ((A[i]?).getD ([], 0)).1 ++ [33] else ((A[i]?).getD ([], 0)).1, ((A[i]?).getD ([], 0)).2)
def fC (l : List Opr) (A : List An) (x : Int) (i : Nat) : Cl := ⟨((i % 8 : Nat) : Int), (i : Int) + 1, (l[i]?).getD opZ, 3 * (i : Int), 3 * (i : Int) + 2, bAn A x i⟩
def fP (A : List An) (x : Int) (i : Nat) : Pt := ⟨3 * (i : Int) + 1, ((i % 8 : Nat) : Int), (i : Int) + 1, bAn A x i⟩
def oneC (l : List Opr) (A : List An) (x : Int) (n : Nat) : List Cl := (List.range n).map (fC l A x)
def oneP (A : List An) (x : Int) (n : Nat) : List Pt := (List.range n).map (fP A x)
theorem oneC_at {l : List Opr} {A : List An} {x : Int} {n i : Nat} (h : i < n) : (oneC l A x n)[i]? = some (fC l A x i) := by
  rw [oneC, List.getElem?_map, List.getElem?_range h]; rfl
theorem oneP_at {A : List An} {x : Int} {n i : Nat} (h : i < n) : (oneP A x n)[i]? = some (fP A x i) := by
  rw [oneP, List.getElem?_map, List.getElem?_range h]; rfl
theorem oneC_len (l : List Opr) (A : List An) (x : Int) (n : Nat) : (oneC l A x n).length = n := by simp [oneC]
theorem oneP_len (A : List An) (x : Int) (n : Nat) : (oneP A x n).length = n := by simp [oneP]
theorem oneC_succ (l : List Opr) (A : List An) (x : Int) (n : Nat) : oneC l A x (n + 1) = oneC l A x n ++ [fC l A x n] := by
  rw [oneC, List.range_succ, List.map_append]; rfl
theorem oneP_succ (A : List An) (x : Int) (n : Nat) : oneP A x (n + 1) = oneP A x n ++ [fP A x n] := by
  rw [oneP, List.range_succ, List.map_append]; rfl
theorem lastI_only {ks : List (Int × Int)} {c m : Int} {n i : Nat} (h : ks[i]? = some (c, m)) (hi : i < n) (hu : ∀ j, j < n → ks[j]? = some (c, m) → j = i) : lastI ks c m n = some i := by
  cases e : lastI ks c m n with
  | none => exact absurd h (lastI_none e i hi)
  | some j =>
    obtain ⟨h1, h2⟩ := lastI_some e
    rw [hu j h1 h2]
theorem lastI_no {ks : List (Int × Int)} {c m : Int} {n : Nat} (hu : ∀ j, j < n → ks[j]? ≠ some (c, m)) : lastI ks c m n = none := by
  cases e : lastI ks c m n with
  | none => rfl
  | some j =>
    obtain ⟨h1, h2⟩ := lastI_some e
    exact absurd h2 (hu j h1)
theorem keyC {l : List Opr} {A : List An} {x : Int} {n i : Nat} (h : i < n) : ((oneC l A x n).map ck)[i]? = some (((i % 8 : Nat) : Int), (i : Int) + 1) := by
  rw [List.getElem?_map, oneC_at h]; rfl
theorem keyP {A : List An} {x : Int} {n i : Nat} (h : i < n) : ((oneP A x n).map pk2)[i]? = some (((i % 8 : Nat) : Int), (i : Int) + 1) := by
  rw [List.getElem?_map, oneP_at h]; rfl
theorem key_eq {i j : Nat} (h : some (((j % 8 : Nat) : Int), (j : Int) + 1) = some (((i % 8 : Nat) : Int), (i : Int) + 1)) : j = i := by
  injection h with h
  injection h with _ h
  omega
theorem lastOneC {l : List Opr} {A : List An} {x : Int} {n i : Nat} (h : i < n) : lastI ((oneC l A x n).map ck) ((i % 8 : Nat) : Int) ((i : Int) + 1) n = some i :=
  lastI_only (keyC h) h fun j hj e => by rw [keyC hj] at e; exact key_eq e
theorem lastOneP {A : List An} {x : Int} {n i : Nat} (h : i < n) : lastI ((oneP A x n).map pk2) ((i % 8 : Nat) : Int) ((i : Int) + 1) n = some i :=
  lastI_only (keyP h) h fun j hj e => by rw [keyP hj] at e; exact key_eq e
theorem callOfOne {l : List Opr} {A : List An} {x : Int} {n i : Nat} (h : i < n) : callOf (oneC l A x n) (fP A x i) = some (fC l A x i) := by
  unfold callOf
  rw [oneC_len]
  show (lastI ((oneC l A x n).map ck) ((i % 8 : Nat) : Int) ((i : Int) + 1) n).bind _ = _
  rw [lastOneC h]
  exact oneC_at h
theorem callAtOne {l : List Opr} {A : List An} {x : Int} {n i : Nat} (h : i < n) : callAt (oneC l A x n) (fP A x i) = fC l A x i := by
  rw [callAt, callOfOne h]; rfl
theorem lastCOne {l : List Opr} {A : List An} {x c : Int} {n : Nat} : ∀ {k : Nat}, k ≤ n → lastC (oneC l A x n) c k = clZ ∨ ∃ j, j < k ∧ lastC (oneC l A x n) c k = fC l A x j
  | 0, _ => .inl rfl
  | k + 1, hk => by
    rw [lastC_succ (oneC_at (l := l) (A := A) (x := x) (n := n) (i := k) (by omega))]
    by_cases e : (fC l A x k).cl = c
    · rw [if_pos e]
      exact .inr ⟨k, by omega, rfl⟩
    · rw [if_neg e]
      rcases lastCOne (l := l) (A := A) (x := x) (c := c) (n := n) (k := k) (by omega) with h | ⟨j, hj, h⟩
      · exact .inl h
      · exact .inr ⟨j, by omega, h⟩
theorem repl_get : ∀ (S : Ms) (l : List Opr) (i : Nat) (o : Opr), l[i]? = some o → (repl S l)[i]? = some (tell (fin S (l.take i)) o)
  | _, [], i, o, h => by simp at h
  | S, a :: l, 0, o, h => by simp at h; subst h; rfl
  | S, a :: l, i + 1, o, h => by
    simp at h
    exact repl_get (next S a) l i o h
section
variable {l : List Opr} {A : List An} {x : Int}
theorem one1 (hok : ∀ o ∈ l, chk o.kind o.k o.v o.o = 0) (hn : l.length ≤ 1000) : ∀ i, i < l.length → P1 (oneC l A x l.length) i = false := by
  intro i hi
  rw [P1_at (oneC_at hi)]
  have ho : l[i]? = some l[i] := List.getElem?_eq_getElem hi
  have h1 : okCall (fC l A x i) = true := by
    have hc := hok l[i] (List.getElem_mem hi)
    simp only [okCall, fC, ho, Option.getD_some, Bool.and_eq_true, decide_eq_true_eq]
    refine ⟨⟨⟨⟨⟨⟨by omega, by omega⟩, by omega⟩, by omega⟩, hc⟩, by omega⟩, ?_⟩
    rw [if_neg (by omega)]
    exact decide_eq_true (by omega)
  have h2 : behind (fC l A x i) (lastC (oneC l A x l.length) (fC l A x i).cl i) = true := by
    rcases lastCOne (l := l) (A := A) (x := x) (c := (fC l A x i).cl) (n := l.length) (k := i) (by omega) with h | ⟨j, hj, h⟩
    · rw [h]
      simp only [behind, ansd, fC, clZ, Bool.and_eq_true]
      exact ⟨⟨decide_eq_true (by omega), by decide⟩, decide_eq_true (by omega)⟩
    · rw [h]
      simp only [behind, ansd, fC, Bool.and_eq_true]
      exact ⟨⟨decide_eq_true (by omega), decide_eq_true (by omega)⟩, decide_eq_true (by omega)⟩
  rw [h1, h2]
  rfl
theorem one2 : ∀ i, i < l.length → P2 (oneC l A x l.length) (oneP A x l.length) i = false := by
  intro i hi
  rw [P2_at (oneP_at hi), callOfOne hi]
  have h1 : ¬ (fP A x i).tm < prevT (oneP A x l.length) i := by
    rcases i with _ | i
    · show ¬ (3 * ((0 : Nat) : Int) + 1 < 0); omega
    · rw [prevT_succ (oneP_at (A := A) (x := x) (n := l.length) (i := i) (by omega))]
      show ¬ (3 * ((i + 1 : Nat) : Int) + 1 < 3 * (i : Int) + 1)
      omega
  have h2 : hasM (fC l A x i) (fP A x i).tm = true := by
    simp only [hasM, fC, fP, Bool.and_eq_true, Bool.or_eq_true]
    exact ⟨decide_eq_true (by omega), .inr (decide_eq_true (by omega))⟩
  have h3 : lastI ((oneP A x l.length).map pk2) (fP A x i).cl (fP A x i).no i = none := lastI_no fun j hj e => by
    rw [keyP (by omega)] at e
    have := key_eq e
    omega
  rw [decide_eq_false h1, h3]
  show (false || !true || !(hasM (fC l A x i) (fP A x i).tm) || false) = false
  rw [h2]
  rfl
theorem one3 : ∀ i, i < l.length → P3 (oneC l A x l.length) (oneP A x l.length) i = false := by
  intro i hi
  rw [P3_at (oneC_at hi), oneP_len]
  show (!(lastI ((oneP A x l.length).map pk2) ((i % 8 : Nat) : Int) ((i : Int) + 1) l.length).isSome && _) = false
  rw [lastOneP hi]
  rfl
theorem one_ops : opsOf (oneC l A x l.length) (oneP A x l.length) = l := by
  refine List.ext_getElem? fun i => ?_
  by_cases hi : i < l.length
  · rw [opsOf, List.getElem?_map, oneP_at hi]
    show some (callAt (oneC l A x l.length) (fP A x i)).op = _
    rw [callAtOne hi]
    show some ((l[i]?).getD opZ) = _
    rw [List.getElem?_eq_getElem hi]
    rfl
  · rw [List.getElem?_eq_none (by rw [opsOf, List.length_map, oneP_len]; omega), List.getElem?_eq_none (by omega)]
theorem one4 (hA : A = repl (fun _ => []) l) : ∀ i, i < l.length → P4 (oneC l A x l.length) (oneP A x l.length) i = decide ((i : Int) = x) := by
  intro i hi
  rw [P4_at (oneP_at hi), callAtOne hi, one_ops]
  have ho : l[i]? = some l[i] := List.getElem?_eq_getElem hi
  have hAi : (A[i]?) = some (tell (fin (fun _ => []) (l.take i)) l[i]) := by rw [hA]; exact repl_get _ _ _ _ ho
  obtain ⟨a, ha⟩ : ∃ a, tell (fin (fun _ => []) (l.take i)) l[i] = a := ⟨_, rfl⟩
  have hop : (fC l A x i).op = l[i] := by show (l[i]?).getD opZ = _; rw [ho]; rfl
  rw [ha] at hAi
  rw [hop, ha]
  have h2 : decide ((fP A x i).an ≠ (fC l A x i).an) = false := by simp [fP, fC]
  rw [h2, Bool.and_false, Bool.or_false]
  have hb : (fP A x i).an = (if (i : Int) = x then a.1 ++ [33] else a.1, a.2) := by
    show bAn A x i = _
    rw [bAn, hAi]
    rfl
  rw [hb]
  by_cases e : (i : Int) = x
  · rw [if_pos e, decide_eq_true e]
    refine decide_eq_true fun h => ?_
    have := congrArg (fun z : An => z.1.length) h
    simp at this
  · rw [if_neg e, decide_eq_false e]
    exact decide_eq_false fun h => h rfl
/-- Which rule is broken, and where. -/
theorem one_chk (hok : ∀ o ∈ l, chk o.kind o.k o.v o.o = 0) (hn : l.length ≤ 1000) (hA : A = repl (fun _ => []) l) : chkG (oneC l A x l.length) (oneP A x l.length) = if 0 ≤ x ∧ x < (l.length : Int) then (4, x) else (0, 0) := by
  have r0 : Rl (oneC l A x l.length) (oneP A x l.length) 0 = -1 := by show fstB _ _ = -1; rw [oneC_len]; exact fstB_none (one1 hok hn)
  have r1 : Rl (oneC l A x l.length) (oneP A x l.length) 1 = -1 := by show fstB _ _ = -1; rw [oneP_len]; exact fstB_none one2
  have r2 : Rl (oneC l A x l.length) (oneP A x l.length) 2 = -1 := by show fstB _ _ = -1; rw [oneC_len]; exact fstB_none one3
  by_cases hx : 0 ≤ x ∧ x < (l.length : Int)
  · rw [if_pos hx]
    obtain ⟨i, rfl⟩ : ∃ i : Nat, x = i := ⟨x.toNat, by omega⟩
    have hi : i < l.length := by omega
    have r3 : Rl (oneC l A (i : Int) l.length) (oneP A (i : Int) l.length) 3 = i := by
      show fstB _ _ = _
      rw [oneP_len]
      exact fstB_at hi (by rw [one4 hA i hi]; simp) fun j hj => by rw [one4 hA j (by omega)]; exact decide_eq_false (by omega)
    rw [chkG_at (k := 3) (by decide) (fun r hr => ?_) (by rw [r3]; omega), r3]
    · rfl
    · rcases r with _ | _ | _ | r
      · exact r0
      · exact r1
      · exact r2
      · omega
  · rw [if_neg hx]
    refine chkG_none fun r hr => ?_
    rcases r with _ | _ | _ | _ | r
    · exact r0
    · exact r1
    · exact r2
    · show fstB _ _ = -1
      rw [oneP_len]
      exact fstB_none fun i hi => by rw [one4 hA i hi]; exact decide_eq_false (by omega)
    · omega
end
end
section
open Go.RowKit Go.Maps

/-- Where a call's point stands. -/
def atP (pts : List Pt) (c : Cl) : Int := fstB (fun i => decide ((pts.map pk2)[i]? = some (ck c))) pts.length
theorem fstB_some {P : Nat → Bool} {n : Nat} (h : 0 ≤ fstB P n) : ∃ i : Nat, fstB P n = i ∧ i < n ∧ P i = true := by
  unfold fstB at h ⊢
  cases e : (List.range n).find? P with
  | none => rw [e] at h; exact absurd h (by decide)
  | some i =>
    have := List.find?_some e
    have h2 := List.mem_of_find?_eq_some e
    exact ⟨i, rfl, List.mem_range.1 h2, this⟩
theorem fstB_neg {P : Nat → Bool} {n : Nat} (h : fstB P n < 0) : ∀ j, j < n → P j = false := by
  refine fstB_inv ?_
  unfold fstB at h ⊢
  cases e : (List.range n).find? P with
  | none => rfl
  | some i => rw [e] at h; exact absurd h (by show ¬ ((i : Int) < 0); omega)
theorem chkG_inv {calls : List Cl} {pts : List Pt} (h : (chkG calls pts).1 = 0) : ∀ r, r < 4 → Rl calls pts r = -1 := by
  unfold chkG at h
  by_cases e0 : Rl calls pts 0 = -1
  · rw [if_neg (fun f => f e0)] at h
    by_cases e1 : Rl calls pts 1 = -1
    · rw [if_neg (fun f => f e1)] at h
      by_cases e2 : Rl calls pts 2 = -1
      · rw [if_neg (fun f => f e2)] at h
        by_cases e3 : Rl calls pts 3 = -1
        · intro r hr
          rcases r with _ | _ | _ | _ | r
          · exact e0
          · exact e1
          · exact e2
          · exact e3
          · omega
        · rw [if_pos e3] at h; exact absurd h (by simp)
      · rw [if_pos e2] at h; exact absurd h (by simp)
    · rw [if_pos e1] at h; exact absurd h (by simp)
  · rw [if_pos e0] at h; exact absurd h (by simp)
/-- No rule is broken. -/
structure Kept (calls : List Cl) (pts : List Pt) : Prop where
  r1 : ∀ i, i < calls.length → P1 calls i = false
  r2 : ∀ i, i < pts.length → P2 calls pts i = false
  r3 : ∀ i, i < calls.length → P3 calls pts i = false
  r4 : ∀ i, i < pts.length → P4 calls pts i = false
theorem Kept.of {calls : List Cl} {pts : List Pt} (h : (chkG calls pts).1 = 0) : Kept calls pts :=
  ⟨fstB_inv (chkG_inv h 0 (by decide)), fstB_inv (chkG_inv h 1 (by decide)), fstB_inv (chkG_inv h 2 (by decide)), fstB_inv (chkG_inv h 3 (by decide))⟩
section
variable {calls : List Cl} {pts : List Pt}
theorem Kept.behind (h : Kept calls pts) {i : Nat} {c : Cl} (hc : calls[i]? = some c) : okCall c = true ∧ (lastC calls c.cl i).no < c.no := by
  have hi := (List.getElem?_eq_some_iff.1 hc).1
  have := h.r1 i hi
  rw [P1_at hc, Bool.or_eq_false_iff, Bool.not_eq_false', Bool.not_eq_false'] at this
  refine ⟨this.1, ?_⟩
  have h2 := this.2
  simp only [Go.Proofs.YtihilkdokfdoeaaDoor.behind, Bool.and_eq_true, decide_eq_true_eq] at h2
  exact h2.1.1
theorem Kept.last (h : Kept calls pts) : ∀ n, n ≤ calls.length → ∀ i x, i < n → calls[i]? = some x → x.no ≤ (lastC calls x.cl n).no
  | 0, _, i, x, hi, _ => by omega
  | n + 1, hn, i, x, hi, hx => by
    obtain ⟨y, hy⟩ : ∃ y, calls[n]? = some y := ⟨_, List.getElem?_eq_getElem (by omega)⟩
    rw [lastC_succ hy]
    by_cases e : y.cl = x.cl
    · rw [if_pos e]
      by_cases ei : i = n
      · subst ei
        rw [hy] at hx
        injection hx with hx
        subst hx
        omega
      · have h1 := Kept.last h n (by omega) i x (by omega) hx
        have h2 := (h.behind hy).2
        rw [e] at h2
        omega
    · rw [if_neg e]
      have ei : i ≠ n := fun ei => by
        subst ei
        rw [hy] at hx
        injection hx with hx
        exact e (by rw [hx])
      exact Kept.last h n (by omega) i x (by omega) hx
theorem Kept.lt_uniq (h : Kept calls pts) {i j : Nat} {x y : Cl} (hx : calls[i]? = some x) (hy : calls[j]? = some y) (hk : ck x = ck y) (hij : i < j) : False := by
  have hj := (List.getElem?_eq_some_iff.1 hy).1
  have h1 := h.last j (by omega) i x hij hx
  have h2 := (h.behind hy).2
  have e1 : x.cl = y.cl := congrArg Prod.fst hk
  have e2 : x.no = y.no := congrArg Prod.snd hk
  rw [e1] at h1
  omega
theorem Kept.uniq (h : Kept calls pts) {i j : Nat} {x y : Cl} (hx : calls[i]? = some x) (hy : calls[j]? = some y) (hk : ck x = ck y) : i = j := by
  rcases Nat.lt_trichotomy i j with e | e | e
  · exact (h.lt_uniq hx hy hk e).elim
  · exact e
  · exact (h.lt_uniq hy hx hk.symm e).elim
/-- A point's own call. -/
theorem Kept.own (h : Kept calls pts) {i : Nat} {p : Pt} (hp : pts[i]? = some p) : ∃ (j : Nat) (c : Cl), calls[j]? = some c ∧ ck c = pk2 p ∧ callOf calls p = some c ∧ hasM c p.tm = true ∧ prevT pts i ≤ p.tm := by
  have hi := (List.getElem?_eq_some_iff.1 hp).1
  have h2 := h.r2 i hi
  rw [P2_at hp] at h2
  simp only [Bool.or_eq_false_iff, Bool.not_eq_false', decide_eq_false_iff_not] at h2
  obtain ⟨⟨⟨h3, h4⟩, h5⟩, -⟩ := h2
  cases e : lastI (calls.map ck) p.cl p.no calls.length with
  | none => rw [callOf, e] at h4; cases h4
  | some j =>
    obtain ⟨c, hc, _, hco⟩ := callOf_lt e
    obtain ⟨_, hk⟩ := lastI_some e
    rw [List.getElem?_map, hc] at hk
    have hk' : ck c = (p.cl, p.no) := Option.some.inj hk
    rw [hco] at h5
    exact ⟨j, c, hc, hk', hco, h5, by omega⟩
theorem Kept.mono (h : Kept calls pts) : ∀ (d : Nat) (k : Nat) (p q : Pt), pts[k]? = some p → pts[k + d]? = some q → p.tm ≤ q.tm
  | 0, k, p, q, hp, hq => by rw [Nat.add_zero, hp] at hq; injection hq with hq; subst hq; omega
  | d + 1, k, p, q, hp, hq => by
    have hi := (List.getElem?_eq_some_iff.1 hq).1
    obtain ⟨r, hr⟩ : ∃ r, pts[k + d]? = some r := ⟨_, List.getElem?_eq_getElem (by omega)⟩
    have h1 := Kept.mono h d k p r hp hr
    obtain ⟨_, _, _, _, _, _, h2⟩ := h.own (i := k + d + 1) hq
    have e : prevT pts (k + d + 1) = r.tm := by show (match pts[k + d]? with | some p => p.tm | none => 0) = r.tm; rw [hr]
    rw [e] at h2
    omega
theorem at_key {c : Cl} {i : Nat} (h : decide ((pts.map pk2)[i]? = some (ck c)) = true) : ∃ p, pts[i]? = some p ∧ pk2 p = ck c := by
  have h := of_decide_eq_true h
  rw [List.getElem?_map] at h
  cases e : pts[i]? with
  | none => rw [e] at h; cases h
  | some p => rw [e] at h; exact ⟨p, rfl, Option.some.inj h⟩
/-- Each call that was answered has a point. -/
theorem Kept.there (h : Kept calls pts) {i : Nat} {a : Cl} (ha : calls[i]? = some a) (ht : a.tt ≠ -1) : 0 ≤ atP pts a := by
  have hi := (List.getElem?_eq_some_iff.1 ha).1
  have h3 := h.r3 i hi
  rw [P3_at ha, decide_eq_true ht, Bool.and_true, Bool.not_eq_false'] at h3
  cases e : lastI (pts.map pk2) a.cl a.no pts.length with
  | none => rw [e] at h3; cases h3
  | some j =>
    obtain ⟨hj, hk⟩ := lastI_some e
    refine Int.not_lt.1 fun hn => ?_
    have := fstB_neg hn j hj
    exact of_decide_eq_false this hk
/-- No call that was answered ahead of another one's asking stands behind it. -/
theorem Kept.order (h : Kept calls pts) {i j : Nat} {a b : Cl} (ha : calls[i]? = some a) (hb : calls[j]? = some b) (ht : a.tt ≠ -1) (hab : a.tt < b.fr) (hk : 0 ≤ atP pts b) : ¬ atP pts b ≤ atP pts a := by
  intro hle
  obtain ⟨k, e1, _, h1⟩ := fstB_some hk
  obtain ⟨m, e2, _, h2⟩ := fstB_some (show 0 ≤ atP pts a by omega)
  obtain ⟨p, hp, kp⟩ := at_key h1
  obtain ⟨q, hq, kq⟩ := at_key h2
  have hkm : k ≤ m := by
    have e1' : atP pts b = k := e1
    have e2' : atP pts a = m := e2
    omega
  obtain ⟨jp, cp, g1, g2, _, g3, _⟩ := h.own hp
  obtain ⟨jq, cq, f1, f2, _, f3, _⟩ := h.own hq
  have u1 := h.uniq g1 hb (g2.trans kp)
  have u2 := h.uniq f1 ha (f2.trans kq)
  subst u1
  subst u2
  rw [hb] at g1
  rw [ha] at f1
  injection g1 with g1
  injection f1 with f1
  subst g1
  subst f1
  simp only [hasM, Bool.and_eq_true, Bool.or_eq_true, decide_eq_true_eq] at g3 f3
  have hm := h.mono (m - k) k p q hp (by rw [show k + (m - k) = m by omega]; exact hq)
  rcases f3.2 with e | e
  · exact ht e
  · omega
/-- The operations of a point's calls, of the first m. -/
def mt (calls : List Cl) (p : Pt) : Nat → List Opr
  | 0 => []
  | m + 1 => mt calls p m ++ (match calls[m]? with | some c => if c.cl = p.cl ∧ c.no = p.no then [c.op] else [] | none => [])
theorem mt_succ {p : Pt} {m : Nat} {c : Cl} (h : calls[m]? = some c) : mt calls p (m + 1) = mt calls p m ++ (if c.cl = p.cl ∧ c.no = p.no then [c.op] else []) := by
  show mt calls p m ++ (match calls[m]? with | some c => if c.cl = p.cl ∧ c.no = p.no then [c.op] else [] | none => []) = _
  rw [h]
theorem Kept.mt_at (h : Kept calls pts) {i : Nat} {p : Pt} (hp : pts[i]? = some p) : ∃ j, j < calls.length ∧ ∀ m, m ≤ calls.length → mt calls p m = if j < m then [(callAt calls p).op] else [] := by
  obtain ⟨j, c, hc, hk, hco, _, _⟩ := h.own hp
  have hj := (List.getElem?_eq_some_iff.1 hc).1
  have hca : callAt calls p = c := by rw [callAt, hco]; rfl
  refine ⟨j, hj, fun m => ?_⟩
  rw [hca]
  induction m with
  | zero => intro _; rfl
  | succ m ih =>
    intro hm
    obtain ⟨y, hy⟩ : ∃ y, calls[m]? = some y := ⟨_, List.getElem?_eq_getElem (by omega)⟩
    rw [mt_succ hy, ih (by omega)]
    by_cases e : y.cl = p.cl ∧ y.no = p.no
    · have : m = j := h.uniq hy hc (by rw [hk]; exact Prod.ext e.1 e.2)
      subst this
      rw [hc] at hy
      injection hy with hy
      subst hy
      rw [if_pos e, if_neg (by omega), if_pos (by omega)]
      rfl
    · have : m ≠ j := fun e2 => by
        subst e2
        rw [hc] at hy
        injection hy with hy
        subst hy
        exact e ⟨congrArg Prod.fst hk, congrArg Prod.snd hk⟩
      rw [if_neg e, List.append_nil]
      by_cases e3 : j < m
      · rw [if_pos e3, if_pos (by omega)]
      · rw [if_neg e3, if_neg (by omega)]
theorem Kept.mt_all (h : Kept calls pts) {i : Nat} {p : Pt} (hp : pts[i]? = some p) : mt calls p calls.length = [(callAt calls p).op] := by
  obtain ⟨j, hj, hm⟩ := h.mt_at hp
  rw [hm _ (Nat.le_refl _), if_pos hj]
theorem Kept.mt_len (h : Kept calls pts) {i : Nat} {p : Pt} (hp : pts[i]? = some p) {m : Nat} (hm : m ≤ calls.length) : (mt calls p m).length ≤ 1 := by
  obtain ⟨j, _, he⟩ := h.mt_at hp
  rw [he m hm]
  split
  · exact Nat.le_refl _
  · exact Nat.zero_le _
/-- Each point's answer is what one map tells there. -/
theorem Kept.told (h : Kept calls pts) {i : Nat} {p : Pt} (hp : pts[i]? = some p) : (repl (fun _ => []) (opsOf calls pts))[i]? = some p.an := by
  have hi := (List.getElem?_eq_some_iff.1 hp).1
  have h4 := h.r4 i hi
  rw [P4_at hp, Bool.or_eq_false_iff] at h4
  have h5 := of_decide_eq_false h4.1
  have ho : (opsOf calls pts)[i]? = some (callAt calls p).op := by rw [opsOf, List.getElem?_map, hp]; rfl
  rw [repl_get _ _ _ _ ho]
  exact congrArg some (Classical.not_not.1 h5).symm
theorem opsOf_len (calls : List Cl) (pts : List Pt) : (opsOf calls pts).length = pts.length := by simp [opsOf]
end
end
section
open Go.RowKit Go.Maps
attribute [local go_sem ↓] Go.wp_at_zero Go.wp_at_succ

/-- The first call of a point. -/
def fnI (calls : List Cl) (p : Pt) : Int := fstB (fun i => decide ((calls.map ck)[i]? = some (pk2 p))) calls.length
set_option maxRecDepth 20000 in
set_option maxHeartbeats 1500000 in
theorem find_any (calls : List Cl) (p : Pt) (vc : Value) (w : World) (hc : SlF ccs 10 w vc calls) (hl : calls.length ≤ 100000) : Calls Tryd.prog 33 #[vc, ptV p] w fun e W' => e = .returned (.int .i64 (fnI calls p)) ∧ Below w.heap.size w W' := by
  obtain ⟨va, vcap, rfl⟩ := hc.slice
  obtain ⟨P, hP⟩ : ∃ P : Nat → Bool, (fun i => decide ((calls.map ck)[i]? = some (pk2 p))) = P := ⟨_, rfl⟩
  have hF : fnI calls p = fstB P calls.length := by rw [fnI, hP]
  have hPi : ∀ i c, calls[i]? = some c → P i = (decide (c.cl = p.cl) && decide (c.no = p.no)) := fun i c h => by
    rw [← hP]
    show decide ((calls.map ck)[i]? = some (pk2 p)) = _
    rw [List.getElem?_map, h]
    show decide (some (c.cl, c.no) = some (p.cl, p.no)) = _
    rw [Bool.eq_iff_iff]
    simp
  rw [hF]
  obtain ⟨tm, pcl, pno, pT, pE⟩ := p
  show Calls Tryd.prog 33 #[.slice va calls.length vcap, .agg #[.int .i64 tm, .int .i64 pcl, .int .i64 pno, .int .i64 pE, .string (bs pT)]] w _
  obtain ⟨N, hN⟩ : ∃ N, w.heap.size = N := ⟨_, rfl⟩
  obtain ⟨W2, hW2⟩ : ∃ W, w.alloc (.cells #[.int .i64 tm, .int .i64 pcl, .int .i64 pno, .int .i64 pE, .string (bs pT)] 53) = W := ⟨_, rfl⟩
  have hb1 : Below N w W2 := by rw [← hW2, ← hN]; exact (Below.refl _ w).alloc (Nat.le_refl _) _
  have z0 := heap_alloc_new w (.cells #[.int .i64 tm, .int .i64 pcl, .int .i64 pno, .int .i64 pE, .string (bs pT)] 53)
  rw [hW2, hN] at z0
  have HV : Hid (∀ W, Below N w W → SlF ccs 10 W (.slice va calls.length vcap) calls) := fun W hW => hc.on hW (by omega)
  have HW : Hid (w.alloc (.cells #[.int .i64 tm, .int .i64 pcl, .int .i64 pno, .int .i64 pE, .string (bs pT)] 53) = W2) := hW2
  have HN : Hid (w.heap.size = N) := hN
  have HZ : Hid (W2.heap[N]? = some (.cells #[.int .i64 tm, .int .i64 pcl, .int .i64 pno, .int .i64 pE, .string (bs pT)] 53) ∧ Below N w W2 ∧ N < W2.heap.size) := ⟨z0, hb1, by rw [← hW2, ← hN, World.size_alloc]; omega⟩
  have HPi : Hid (∀ i c, calls[i]? = some c → P i = (decide (c.cl = pcl) && decide (c.no = pno))) := hPi
  clear hc hP hF hPi hb1 z0 hW2 hN
  go_enter Tryd.func33, Tryd.ntmps33
  go_upto_region 1 with fail
  rw [HW.out]
  try rw [HN.out]
  go_wp2_with fail
  go_loopg [9] calls.length (fun gk i wr => ∃ n : Nat, n + gk = calls.length ∧ i = .int .i64 n ∧ (∀ j, j < n → P j = false) ∧ Below (N + 1) W2 wr)
  case atStart => exact ⟨0, by omega, rfl, fun i hi => by omega, Below.refl _ _⟩
  case round =>
    obtain ⟨n, hnn, rfl, hP, hB⟩ := hrel
    have hBN := HZ.out.2.1.trans (hB.mono (by omega))
    by_cases hn1 : n = calls.length
    · subst hn1
      have HF : Hid (fstB P calls.length = -1 ∧ Below N w wr) := ⟨fstB_none hP, hBN⟩
      clear hP hB hBN HV HZ
      go_wp2
      go_ret
      rw [HF.out.1]
      exact ⟨rfl, by rw [HN.out]; exact HF.out.2⟩
    have hn2 : n < calls.length := by omega
    obtain ⟨c, ho⟩ : ∃ c, calls[n]? = some c := ⟨_, List.getElem?_eq_getElem hn2⟩
    have hPn := HPi.out n c ho
    obtain ⟨g, e', hg', -, y⟩ := (HV.out _ hBN).at ho
    subst hg'
    obtain ⟨cl, no, ⟨kind, k, v, od⟩, fr, tt, T, E⟩ := c
    have y0 : wr.cell? ⟨g, e' + n * 10, none⟩ = some (.int .i64 cl) := y 0 _ rfl
    have y1 : wr.cell? ⟨g, e' + n * 10 + 1, none⟩ = some (.int .i64 no) := y 1 _ rfl
    have y2 : wr.cell? ⟨g, e' + n * 10 + 2, none⟩ = some (.int .i64 kind) := y 2 _ rfl
    have y3 : wr.cell? ⟨g, e' + n * 10 + 3, none⟩ = some (.string (bs k)) := y 3 _ rfl
    have y4 : wr.cell? ⟨g, e' + n * 10 + 4, none⟩ = some (.string (bs v)) := y 4 _ rfl
    have y5 : wr.cell? ⟨g, e' + n * 10 + 5, none⟩ = some (.string (bs od)) := y 5 _ rfl
    have y6 : wr.cell? ⟨g, e' + n * 10 + 6, none⟩ = some (.int .i64 fr) := y 6 _ rfl
    have y7 : wr.cell? ⟨g, e' + n * 10 + 7, none⟩ = some (.int .i64 tt) := y 7 _ rfl
    have y8 : wr.cell? ⟨g, e' + n * 10 + 8, none⟩ = some (.int .i64 E) := y 8 _ rfl
    have y9 : wr.cell? ⟨g, e' + n * 10 + 9, none⟩ = some (.string (bs T)) := y 9 _ rfl
    have d0 : (0 : Int) ≤ (n : Int) := by omega
    have d1 : (n : Int) < (calls.length : Int) := by omega
    obtain ⟨D, hD⟩ : ∃ D, wr.heap.size = D := ⟨_, rfl⟩
    have hDN : N + 1 ≤ D := by have := hB.size; have := HZ.out.2.2; omega
    have rD := heap_alloc_new wr (.cells #[.int .i64 cl, .int .i64 no, .int .i64 kind, .string (bs k), .string (bs v), .string (bs od), .int .i64 fr, .int .i64 tt, .int .i64 E, .string (bs T)] 45)
    have hbA := (Below.refl wr.heap.size wr).alloc (Nat.le_refl _) (.cells #[.int .i64 cl, .int .i64 no, .int .i64 kind, .string (bs k), .string (bs v), .string (bs od), .int .i64 fr, .int .i64 tt, .int .i64 E, .string (bs T)] 45)
    obtain ⟨WA, hWA⟩ : ∃ W, wr.alloc (.cells #[.int .i64 cl, .int .i64 no, .int .i64 kind, .string (bs k), .string (bs v), .string (bs od), .int .i64 fr, .int .i64 tt, .int .i64 E, .string (bs T)] 45) = W := ⟨_, rfl⟩
    rw [hWA] at rD hbA
    rw [hD] at rD hbA
    have x0 := cellB rD 0 _ rfl
    have x1 := cellB rD 1 _ rfl
    have zA := (((hB.trans (hbA.mono hDN)).block N (by omega))).trans HZ.out.1
    have c1 := cellB zA 1 _ rfl
    have c2 := cellB zA 2 _ rfl
    have HA : Hid (Below (N + 1) W2 WA) := hB.trans (hbA.mono hDN)
    have HP : Hid (∀ j, j < n → P j = false) := hP
    have HPn : Hid (P n = (decide (cl = pcl) && decide (no = pno))) := hPn
    have HWA : Hid (wr.alloc (.cells #[.int .i64 cl, .int .i64 no, .int .i64 kind, .string (bs k), .string (bs v), .string (bs od), .int .i64 fr, .int .i64 tt, .int .i64 E, .string (bs T)] 45) = WA) := hWA
    have HD : Hid (wr.heap.size = D) := hD
    clear hP hB hBN hPn y hD hDN rD hbA hWA zA ho
    go_upto_region 4 with fail
    rw [HWA.out]
    try rw [HD.out]
    clear y0 y1 y2 y3 y4 y5 y6 y7 y8 y9 HWA HD
    by_cases e : cl = pcl ∧ no = pno
    · have e1 : (cl == pcl) = true := by simpa using e.1
      have e2 : (no == pno) = true := by simpa using e.2
      have HF : Hid (fstB P calls.length = n ∧ Below N w WA) := ⟨fstB_at hn2 (by rw [HPn.out, decide_eq_true e.1, decide_eq_true e.2]; rfl) HP.out, HZ.out.2.1.trans (HA.out.mono (by omega))⟩
      clear e HP HPn HA HV HZ
      go_wp2
      go_ret
      rw [HF.out.1]
      exact ⟨rfl, by rw [HN.out]; exact HF.out.2⟩
    · have HPN : Hid (∀ j, j < n + 1 → P j = false) := fun j hj => by
        by_cases ej : j = n
        · subst ej
          rw [HPn.out, ← Bool.decide_and]
          exact decide_eq_false e
        · exact HP.out j (by omega)
      by_cases e1 : cl = pcl
      · have e3 : (cl == pcl) = true := by simpa using e1
        have e2 : (no == pno) = false := by simpa using fun h => e ⟨e1, h⟩
        clear e e1 HP HPn HV HZ
        go_wp2
        go_roundg (calls.length - (n + 1))
        case measure => omega
        case rel => exact ⟨n + 1, by omega, by go_num, HPN.out, HA.out⟩
      · have e3 : (cl == pcl) = false := by simpa using e1
        clear e e1 HP HPn HV HZ
        go_wp2
        go_roundg (calls.length - (n + 1))
        case measure => omega
        case rel => exact ⟨n + 1, by omega, by go_num, HPN.out, HA.out⟩
end
section
open Go.RowKit Go.Maps
attribute [local go_sem ↓] Go.wp_at_zero Go.wp_at_succ

end
section
open Go.RowKit Go.Maps
attribute [local go_sem ↓] Go.wp_at_zero Go.wp_at_succ

theorem neq45 (E : Int) (t : List UInt8) (w : World) : (binOp .neq 43 (.agg #[.int .i64 E, .string (bs t)]) (.agg #[.int .i64 0, .string ⟨#[]⟩])).run Tryd.prog w = .ok (.bool (decide ((t, E) ≠ ([], 0)))) w := by
  show (binOp .neq 43 (.agg #[.int .i64 E, .string (bs t)]) (.agg #[.int .i64 0, .string (bs [])])).run Tryd.prog w = _
  go_simp
  rw [bs_tl, bs_tl]
  by_cases h1 : E = 0
  · by_cases h2 : t = []
    · simp [h1, h2]
    · simp [h1, h2]
  · simp [h1]
/-- A call ahead of which this one can't stand. -/
def badB (calls : List Cl) (c : Cl) (k : Nat) : Bool := match calls[k]? with
  | some b => decide (b.cl = c.cl) && (decide (c.no ≤ b.no) || decide (b.tt = -1) || decide (c.fr < b.tt))
  | none => false
theorem badB_at {calls : List Cl} {c b : Cl} {k : Nat} (h : calls[k]? = some b) : badB calls c k = (decide (b.cl = c.cl) && (decide (c.no ≤ b.no) || decide (b.tt = -1) || decide (c.fr < b.tt))) := by
  rw [badB, h]
def rOne (calls : List Cl) (i : Nat) : Bool := match calls[i]? with
  | some c => okCall c && decide (fstB (badB calls c) i = -1)
  | none => false
theorem rOne_at {calls : List Cl} {i : Nat} {c : Cl} (h : calls[i]? = some c) : rOne calls i = (okCall c && decide (fstB (badB calls c) i = -1)) := by
  rw [rOne, h]
set_option maxRecDepth 20000 in
set_option maxHeartbeats 4000000 in
theorem rone_any (calls : List Cl) (i : Nat) (vc : Value) (w : World) (hc : SlF ccs 10 w vc calls) (hi : i < calls.length) (hl : calls.length ≤ 100000) : Calls Tryd.prog 31 #[vc, .int .i64 i] w fun e W' => e = .returned (.bool (rOne calls i)) ∧ Below w.heap.size w W' := by
  obtain ⟨va, vcap, rfl⟩ := hc.slice
  obtain ⟨c, ho⟩ : ∃ c, calls[i]? = some c := ⟨_, List.getElem?_eq_getElem hi⟩
  have hR := rOne_at ho
  have hBd := fun k b (h : calls[k]? = some b) => badB_at (c := c) h
  obtain ⟨P, hP⟩ : ∃ P, badB calls c = P := ⟨_, rfl⟩
  rw [hP] at hR
  rw [hP] at hBd
  obtain ⟨R, hRe⟩ : ∃ R, rOne calls i = R := ⟨_, rfl⟩
  rw [hRe] at hR ⊢
  obtain ⟨g, e', hg', -, y⟩ := hc.at ho
  subst hg'
  obtain ⟨N, hN⟩ : ∃ N, w.heap.size = N := ⟨_, rfl⟩
  have HV : Hid (∀ W, Below N w W → SlF ccs 10 W (.slice (some ⟨g, e', none⟩) calls.length vcap) calls) := fun W hW => hc.on hW (by omega)
  obtain ⟨OK, hOK⟩ : ∃ x, okCall c = x := ⟨_, rfl⟩
  rw [hOK] at hR
  obtain ⟨cl, no, ⟨kind, k, v, od⟩, fr, tt, T, E⟩ := c
  have hBd' : ∀ (k : Nat) b, calls[k]? = some b → P k = (decide (b.cl = cl) && (decide (no ≤ b.no) || decide (b.tt = -1) || decide (fr < b.tt))) := hBd
  have hOK' : (decide (0 ≤ cl) && decide (cl < 8) && decide (1 ≤ no) && decide (no ≤ 1099511627776) && decide (chk kind k v od = 0) && decide (0 ≤ fr) && (if tt = -1 then decide ((T, E) = (([], 0) : An)) else decide (fr ≤ tt))) = OK := hOK
  clear hBd hP hRe hOK
  have HK : Hid (∀ W, Calls Tryd.prog 39 #[.agg #[.int .i64 kind, .string (bs k), .string (bs v), .string (bs od)]] W fun e W' => e = .returned (.int .i64 (chk kind k v od)) ∧ Below W.heap.size W W') := fun W => rCheck_any kind k v od W
  obtain ⟨X, hX⟩ : ∃ X, chk kind k v od = X := ⟨_, rfl⟩
  rw [hX] at HK hOK'
  clear hX
  have y0 : w.cell? ⟨g, e' + i * 10, none⟩ = some (.int .i64 cl) := y 0 _ rfl
  have y1 : w.cell? ⟨g, e' + i * 10 + 1, none⟩ = some (.int .i64 no) := y 1 _ rfl
  have y2 : w.cell? ⟨g, e' + i * 10 + 2, none⟩ = some (.int .i64 kind) := y 2 _ rfl
  have y3 : w.cell? ⟨g, e' + i * 10 + 3, none⟩ = some (.string (bs k)) := y 3 _ rfl
  have y4 : w.cell? ⟨g, e' + i * 10 + 4, none⟩ = some (.string (bs v)) := y 4 _ rfl
  have y5 : w.cell? ⟨g, e' + i * 10 + 5, none⟩ = some (.string (bs od)) := y 5 _ rfl
  have y6 : w.cell? ⟨g, e' + i * 10 + 6, none⟩ = some (.int .i64 fr) := y 6 _ rfl
  have y7 : w.cell? ⟨g, e' + i * 10 + 7, none⟩ = some (.int .i64 tt) := y 7 _ rfl
  have y8 : w.cell? ⟨g, e' + i * 10 + 8, none⟩ = some (.int .i64 E) := y 8 _ rfl
  have y9 : w.cell? ⟨g, e' + i * 10 + 9, none⟩ = some (.string (bs T)) := y 9 _ rfl
  have d0 : (0 : Int) ≤ (i : Int) := by omega
  have d1 : (i : Int) < (calls.length : Int) := by omega
  have rD := heap_alloc_new w (.cells #[.int .i64 cl, .int .i64 no, .int .i64 kind, .string (bs k), .string (bs v), .string (bs od), .int .i64 fr, .int .i64 tt, .int .i64 E, .string (bs T)] 45)
  have hbA := (Below.refl w.heap.size w).alloc (Nat.le_refl _) (.cells #[.int .i64 cl, .int .i64 no, .int .i64 kind, .string (bs k), .string (bs v), .string (bs od), .int .i64 fr, .int .i64 tt, .int .i64 E, .string (bs T)] 45)
  obtain ⟨WA, hWA⟩ : ∃ W, w.alloc (.cells #[.int .i64 cl, .int .i64 no, .int .i64 kind, .string (bs k), .string (bs v), .string (bs od), .int .i64 fr, .int .i64 tt, .int .i64 E, .string (bs T)] 45) = W := ⟨_, rfl⟩
  have hzA : WA.heap.size = N + 1 := by rw [← hWA, World.size_alloc, hN]
  rw [hWA] at rD hbA
  rw [hN] at rD hbA
  obtain ⟨D, hD⟩ : ∃ D, N = D := ⟨_, rfl⟩
  rw [hD] at rD
  have x0 := cellB rD 0 _ rfl
  have x1 := cellB rD 1 _ rfl
  have x2 := cellB rD 2 _ rfl
  have x3 := cellB rD 3 _ rfl
  have x4 := cellB rD 4 _ rfl
  have x5 := cellB rD 5 _ rfl
  have x6 := cellB rD 6 _ rfl
  have x7 := cellB rD 7 _ rfl
  have x8 := cellB rD 8 _ rfl
  have x9 := cellB rD 9 _ rfl
  have HA : Hid (WA.heap[D]? = some (.cells #[.int .i64 cl, .int .i64 no, .int .i64 kind, .string (bs k), .string (bs v), .string (bs od), .int .i64 fr, .int .i64 tt, .int .i64 E, .string (bs T)] 45) ∧ Below N w WA ∧ D + 1 ≤ WA.heap.size) := ⟨rD, hbA, by omega⟩
  have HND : Hid (N ≤ D + 1) := by
    have : N ≤ D + 1 := by omega
    exact this
  have HDN : Hid (w.heap.size = D) := hN.trans hD
  have HWA : Hid (w.alloc (.cells #[.int .i64 cl, .int .i64 no, .int .i64 kind, .string (bs k), .string (bs v), .string (bs od), .int .i64 fr, .int .i64 tt, .int .i64 E, .string (bs T)] 45) = WA) := hWA
  have HN : Hid (w.heap.size = N) := hN
  have HBd : Hid (_) := hBd'
  have HL : Hid (i < calls.length ∧ calls.length ≤ 100000) := ⟨hi, hl⟩
  have HR0 : Hid (R = (OK && decide (fstB P i = -1))) := hR
  clear hR hc ho y rD hbA hWA hzA hN hD hBd' hi hl
  have h45 := fun W => neq45 E T W
  go_enter Tryd.func31, Tryd.ntmps31
  go_upto_region 2 with fail
  rw [HWA.out]
  try rw [HDN.out]
  clear y0 y1 y2 y3 y4 y5 y6 y7 y8 y9 HWA
  by_cases h1 : 0 ≤ cl
  rotate_left
  · have HR : Hid (R = false) := by
      have : OK = false := by rw [← hOK', decide_eq_false h1]; simp
      show _ = _
      rw [HR0.out, this]; rfl
    have h1' : cl < 0 := by omega
    clear hOK'
    go_wp2
    all_goals first
      | (go_ret; exact ⟨by rw [HR.out]; first | rfl | simp, by rw [HN.out]; exact HA.out.2.1⟩)
      | (exfalso; omega)
  by_cases h2 : cl < 8
  rotate_left
  · have HR : Hid (R = false) := by
      have : OK = false := by rw [← hOK', decide_eq_false h2]; simp
      show _ = _
      rw [HR0.out, this]; rfl
    have h2' : 7 < cl := by omega
    clear hOK'
    go_wp2
    all_goals first
      | (go_ret; exact ⟨by rw [HR.out]; first | rfl | simp, by rw [HN.out]; exact HA.out.2.1⟩)
      | (exfalso; omega)
  by_cases h3 : 1 ≤ no
  rotate_left
  · have HR : Hid (R = false) := by
      have : OK = false := by rw [← hOK', decide_eq_false h3]; simp
      show _ = _
      rw [HR0.out, this]; rfl
    have h3' : no < 1 := by omega
    clear hOK'
    go_wp2
    all_goals first
      | (go_ret; exact ⟨by rw [HR.out]; first | rfl | simp, by rw [HN.out]; exact HA.out.2.1⟩)
      | (exfalso; omega)
  by_cases h4 : no ≤ 1099511627776
  rotate_left
  · have HR : Hid (R = false) := by
      have : OK = false := by rw [← hOK', decide_eq_false h4]; simp
      show _ = _
      rw [HR0.out, this]; rfl
    have h4' : 1099511627776 < no := by omega
    clear hOK'
    go_wp2
    all_goals first
      | (go_ret; exact ⟨by rw [HR.out]; first | rfl | simp, by rw [HN.out]; exact HA.out.2.1⟩)
      | (exfalso; omega)
  have n1 : ¬ cl < 0 := by omega
  have n2 : ¬ 7 < cl := by omega
  have n3 : ¬ no < 1 := by omega
  have n4 : ¬ 1099511627776 < no := by omega
  by_cases h5 : X = 0
  rotate_left
  · have HR : Hid (R = false) := by
      have : OK = false := by rw [← hOK', decide_eq_false h5]; simp
      show _ = _
      rw [HR0.out, this]; rfl
    clear hOK'
    go_wp2_with (go_at_call 39; refine (HK.out _).mono ?_; rintro e w1 ⟨rfl, hb1⟩; have hb1' := hb1.mono (HA.out.2.2); have rD1 := (hb1'.block D (by omega)).trans HA.out.1; have q0 := cellB rD1 0 _ rfl; have q1 := cellB rD1 1 _ rfl; have q2 := cellB rD1 2 _ rfl; have q3 := cellB rD1 3 _ rfl; have q4 := cellB rD1 4 _ rfl; have q5 := cellB rD1 5 _ rfl; have q6 := cellB rD1 6 _ rfl; have q7 := cellB rD1 7 _ rfl; have q8 := cellB rD1 8 _ rfl; have q9 := cellB rD1 9 _ rfl; have HB1 : Hid (Below (D + 1) WA w1) := hb1'; clear hb1 hb1' rD1)
    all_goals first
      | (go_ret; exact ⟨by rw [HR.out]; first | rfl | simp, by rw [HN.out]; exact HA.out.2.1.trans (HB1.out.mono HND.out)⟩)
      | (exfalso; omega)
  subst h5
  by_cases h6 : 0 ≤ fr
  rotate_left
  · have HR : Hid (R = false) := by
      have : OK = false := by rw [← hOK', decide_eq_false h6]; simp
      show _ = _
      rw [HR0.out, this]; rfl
    have h6' : fr < 0 := by omega
    clear hOK'
    go_wp2_with (go_at_call 39; refine (HK.out _).mono ?_; rintro e w1 ⟨rfl, hb1⟩; have hb1' := hb1.mono (HA.out.2.2); have rD1 := (hb1'.block D (by omega)).trans HA.out.1; have q0 := cellB rD1 0 _ rfl; have q1 := cellB rD1 1 _ rfl; have q2 := cellB rD1 2 _ rfl; have q3 := cellB rD1 3 _ rfl; have q4 := cellB rD1 4 _ rfl; have q5 := cellB rD1 5 _ rfl; have q6 := cellB rD1 6 _ rfl; have q7 := cellB rD1 7 _ rfl; have q8 := cellB rD1 8 _ rfl; have q9 := cellB rD1 9 _ rfl; have HB1 : Hid (Below (D + 1) WA w1) := hb1'; clear hb1 hb1' rD1)
    all_goals first
      | (go_ret; exact ⟨by rw [HR.out]; first | rfl | simp, by rw [HN.out]; exact HA.out.2.1.trans (HB1.out.mono HND.out)⟩)
      | (exfalso; omega)
  have n6 : ¬ fr < 0 := by omega
  rw [decide_eq_true h1, decide_eq_true h2, decide_eq_true h3, decide_eq_true h4, decide_eq_true h6] at hOK'
  simp only [decide_true, Bool.true_and] at hOK'
  have HOK : Hid (_) := hOK'
  clear hOK' h1 h2 h3 h4 h6
  go_upto_region 4 with (go_at_call 39; refine (HK.out _).mono ?_; rintro e w1 ⟨rfl, hb1⟩; have hb1' := hb1.mono (HA.out.2.2); have rD1 := (hb1'.block D (by omega)).trans HA.out.1; have q0 := cellB rD1 0 _ rfl; have q1 := cellB rD1 1 _ rfl; have q2 := cellB rD1 2 _ rfl; have q3 := cellB rD1 3 _ rfl; have q4 := cellB rD1 4 _ rfl; have q5 := cellB rD1 5 _ rfl; have q6 := cellB rD1 6 _ rfl; have q7 := cellB rD1 7 _ rfl; have q8 := cellB rD1 8 _ rfl; have q9 := cellB rD1 9 _ rfl; have HB1 : Hid (Below (D + 1) WA w1) := hb1'; clear hb1 hb1' rD1)
  clear x0 x1 x2 x3 x4 x5 x6 x7 x8 x9
  by_cases ht : tt = -1
  · have t1 : (tt == -1) = true := by rw [ht]; rfl
    have t2 : (tt != -1) = false := by rw [ht]; rfl
    by_cases ha : E = 0 ∧ T = []
    · have HOKT : Hid (OK = true) := by
        show _ = _
        rw [← HOK.out, if_pos ht, ha.1, ha.2]; rfl
      obtain ⟨rfl, rfl⟩ := ha
      have q9 : w1.cell? ⟨D, 9, none⟩ = some (.string ⟨#[]⟩) := q9
      clear ht
      go_upto_region 6 with fail
      clear q0 q1 q2 q3 q4 q5 q6 q7 q8 q9 h45
      go_wp2_with fail
      go_loopg [6] i (fun gk j wr => ∃ m : Nat, m + gk = i ∧ j = .int .i64 m ∧ (∀ j, j < m → P j = false) ∧ Below (D + 1) WA wr)
      case atStart => exact ⟨0, by omega, rfl, fun j hj => by omega, HB1.out⟩
      case round =>
        obtain ⟨m, hm, rfl, hP, hB⟩ := hrel
        have hBN := HA.out.2.1.trans (hB.mono HND.out)
        by_cases hm1 : m < i
        · obtain ⟨b, hb⟩ : ∃ b, calls[m]? = some b := ⟨_, List.getElem?_eq_getElem (by have := HL.out; omega)⟩
          have hPm := HBd.out m b hb
          obtain ⟨g2, e2, hg2, -, y⟩ := (HV.out _ hBN).at hb
          cases hg2
          obtain ⟨cl2, no2, ⟨kind2, k2, v2, od2⟩, fr2, tt2, T2, E2⟩ := b
          have HPm : Hid (P m = (decide (cl2 = cl) && (decide (no ≤ no2) || decide (tt2 = -1) || decide (fr < tt2)))) := hPm
          have z0 : wr.cell? ⟨g, e' + m * 10, none⟩ = some (.int .i64 cl2) := y 0 _ rfl
          have z1 : wr.cell? ⟨g, e' + m * 10 + 1, none⟩ = some (.int .i64 no2) := y 1 _ rfl
          have z2 : wr.cell? ⟨g, e' + m * 10 + 2, none⟩ = some (.int .i64 kind2) := y 2 _ rfl
          have z3 : wr.cell? ⟨g, e' + m * 10 + 3, none⟩ = some (.string (bs k2)) := y 3 _ rfl
          have z4 : wr.cell? ⟨g, e' + m * 10 + 4, none⟩ = some (.string (bs v2)) := y 4 _ rfl
          have z5 : wr.cell? ⟨g, e' + m * 10 + 5, none⟩ = some (.string (bs od2)) := y 5 _ rfl
          have z6 : wr.cell? ⟨g, e' + m * 10 + 6, none⟩ = some (.int .i64 fr2) := y 6 _ rfl
          have z7 : wr.cell? ⟨g, e' + m * 10 + 7, none⟩ = some (.int .i64 tt2) := y 7 _ rfl
          have z8 : wr.cell? ⟨g, e' + m * 10 + 8, none⟩ = some (.int .i64 E2) := y 8 _ rfl
          have z9 : wr.cell? ⟨g, e' + m * 10 + 9, none⟩ = some (.string (bs T2)) := y 9 _ rfl
          obtain ⟨D2, hD2⟩ : ∃ D2, wr.heap.size = D2 := ⟨_, rfl⟩
          have hDD : D + 1 ≤ D2 := by have := hB.size; have := HA.out.2.2; omega
          have rD2 := heap_alloc_new wr (.cells #[.int .i64 cl2, .int .i64 no2, .int .i64 kind2, .string (bs k2), .string (bs v2), .string (bs od2), .int .i64 fr2, .int .i64 tt2, .int .i64 E2, .string (bs T2)] 45)
          have hbB := (Below.refl wr.heap.size wr).alloc (Nat.le_refl _) (.cells #[.int .i64 cl2, .int .i64 no2, .int .i64 kind2, .string (bs k2), .string (bs v2), .string (bs od2), .int .i64 fr2, .int .i64 tt2, .int .i64 E2, .string (bs T2)] 45)
          obtain ⟨WB, hWB⟩ : ∃ W, wr.alloc (.cells #[.int .i64 cl2, .int .i64 no2, .int .i64 kind2, .string (bs k2), .string (bs v2), .string (bs od2), .int .i64 fr2, .int .i64 tt2, .int .i64 E2, .string (bs T2)] 45) = W := ⟨_, rfl⟩
          rw [hWB] at rD2 hbB
          rw [hD2] at rD2 hbB
          have hBB := hB.trans (hbB.mono hDD)
          have rD := (hBB.block D (by omega)).trans HA.out.1
          have r0 := cellB rD 0 _ rfl
          have r1 := cellB rD 1 _ rfl
          have r6 := cellB rD 6 _ rfl
          have s0 := cellB rD2 0 _ rfl
          have s1 := cellB rD2 1 _ rfl
          have s7 := cellB rD2 7 _ rfl
          have d2 : (0 : Int) ≤ (m : Int) := by omega
          have d3 : (m : Int) < (i : Int) := by omega
          have d4 : (m : Int) < (calls.length : Int) := by have := HL.out; omega
          have d5 : i ≤ 100000 := by have := HL.out; omega
          have HWB : Hid (wr.alloc (.cells #[.int .i64 cl2, .int .i64 no2, .int .i64 kind2, .string (bs k2), .string (bs v2), .string (bs od2), .int .i64 fr2, .int .i64 tt2, .int .i64 E2, .string (bs T2)] 45) = WB) := hWB
          have HD2 : Hid (wr.heap.size = D2) := hD2
          have HBB : Hid (Below (D + 1) WA WB) := hBB
          have HP : Hid (∀ j, j < m → P j = false) := hP
          have HGO : Hid (P m = false → ∀ j, j < m + 1 → P j = false) := fun h j hj => by
            by_cases ej : j = m
            · subst ej; exact h
            · exact HP.out j (by omega)
          have HST : Hid (P m = true → R = false) := fun h => by
            have hm9 : m < i := by omega
            rw [HR0.out, fstB_at hm9 h HP.out]
            have : decide ((m : Int) = -1) = false := decide_eq_false (by omega)
            rw [this, Bool.and_false]
          clear hPm y rD2 hbB hWB hBB hD2 hDD hB hBN hb rD hP
          go_upto_region 10 with fail
          rw [HWB.out]
          try rw [HD2.out]
          clear z0 z1 z2 z3 z4 z5 z6 z7 z8 z9 HWB HD2
          by_cases e0 : cl2 = cl
          · have b0 : (cl2 == cl) = true := by simpa using e0
            by_cases e1 : no ≤ no2
            · have HR : Hid (R = false) := HST.out (by rw [HPm.out, decide_eq_true e0, decide_eq_true e1]; rfl)
              clear e0
              go_wp2
              all_goals first
                | (go_ret; exact ⟨by rw [HR.out]; first | rfl | simp, by rw [HN.out]; exact HA.out.2.1.trans (HBB.out.mono HND.out)⟩)
                | (exfalso; omega)
            · by_cases e3 : tt2 = -1
              · have b3 : (tt2 == -1) = true := by simpa using e3
                have HR : Hid (R = false) := HST.out (by rw [HPm.out, decide_eq_true e0, decide_eq_true e3, Bool.or_true]; rfl)
                clear e0 e3
                go_wp2
                all_goals first
                  | (go_ret; exact ⟨by rw [HR.out]; first | rfl | simp, by rw [HN.out]; exact HA.out.2.1.trans (HBB.out.mono HND.out)⟩)
                  | (exfalso; omega)
              · have b3 : (tt2 == -1) = false := by simpa using e3
                by_cases e4 : fr < tt2
                · have HR : Hid (R = false) := HST.out (by rw [HPm.out, decide_eq_true e0, decide_eq_true e4, Bool.or_true]; rfl)
                  clear e0 e3
                  go_wp2
                  all_goals first
                    | (go_ret; exact ⟨by rw [HR.out]; first | rfl | simp, by rw [HN.out]; exact HA.out.2.1.trans (HBB.out.mono HND.out)⟩)
                    | (exfalso; omega)
                · have HG : Hid (∀ j, j < m + 1 → P j = false) := HGO.out (by rw [HPm.out, decide_eq_false e1, decide_eq_false e3, decide_eq_false e4]; simp)
                  clear e0 e3
                  go_wp2
                  go_roundg (i - (m + 1))
                  case measure => omega
                  case rel => exact ⟨m + 1, by omega, by go_num, HG.out, HBB.out⟩
          · have b0 : (cl2 == cl) = false := by simpa using e0
            have HG : Hid (∀ j, j < m + 1 → P j = false) := HGO.out (by rw [HPm.out, decide_eq_false e0]; rfl)
            clear e0
            go_wp2
            go_roundg (i - (m + 1))
            case measure => omega
            case rel => exact ⟨m + 1, by omega, by go_num, HG.out, HBB.out⟩
        obtain rfl : m = i := by omega
        have HR : Hid (R = true) := by
          show _ = _
          rw [HR0.out, fstB_none hP, HOKT.out]
          rfl
        have HBN : Hid (Below N w wr) := hBN
        clear hP hB hBN
        go_wp2
        go_ret
        exact ⟨by rw [HR.out]; first | rfl | simp, by rw [HN.out]; exact HBN.out⟩
    · have HR : Hid (R = false) := by
        have : OK = false := by
          rw [← HOK.out, if_pos ht]
          exact decide_eq_false fun h => ha ⟨congrArg Prod.snd h, congrArg Prod.fst h⟩
        show _ = _
        rw [HR0.out, this]; rfl
      clear ht
      by_cases ha1 : E = 0
      · have ha2 : ¬ T = [] := fun h => ha ⟨ha1, h⟩
        subst ha1
        clear ha
        go_wp2
        all_goals first
          | (go_ret; exact ⟨by rw [HR.out]; first | rfl | simp, by rw [HN.out]; exact HA.out.2.1.trans (HB1.out.mono HND.out)⟩)
          | (exfalso; omega)
          | (exfalso; exact ha2 (by assumption))
      · have ha3 : (E == 0) = false := by simpa using ha1
        clear ha
        go_wp2
        all_goals first
          | (go_ret; exact ⟨by rw [HR.out]; first | rfl | simp, by rw [HN.out]; exact HA.out.2.1.trans (HB1.out.mono HND.out)⟩)
          | (exfalso; omega)
  · have t1 : (tt == -1) = false := by simpa using ht
    have t2 : (tt != -1) = true := by simpa using ht
    by_cases hf : fr ≤ tt
    · have HOKT : Hid (OK = true) := by
        show _ = _
        rw [← HOK.out, if_neg ht]
        exact decide_eq_true hf
      have hf' : ¬ tt < fr := by omega
      clear ht hf
      go_upto_region 6 with fail
      clear q0 q1 q2 q3 q4 q5 q6 q7 q8 q9 h45
      go_wp2_with fail
      go_loopg [6] i (fun gk j wr => ∃ m : Nat, m + gk = i ∧ j = .int .i64 m ∧ (∀ j, j < m → P j = false) ∧ Below (D + 1) WA wr)
      case atStart => exact ⟨0, by omega, rfl, fun j hj => by omega, HB1.out⟩
      case round =>
        obtain ⟨m, hm, rfl, hP, hB⟩ := hrel
        have hBN := HA.out.2.1.trans (hB.mono HND.out)
        by_cases hm1 : m < i
        · obtain ⟨b, hb⟩ : ∃ b, calls[m]? = some b := ⟨_, List.getElem?_eq_getElem (by have := HL.out; omega)⟩
          have hPm := HBd.out m b hb
          obtain ⟨g2, e2, hg2, -, y⟩ := (HV.out _ hBN).at hb
          cases hg2
          obtain ⟨cl2, no2, ⟨kind2, k2, v2, od2⟩, fr2, tt2, T2, E2⟩ := b
          have HPm : Hid (P m = (decide (cl2 = cl) && (decide (no ≤ no2) || decide (tt2 = -1) || decide (fr < tt2)))) := hPm
          have z0 : wr.cell? ⟨g, e' + m * 10, none⟩ = some (.int .i64 cl2) := y 0 _ rfl
          have z1 : wr.cell? ⟨g, e' + m * 10 + 1, none⟩ = some (.int .i64 no2) := y 1 _ rfl
          have z2 : wr.cell? ⟨g, e' + m * 10 + 2, none⟩ = some (.int .i64 kind2) := y 2 _ rfl
          have z3 : wr.cell? ⟨g, e' + m * 10 + 3, none⟩ = some (.string (bs k2)) := y 3 _ rfl
          have z4 : wr.cell? ⟨g, e' + m * 10 + 4, none⟩ = some (.string (bs v2)) := y 4 _ rfl
          have z5 : wr.cell? ⟨g, e' + m * 10 + 5, none⟩ = some (.string (bs od2)) := y 5 _ rfl
          have z6 : wr.cell? ⟨g, e' + m * 10 + 6, none⟩ = some (.int .i64 fr2) := y 6 _ rfl
          have z7 : wr.cell? ⟨g, e' + m * 10 + 7, none⟩ = some (.int .i64 tt2) := y 7 _ rfl
          have z8 : wr.cell? ⟨g, e' + m * 10 + 8, none⟩ = some (.int .i64 E2) := y 8 _ rfl
          have z9 : wr.cell? ⟨g, e' + m * 10 + 9, none⟩ = some (.string (bs T2)) := y 9 _ rfl
          obtain ⟨D2, hD2⟩ : ∃ D2, wr.heap.size = D2 := ⟨_, rfl⟩
          have hDD : D + 1 ≤ D2 := by have := hB.size; have := HA.out.2.2; omega
          have rD2 := heap_alloc_new wr (.cells #[.int .i64 cl2, .int .i64 no2, .int .i64 kind2, .string (bs k2), .string (bs v2), .string (bs od2), .int .i64 fr2, .int .i64 tt2, .int .i64 E2, .string (bs T2)] 45)
          have hbB := (Below.refl wr.heap.size wr).alloc (Nat.le_refl _) (.cells #[.int .i64 cl2, .int .i64 no2, .int .i64 kind2, .string (bs k2), .string (bs v2), .string (bs od2), .int .i64 fr2, .int .i64 tt2, .int .i64 E2, .string (bs T2)] 45)
          obtain ⟨WB, hWB⟩ : ∃ W, wr.alloc (.cells #[.int .i64 cl2, .int .i64 no2, .int .i64 kind2, .string (bs k2), .string (bs v2), .string (bs od2), .int .i64 fr2, .int .i64 tt2, .int .i64 E2, .string (bs T2)] 45) = W := ⟨_, rfl⟩
          rw [hWB] at rD2 hbB
          rw [hD2] at rD2 hbB
          have hBB := hB.trans (hbB.mono hDD)
          have rD := (hBB.block D (by omega)).trans HA.out.1
          have r0 := cellB rD 0 _ rfl
          have r1 := cellB rD 1 _ rfl
          have r6 := cellB rD 6 _ rfl
          have s0 := cellB rD2 0 _ rfl
          have s1 := cellB rD2 1 _ rfl
          have s7 := cellB rD2 7 _ rfl
          have d2 : (0 : Int) ≤ (m : Int) := by omega
          have d3 : (m : Int) < (i : Int) := by omega
          have d4 : (m : Int) < (calls.length : Int) := by have := HL.out; omega
          have d5 : i ≤ 100000 := by have := HL.out; omega
          have HWB : Hid (wr.alloc (.cells #[.int .i64 cl2, .int .i64 no2, .int .i64 kind2, .string (bs k2), .string (bs v2), .string (bs od2), .int .i64 fr2, .int .i64 tt2, .int .i64 E2, .string (bs T2)] 45) = WB) := hWB
          have HD2 : Hid (wr.heap.size = D2) := hD2
          have HBB : Hid (Below (D + 1) WA WB) := hBB
          have HP : Hid (∀ j, j < m → P j = false) := hP
          have HGO : Hid (P m = false → ∀ j, j < m + 1 → P j = false) := fun h j hj => by
            by_cases ej : j = m
            · subst ej; exact h
            · exact HP.out j (by omega)
          have HST : Hid (P m = true → R = false) := fun h => by
            have hm9 : m < i := by omega
            rw [HR0.out, fstB_at hm9 h HP.out]
            have : decide ((m : Int) = -1) = false := decide_eq_false (by omega)
            rw [this, Bool.and_false]
          clear hPm y rD2 hbB hWB hBB hD2 hDD hB hBN hb rD hP
          go_upto_region 10 with fail
          rw [HWB.out]
          try rw [HD2.out]
          clear z0 z1 z2 z3 z4 z5 z6 z7 z8 z9 HWB HD2
          by_cases e0 : cl2 = cl
          · have b0 : (cl2 == cl) = true := by simpa using e0
            by_cases e1 : no ≤ no2
            · have HR : Hid (R = false) := HST.out (by rw [HPm.out, decide_eq_true e0, decide_eq_true e1]; rfl)
              clear e0
              go_wp2
              all_goals first
                | (go_ret; exact ⟨by rw [HR.out]; first | rfl | simp, by rw [HN.out]; exact HA.out.2.1.trans (HBB.out.mono HND.out)⟩)
                | (exfalso; omega)
            · by_cases e3 : tt2 = -1
              · have b3 : (tt2 == -1) = true := by simpa using e3
                have HR : Hid (R = false) := HST.out (by rw [HPm.out, decide_eq_true e0, decide_eq_true e3, Bool.or_true]; rfl)
                clear e0 e3
                go_wp2
                all_goals first
                  | (go_ret; exact ⟨by rw [HR.out]; first | rfl | simp, by rw [HN.out]; exact HA.out.2.1.trans (HBB.out.mono HND.out)⟩)
                  | (exfalso; omega)
              · have b3 : (tt2 == -1) = false := by simpa using e3
                by_cases e4 : fr < tt2
                · have HR : Hid (R = false) := HST.out (by rw [HPm.out, decide_eq_true e0, decide_eq_true e4, Bool.or_true]; rfl)
                  clear e0 e3
                  go_wp2
                  all_goals first
                    | (go_ret; exact ⟨by rw [HR.out]; first | rfl | simp, by rw [HN.out]; exact HA.out.2.1.trans (HBB.out.mono HND.out)⟩)
                    | (exfalso; omega)
                · have HG : Hid (∀ j, j < m + 1 → P j = false) := HGO.out (by rw [HPm.out, decide_eq_false e1, decide_eq_false e3, decide_eq_false e4]; simp)
                  clear e0 e3
                  go_wp2
                  go_roundg (i - (m + 1))
                  case measure => omega
                  case rel => exact ⟨m + 1, by omega, by go_num, HG.out, HBB.out⟩
          · have b0 : (cl2 == cl) = false := by simpa using e0
            have HG : Hid (∀ j, j < m + 1 → P j = false) := HGO.out (by rw [HPm.out, decide_eq_false e0]; rfl)
            clear e0
            go_wp2
            go_roundg (i - (m + 1))
            case measure => omega
            case rel => exact ⟨m + 1, by omega, by go_num, HG.out, HBB.out⟩
        obtain rfl : m = i := by omega
        have HR : Hid (R = true) := by
          show _ = _
          rw [HR0.out, fstB_none hP, HOKT.out]
          rfl
        have HBN : Hid (Below N w wr) := hBN
        clear hP hB hBN
        go_wp2
        go_ret
        exact ⟨by rw [HR.out]; first | rfl | simp, by rw [HN.out]; exact HBN.out⟩
    · have HR : Hid (R = false) := by
        have : OK = false := by
          rw [← HOK.out, if_neg ht]
          exact decide_eq_false hf
        show _ = _
        rw [HR0.out, this]; rfl
      have hf' : tt < fr := by omega
      clear ht hf
      go_wp2
      all_goals first
        | (go_ret; exact ⟨by rw [HR.out]; first | rfl | simp, by rw [HN.out]; exact HA.out.2.1.trans (HB1.out.mono HND.out)⟩)
        | (exfalso; omega)
end
section
open Go.RowKit Go.Maps

theorem fstB_same {P Q : Nat → Bool} {n : Nat} (h : ∀ i, i < n → (∀ j, j < i → P j = false) → Q i = P i) : fstB Q n = fstB P n := by
  rcases Classical.em (0 ≤ fstB P n) with h0 | h0
  · obtain ⟨i, e, hi, hP⟩ := fstB_some h0
    have hlt : ∀ j, j < i → P j = false := fun j hj => by
      cases ej : P j with
      | false => rfl
      | true =>
        exfalso
        obtain ⟨m, hm, h1, h2⟩ : ∃ m, m ≤ j ∧ P m = true ∧ ∀ k, k < m → P k = false := by
          clear hj e
          induction j using Nat.strongRecOn with
          | ind j ih =>
            by_cases hex : ∃ k, k < j ∧ P k = true
            · obtain ⟨k, hk, hkP⟩ := hex
              obtain ⟨m, hm, r⟩ := ih k hk hkP
              exact ⟨m, by omega, r⟩
            · refine ⟨j, Nat.le_refl _, ej, fun k hk => ?_⟩
              cases ek : P k with
              | false => rfl
              | true => exact absurd ⟨k, hk, ek⟩ hex
        have := fstB_at (n := n) (by omega) h1 h2
        omega
    rw [e]
    exact fstB_at hi (by rw [h i hi hlt]; exact hP) fun j hj => by rw [h j (by omega) fun k hk => hlt k (by omega)]; exact hlt j hj
  · have hn := fstB_neg (P := P) (n := n) (by omega)
    rw [fstB_none hn, fstB_none fun j hj => by rw [h j hj fun k hk => hn k (by omega)]; exact hn j hj]
section
variable {calls : List Cl}
theorem good_at {i : Nat} {c : Cl} (hc : calls[i]? = some c) (h : P1 calls i = false) : okCall c = true ∧ behind c (lastC calls c.cl i) = true := by
  rw [P1_at hc, Bool.or_eq_false_iff, Bool.not_eq_false', Bool.not_eq_false'] at h
  exact h
theorem ok_to {c : Cl} (h : okCall c = true) : 1 ≤ c.no ∧ 0 ≤ c.fr ∧ (c.tt ≠ -1 → c.fr ≤ c.tt) := by
  simp only [okCall, Bool.and_eq_true, decide_eq_true_eq] at h
  obtain ⟨⟨⟨⟨⟨⟨_, _⟩, h3⟩, _⟩, _⟩, h6⟩, h7⟩ := h
  refine ⟨h3, h6, fun ht => ?_⟩
  rw [if_neg ht] at h7
  exact of_decide_eq_true h7
theorem beh_iff {c b : Cl} : behind c b = true ↔ b.no < c.no ∧ b.tt ≠ -1 ∧ b.tt ≤ c.fr := by
  simp only [behind, ansd, Bool.and_eq_true, decide_eq_true_eq, and_assoc]
theorem chain1 : ∀ n, n ≤ calls.length → (∀ j, j < n → P1 calls j = false) → ∀ k x, k < n → calls[k]? = some x → okCall (lastC calls x.cl n) = true ∧ (x = lastC calls x.cl n ∨ (x.no < (lastC calls x.cl n).no ∧ x.tt ≠ -1 ∧ x.tt ≤ (lastC calls x.cl n).fr))
  | 0, _, _, k, x, hk, _ => by omega
  | n + 1, hn, hP, k, x, hk, hx => by
    obtain ⟨y, hy⟩ : ∃ y, calls[n]? = some y := ⟨_, List.getElem?_eq_getElem (by omega)⟩
    obtain ⟨h1, h2⟩ := good_at hy (hP n (by omega))
    rw [lastC_succ hy]
    by_cases e : y.cl = x.cl
    · rw [if_pos e]
      refine ⟨h1, ?_⟩
      by_cases ek : k = n
      · subst ek
        rw [hy] at hx
        injection hx with hx
        exact .inl hx.symm
      · obtain ⟨g1, g2⟩ := chain1 n (by omega) (fun j hj => hP j (by omega)) k x (by omega) hx
        rw [e] at h2
        obtain ⟨b1, b2, b3⟩ := beh_iff.1 h2
        right
        rcases g2 with g2 | ⟨g2, g3, g4⟩
        · rw [← g2] at b1 b2 b3
          exact ⟨b1, b2, b3⟩
        · have := (ok_to g1).2.2 b2
          exact ⟨by omega, g3, by omega⟩
    · rw [if_neg e]
      have ek : k ≠ n := fun ek => by
        subst ek
        rw [hy] at hx
        injection hx with hx
        exact e (by rw [hx])
      exact chain1 n (by omega) (fun j hj => hP j (by omega)) k x (by omega) hx
theorem lastC_from {c : Int} : ∀ {n : Nat}, n ≤ calls.length → lastC calls c n = clZ ∨ ∃ k x, k < n ∧ calls[k]? = some x ∧ x.cl = c ∧ lastC calls c n = x
  | 0, _ => .inl rfl
  | n + 1, hn => by
    obtain ⟨y, hy⟩ : ∃ y, calls[n]? = some y := ⟨_, List.getElem?_eq_getElem (by omega)⟩
    rw [lastC_succ hy]
    by_cases e : y.cl = c
    · rw [if_pos e]
      exact .inr ⟨n, y, by omega, hy, e, rfl⟩
    · rw [if_neg e]
      rcases lastC_from (c := c) (n := n) (by omega) with h | ⟨k, x, h1, h2⟩
      · exact .inl h
      · exact .inr ⟨k, x, by omega, h2⟩
/-- Where no call ahead breaks rule 1, the document's and the program's answers are the same. -/
theorem rOne_P1 (i : Nat) (hi : i < calls.length) (hP : ∀ j, j < i → P1 calls j = false) : (!rOne calls i) = P1 calls i := by
  obtain ⟨c, hc⟩ : ∃ c, calls[i]? = some c := ⟨_, List.getElem?_eq_getElem hi⟩
  rw [rOne_at hc, P1_at hc]
  cases hok : okCall c with
  | false => rfl
  | true =>
    rw [Bool.true_and, Bool.not_true, Bool.false_or]
    congr 1
    obtain ⟨o1, o2, _⟩ := ok_to hok
    by_cases hb : behind c (lastC calls c.cl i) = true
    · rw [hb]
      refine decide_eq_true (fstB_none fun k hk => ?_)
      obtain ⟨x, hx⟩ : ∃ x, calls[k]? = some x := ⟨_, List.getElem?_eq_getElem (by omega)⟩
      rw [badB_at hx]
      by_cases e : x.cl = c.cl
      · obtain ⟨g1, g2⟩ := chain1 i (by omega) hP k x hk hx
        obtain ⟨b1, b2, b3⟩ := beh_iff.1 hb
        rw [e] at g1 g2
        have hh : x.no < c.no ∧ x.tt ≠ -1 ∧ x.tt ≤ c.fr := by
          rcases g2 with g2 | ⟨g2, g3, g4⟩
          · rw [← g2] at b1 b2 b3
            exact ⟨b1, b2, b3⟩
          · have := (ok_to g1).2.2 b2
            exact ⟨by omega, g3, by omega⟩
        rw [decide_eq_true e, decide_eq_false (show ¬ c.no ≤ x.no by omega), decide_eq_false hh.2.1, decide_eq_false (show ¬ c.fr < x.tt by omega)]
        rfl
      · rw [decide_eq_false e]; rfl
    · rw [Bool.not_eq_true] at hb
      rw [hb]
      refine decide_eq_false fun h => ?_
      have hn := fstB_inv h
      rcases lastC_from (calls := calls) (c := c.cl) (n := i) (by omega) with e | ⟨k, x, hk, hx, e1, e2⟩
      · rw [e] at hb
        rw [beh_iff.2 ⟨by show (0 : Int) < c.no; omega, by decide, by show (0 : Int) ≤ c.fr; omega⟩] at hb
        cases hb
      · have := hn k hk
        rw [badB_at hx, decide_eq_true e1, Bool.true_and, Bool.or_eq_false_iff, Bool.or_eq_false_iff] at this
        obtain ⟨⟨t1, t2⟩, t3⟩ := this
        have t1 := of_decide_eq_false t1
        have t2 := of_decide_eq_false t2
        have t3 := of_decide_eq_false t3
        rw [e2, beh_iff.2 ⟨by omega, t2, by omega⟩] at hb
        cases hb
theorem rOne_first : fstB (fun i => !rOne calls i) calls.length = Rl calls [] 0 := fstB_same fun i hi h => rOne_P1 i hi h
end
end
section
open Go.RowKit Go.Maps
attribute [local go_sem ↓] Go.wp_at_zero Go.wp_at_succ

def callF (calls : List Cl) (p : Pt) : Cl := (calls[(fnI calls p).toNat]?).getD clZ
def sameB (pts : List Pt) (p : Pt) (j : Nat) : Bool := decide ((pts.map pk2)[j]? = some (pk2 p))
/-- All but the points ahead. -/
def okT (calls : List Cl) (pts : List Pt) (i : Nat) (p : Pt) : Bool := decide (0 ≤ p.tm) && decide (prevT pts i ≤ p.tm) && decide (0 ≤ fnI calls p) && hasM (callF calls p) p.tm
def rTwo (calls : List Cl) (pts : List Pt) (i : Nat) : Bool := match pts[i]? with
  | some p => okT calls pts i p && decide (fstB (sameB pts p) i = -1)
  | none => false
theorem rTwo_at {calls : List Cl} {pts : List Pt} {i : Nat} {p : Pt} (h : pts[i]? = some p) : rTwo calls pts i = (okT calls pts i p && decide (fstB (sameB pts p) i = -1)) := by
  rw [rTwo, h]
set_option maxRecDepth 20000 in
set_option maxHeartbeats 4000000 in
theorem rtwo_any (calls : List Cl) (pts : List Pt) (i : Nat) (vc vp : Value) (w : World) (hc : SlF ccs 10 w vc calls) (hp : SlF pks 5 w vp pts) (hi : i < pts.length) (hl : pts.length ≤ 100000) (hlc : calls.length ≤ 100000) : Calls Tryd.prog 32 #[vc, vp, .int .i64 i] w fun e W' => e = .returned (.bool (rTwo calls pts i)) ∧ Below w.heap.size w W' := by
  obtain ⟨va, vcap, rfl⟩ := hc.slice
  obtain ⟨pa, pcap, rfl⟩ := hp.slice
  obtain ⟨p, ho⟩ : ∃ p, pts[i]? = some p := ⟨_, List.getElem?_eq_getElem hi⟩
  have hR := rTwo_at (calls := calls) ho
  obtain ⟨P, hP⟩ : ∃ P, sameB pts p = P := ⟨_, rfl⟩
  have hBd : ∀ j b, pts[j]? = some b → P j = (decide (b.cl = p.cl) && decide (b.no = p.no)) := fun j b h => by
    rw [← hP]
    show decide ((pts.map pk2)[j]? = some (pk2 p)) = _
    rw [List.getElem?_map, h]
    show decide (some (b.cl, b.no) = some (p.cl, p.no)) = _
    rw [Bool.eq_iff_iff]
    simp
  rw [hP] at hR
  obtain ⟨R, hRe⟩ : ∃ R, rTwo calls pts i = R := ⟨_, rfl⟩
  rw [hRe] at hR ⊢
  obtain ⟨h, o, hg', -, y⟩ := hp.at ho
  subst hg'
  obtain ⟨N, hN⟩ : ∃ N, w.heap.size = N := ⟨_, rfl⟩
  have HV : Hid (∀ W, Below N w W → SlF ccs 10 W (.slice va calls.length vcap) calls) := fun W hW => hc.on hW (by omega)
  have HU : Hid (∀ W, Below N w W → SlF pks 5 W (.slice (some ⟨h, o, none⟩) pts.length pcap) pts) := fun W hW => hp.on hW (by omega)
  obtain ⟨OK, hOK⟩ : ∃ x, okT calls pts i p = x := ⟨_, rfl⟩
  rw [hOK] at hR
  have hfa := fun W (hW : SlF ccs 10 W (.slice va calls.length vcap) calls) => find_any calls p _ W hW hlc
  have hcF : ∀ (kn : Nat) c, fnI calls p = kn → calls[kn]? = some c → callF calls p = c := fun kn c e hk => by
    rw [callF, e]
    show (calls[kn]?).getD clZ = c
    rw [hk]; rfl
  have hKc : ∀ kn : Nat, fnI calls p = kn → kn < calls.length ∧ ∃ c, calls[kn]? = some c := fun kn e => by
    obtain ⟨j, ej, hj, _⟩ := fstB_some (show 0 ≤ fnI calls p by omega)
    have : fnI calls p = j := ej
    have hkj : kn = j := by omega
    subst hkj
    exact ⟨hj, _, List.getElem?_eq_getElem hj⟩
  obtain ⟨tm, pcl, pno, pT, pE⟩ := p
  obtain ⟨K, hK⟩ : ∃ K, fnI calls ⟨tm, pcl, pno, pT, pE⟩ = K := ⟨_, rfl⟩
  have hOK' : (decide (0 ≤ tm) && decide (prevT pts i ≤ tm) && decide (0 ≤ K) && hasM (callF calls ⟨tm, pcl, pno, pT, pE⟩) tm) = OK := by rw [← hK]; exact hOK
  rw [hK] at hcF hKc hfa
  have HKc : Hid (∀ kn : Nat, K = kn → kn < calls.length ∧ ∃ c, calls[kn]? = some c) := hKc
  obtain ⟨F, hF⟩ : ∃ F, callF calls ⟨tm, pcl, pno, pT, pE⟩ = F := ⟨_, rfl⟩
  rw [hF] at hcF hOK'
  have HBd : Hid (∀ j b, pts[j]? = some b → P j = (decide (b.cl = pcl) && decide (b.no = pno))) := hBd
  have hfa' : ∀ W, SlF ccs 10 W (.slice va calls.length vcap) calls → Calls Tryd.prog 33 #[.slice va calls.length vcap, .agg #[.int .i64 tm, .int .i64 pcl, .int .i64 pno, .int .i64 pE, .string (bs pT)]] W fun e W' => e = .returned (.int .i64 K) ∧ Below W.heap.size W W' := hfa
  clear hBd hP hRe hOK hF hK hKc hfa
  have y0 : w.cell? ⟨h, o + i * 5, none⟩ = some (.int .i64 tm) := y 0 _ rfl
  have y1 : w.cell? ⟨h, o + i * 5 + 1, none⟩ = some (.int .i64 pcl) := y 1 _ rfl
  have y2 : w.cell? ⟨h, o + i * 5 + 2, none⟩ = some (.int .i64 pno) := y 2 _ rfl
  have y3 : w.cell? ⟨h, o + i * 5 + 3, none⟩ = some (.int .i64 pE) := y 3 _ rfl
  have y4 : w.cell? ⟨h, o + i * 5 + 4, none⟩ = some (.string (bs pT)) := y 4 _ rfl
  have d0 : (0 : Int) ≤ (i : Int) := by omega
  have d1 : (i : Int) < (pts.length : Int) := by omega
  have rD := heap_alloc_new w (.cells #[.int .i64 tm, .int .i64 pcl, .int .i64 pno, .int .i64 pE, .string (bs pT)] 53)
  have hbA := (Below.refl w.heap.size w).alloc (Nat.le_refl _) (.cells #[.int .i64 tm, .int .i64 pcl, .int .i64 pno, .int .i64 pE, .string (bs pT)] 53)
  obtain ⟨WA, hWA⟩ : ∃ W, w.alloc (.cells #[.int .i64 tm, .int .i64 pcl, .int .i64 pno, .int .i64 pE, .string (bs pT)] 53) = W := ⟨_, rfl⟩
  have hzA : WA.heap.size = N + 1 := by rw [← hWA, World.size_alloc, hN]
  rw [hWA] at rD hbA
  rw [hN] at rD hbA
  obtain ⟨D, hD⟩ : ∃ D, N = D := ⟨_, rfl⟩
  rw [hD] at rD
  have x0 := cellB rD 0 _ rfl
  have x1 := cellB rD 1 _ rfl
  have x2 := cellB rD 2 _ rfl
  have x3 := cellB rD 3 _ rfl
  have x4 := cellB rD 4 _ rfl
  have HA : Hid (WA.heap[D]? = some (.cells #[.int .i64 tm, .int .i64 pcl, .int .i64 pno, .int .i64 pE, .string (bs pT)] 53) ∧ Below N w WA ∧ D + 1 ≤ WA.heap.size) := ⟨rD, hbA, by omega⟩
  have hND : N ≤ D + 1 := by omega
  have HND : Hid (N ≤ D + 1) := hND
  have HFd : Hid (∀ W, Below (D + 1) WA W → Calls Tryd.prog 33 #[.slice va calls.length vcap, .agg #[.int .i64 tm, .int .i64 pcl, .int .i64 pno, .int .i64 pE, .string (bs pT)]] W fun e W' => e = .returned (.int .i64 K) ∧ Below (D + 1) WA W') := fun W hW => (hfa' W (HV.out _ (hbA.trans (hW.mono hND)))).mono fun e W' hh => ⟨hh.1, hW.trans (hh.2.mono (by have := hW.size; omega))⟩
  have hprev : ∀ q, 0 < i → pts[i - 1]? = some q → prevT pts i = q.tm := fun q h0 hq => by
    obtain ⟨i', rfl⟩ : ∃ i', i = i' + 1 := ⟨i - 1, by omega⟩
    exact prevT_succ hq
  have hprev0 : i = 0 → prevT pts i = 0 := fun h => by rw [h]; rfl
  have hpq : 0 < i → ∃ q, pts[i - 1]? = some q := fun h => ⟨_, List.getElem?_eq_getElem (by omega)⟩
  obtain ⟨PV, hPV⟩ : ∃ x, prevT pts i = x := ⟨_, rfl⟩
  rw [hPV] at hOK' hprev hprev0
  have HPQ : Hid ((∀ q, 0 < i → pts[i - 1]? = some q → PV = q.tm) ∧ (i = 0 → PV = 0) ∧ (0 < i → ∃ q, pts[i - 1]? = some q)) := ⟨hprev, hprev0, hpq⟩
  have HCF : Hid (∀ (kn : Nat) c, K = kn → calls[kn]? = some c → F = c) := hcF
  have HDN : Hid (w.heap.size = D) := hN.trans hD
  have HWA : Hid (w.alloc (.cells #[.int .i64 tm, .int .i64 pcl, .int .i64 pno, .int .i64 pE, .string (bs pT)] 53) = WA) := hWA
  have HN : Hid (w.heap.size = N) := hN
  have HL : Hid (i < pts.length ∧ pts.length ≤ 100000) := ⟨hi, hl⟩
  have HR0 : Hid (R = (OK && decide (fstB P i = -1))) := hR
  have HOK0 : Hid ((decide (0 ≤ tm) && decide (PV ≤ tm) && decide (0 ≤ K) && hasM F tm) = OK) := hOK'
  have hi5 : i ≤ 100000 := by omega
  clear hR hc hp ho y rD hbA hWA hzA hN hD hi hl hOK' hprev hprev0 hpq hPV hcF hfa' hND hlc
  go_enter Tryd.func32, Tryd.ntmps32
  go_upto_region 2 with fail
  rw [HWA.out]
  try rw [HDN.out]
  clear y0 y1 y2 y3 y4 HWA
  have HBX : Hid (Below N w WA) := HA.out.2.1
  by_cases h1 : 0 ≤ tm
  rotate_left
  · have HR : Hid (R = false) := by
      have : OK = false := by rw [← HOK0.out, decide_eq_false h1]; simp
      show _ = _
      rw [HR0.out, this]; rfl
    have h1' : tm < 0 := by omega
    refine region_Z 99 (fun W => W.cell? ⟨D, 0, none⟩ = some (.int .i64 tm) ∧ True) (by kernel_rfl) ?_
    have hS0 : WA.drew.cell? ⟨D, 0, none⟩ = some (.int .i64 tm) ∧ True := ⟨x0, trivial⟩
    refine Y_take (i := 0) (v := ?_) rfl (by kernel_rfl) (by kernel_rfl) (by kernel_rfl) (by kernel_rfl) (fun _ _ _ h => h) (by rfl) hS0 ?_ ?_
    rotate_left
    · (intro w' hSw; obtain ⟨p0, p1⟩ := hSw; (try go_simp); (try with_reducible rfl))
    simp only [Act.put, List.setIfInBounds_toArray, List.getElem_toArray, List.getElem_cons_zero, List.set_cons_succ, List.set_cons_zero]
    refine Y_take (i := 1) (v := ?_) rfl (by kernel_rfl) (by kernel_rfl) (by kernel_rfl) (by kernel_rfl) (fun _ _ _ h => h) (by rfl) hS0 ?_ ?_
    rotate_left
    · (intro w' hSw; obtain ⟨p0, p1⟩ := hSw; (try go_simp); (try with_reducible rfl))
    simp only [Act.put, List.setIfInBounds_toArray, List.getElem_toArray, List.getElem_cons_succ, List.getElem_cons_zero, List.set_cons_succ, List.set_cons_zero]
    refine Y_take (i := 2) (v := ?_) rfl (by kernel_rfl) (by kernel_rfl) (by kernel_rfl) (by kernel_rfl) (fun _ _ _ h => h) (by rfl) hS0 ?_ ?_
    rotate_left
    · (intro w' hSw; obtain ⟨p0, p1⟩ := hSw; (try go_simp); (try with_reducible rfl))
    simp only [Act.put, List.setIfInBounds_toArray, List.getElem_toArray, List.getElem_cons_succ, List.getElem_cons_zero, List.set_cons_succ, List.set_cons_zero]
    refine Y_take (i := 3) (v := ?_) rfl (by kernel_rfl) (by kernel_rfl) (by kernel_rfl) (by kernel_rfl) (fun _ _ _ h => h) (by rfl) hS0 ?_ ?_
    rotate_left
    · (intro w' hSw; obtain ⟨p0, p1⟩ := hSw; (try go_simp); (try with_reducible rfl))
    simp only [Act.put, List.setIfInBounds_toArray, List.getElem_toArray, List.getElem_cons_succ, List.getElem_cons_zero, List.set_cons_succ, List.set_cons_zero]
    refine Y_skip (i := 4) rfl (by kernel_rfl) (by kernel_rfl) (by kernel_rfl) (by kernel_rfl) (fun _ _ _ h => h) (by rfl) hS0 ?_
    simp only [Act.put, List.setIfInBounds_toArray, List.getElem_toArray, List.getElem_cons_succ, List.getElem_cons_zero, List.set_cons_succ, List.set_cons_zero]
    refine Y_skip (i := 5) rfl (by kernel_rfl) (by kernel_rfl) (by kernel_rfl) (by kernel_rfl) (fun _ _ _ h => h) (by rfl) hS0 ?_
    simp only [Act.put, List.setIfInBounds_toArray, List.getElem_toArray, List.getElem_cons_succ, List.getElem_cons_zero, List.set_cons_succ, List.set_cons_zero]
    refine Y_skip (i := 6) rfl (by kernel_rfl) (by kernel_rfl) (by kernel_rfl) (by kernel_rfl) (fun _ _ _ h => h) (by rfl) hS0 ?_
    simp only [Act.put, List.setIfInBounds_toArray, List.getElem_toArray, List.getElem_cons_succ, List.getElem_cons_zero, List.set_cons_succ, List.set_cons_zero]
    refine Y_skip (i := 7) rfl (by kernel_rfl) (by kernel_rfl) (by kernel_rfl) (by kernel_rfl) (fun _ _ _ h => h) (by rfl) hS0 ?_
    simp only [Act.put, List.setIfInBounds_toArray, List.getElem_toArray, List.getElem_cons_succ, List.getElem_cons_zero, List.set_cons_succ, List.set_cons_zero]
    refine Y_skip (i := 8) rfl (by kernel_rfl) (by kernel_rfl) (by kernel_rfl) (by kernel_rfl) (fun _ _ _ h => h) (by rfl) hS0 ?_
    simp only [Act.put, List.setIfInBounds_toArray, List.getElem_toArray, List.getElem_cons_succ, List.getElem_cons_zero, List.set_cons_succ, List.set_cons_zero]
    refine Y_skip (i := 9) rfl (by kernel_rfl) (by kernel_rfl) (by kernel_rfl) (by kernel_rfl) (fun _ _ _ h => h) (by rfl) hS0 ?_
    simp only [Act.put, List.setIfInBounds_toArray, List.getElem_toArray, List.getElem_cons_succ, List.getElem_cons_zero, List.set_cons_succ, List.set_cons_zero]
    refine Y_skip (i := 10) rfl (by kernel_rfl) (by kernel_rfl) (by kernel_rfl) (by kernel_rfl) (fun _ _ _ h => h) (by rfl) hS0 ?_
    simp only [Act.put, List.setIfInBounds_toArray, List.getElem_toArray, List.getElem_cons_succ, List.getElem_cons_zero, List.set_cons_succ, List.set_cons_zero]
    refine Y_skip (i := 11) rfl (by kernel_rfl) (by kernel_rfl) (by kernel_rfl) (by kernel_rfl) (fun _ _ _ h => h) (by rfl) hS0 ?_
    simp only [Act.put, List.setIfInBounds_toArray, List.getElem_toArray, List.getElem_cons_succ, List.getElem_cons_zero, List.set_cons_succ, List.set_cons_zero]
    refine Y_skip (i := 12) rfl (by kernel_rfl) (by kernel_rfl) (by kernel_rfl) (by kernel_rfl) (fun _ _ _ h => h) (by rfl) hS0 ?_
    simp only [Act.put, List.setIfInBounds_toArray, List.getElem_toArray, List.getElem_cons_succ, List.getElem_cons_zero, List.set_cons_succ, List.set_cons_zero]
    refine Y_skip (i := 13) rfl (by kernel_rfl) (by kernel_rfl) (by kernel_rfl) (by kernel_rfl) (fun _ _ _ h => h) (by rfl) hS0 ?_
    simp only [Act.put, List.setIfInBounds_toArray, List.getElem_toArray, List.getElem_cons_succ, List.getElem_cons_zero, List.set_cons_succ, List.set_cons_zero]
    refine Y_skip (i := 14) rfl (by kernel_rfl) (by kernel_rfl) (by kernel_rfl) (by kernel_rfl) (fun _ _ _ h => h) (by rfl) hS0 ?_
    simp only [Act.put, List.setIfInBounds_toArray, List.getElem_toArray, List.getElem_cons_succ, List.getElem_cons_zero, List.set_cons_succ, List.set_cons_zero]
    refine Y_skip (i := 15) rfl (by kernel_rfl) (by kernel_rfl) (by kernel_rfl) (by kernel_rfl) (fun _ _ _ h => h) (by rfl) hS0 ?_
    simp only [Act.put, List.setIfInBounds_toArray, List.getElem_toArray, List.getElem_cons_succ, List.getElem_cons_zero, List.set_cons_succ, List.set_cons_zero]
    refine Y_skip (i := 16) rfl (by kernel_rfl) (by kernel_rfl) (by kernel_rfl) (by kernel_rfl) (fun _ _ _ h => h) (by rfl) hS0 ?_
    simp only [Act.put, List.setIfInBounds_toArray, List.getElem_toArray, List.getElem_cons_succ, List.getElem_cons_zero, List.set_cons_succ, List.set_cons_zero]
    refine Y_take (i := 17) (v := ?_) rfl (by kernel_rfl) (by kernel_rfl) (by kernel_rfl) (by kernel_rfl) (fun _ _ _ h => h) (by rfl) hS0 ?_ ?_
    rotate_left
    · (intro w' hSw; obtain ⟨p0, p1⟩ := hSw; (try go_simp); (try with_reducible rfl))
    simp only [Act.put, List.setIfInBounds_toArray, List.getElem_toArray, List.getElem_cons_succ, List.getElem_cons_zero, List.set_cons_succ, List.set_cons_zero]
    refine Z_done (by kernel_rfl) ?_ _
    all_goals
      go_wp2
    all_goals first
      | (go_ret; exact ⟨by rw [HR.out]; first | rfl | simp, by rw [HN.out]; first | exact HBX.out | exact below_drew HBX.out⟩)
      | (exfalso; omega)
  have h1' : ¬ tm < 0 := by omega
  by_cases i0 : i = 0
  · have i1 : ¬ (0 : Int) < (i : Int) := by omega
    have i2 : ¬ 0 < i := by omega
    have hpv := HPQ.out.2.1 i0
    have HOK : Hid ((decide (0 ≤ K) && hasM F tm) = OK) := by
      show _ = _
      rw [← HOK0.out, hpv, decide_eq_true h1]; rfl
    have HOKc : Hid (∀ (kn : Nat) c, K = kn → calls[kn]? = some c → OK = hasM c tm) := fun kn c e hk => by
      rw [← HOK.out, HCF.out kn c e hk, decide_eq_true (show 0 ≤ K by omega)]; rfl
    clear hpv HBX i0
    refine region_Z 99 (fun W => W.cell? ⟨D, 0, none⟩ = some (.int .i64 tm) ∧ True) (by kernel_rfl) ?_
    have hS0 : WA.drew.cell? ⟨D, 0, none⟩ = some (.int .i64 tm) ∧ True := ⟨x0, trivial⟩
    refine Y_take (i := 0) (v := ?_) rfl (by kernel_rfl) (by kernel_rfl) (by kernel_rfl) (by kernel_rfl) (fun _ _ _ h => h) (by rfl) hS0 ?_ ?_
    rotate_left
    · (intro w' hSw; obtain ⟨p0, p1⟩ := hSw; (try go_simp); (try with_reducible rfl))
    simp only [Act.put, List.setIfInBounds_toArray, List.getElem_toArray, List.getElem_cons_zero, List.set_cons_succ, List.set_cons_zero]
    refine Y_take (i := 1) (v := ?_) rfl (by kernel_rfl) (by kernel_rfl) (by kernel_rfl) (by kernel_rfl) (fun _ _ _ h => h) (by rfl) hS0 ?_ ?_
    rotate_left
    · (intro w' hSw; obtain ⟨p0, p1⟩ := hSw; (try go_simp); (try with_reducible rfl))
    simp only [Act.put, List.setIfInBounds_toArray, List.getElem_toArray, List.getElem_cons_succ, List.getElem_cons_zero, List.set_cons_succ, List.set_cons_zero]
    refine Y_take (i := 2) (v := ?_) rfl (by kernel_rfl) (by kernel_rfl) (by kernel_rfl) (by kernel_rfl) (fun _ _ _ h => h) (by rfl) hS0 ?_ ?_
    rotate_left
    · (intro w' hSw; obtain ⟨p0, p1⟩ := hSw; (try go_simp); (try with_reducible rfl))
    simp only [Act.put, List.setIfInBounds_toArray, List.getElem_toArray, List.getElem_cons_succ, List.getElem_cons_zero, List.set_cons_succ, List.set_cons_zero]
    refine Y_take (i := 3) (v := ?_) rfl (by kernel_rfl) (by kernel_rfl) (by kernel_rfl) (by kernel_rfl) (fun _ _ _ h => h) (by rfl) hS0 ?_ ?_
    rotate_left
    · (intro w' hSw; obtain ⟨p0, p1⟩ := hSw; (try go_simp); (try with_reducible rfl))
    simp only [Act.put, List.setIfInBounds_toArray, List.getElem_toArray, List.getElem_cons_succ, List.getElem_cons_zero, List.set_cons_succ, List.set_cons_zero]
    refine Y_take (i := 4) (v := ?_) rfl (by kernel_rfl) (by kernel_rfl) (by kernel_rfl) (by kernel_rfl) (fun _ _ _ h => h) (by rfl) hS0 ?_ ?_
    rotate_left
    · (intro w' hSw; obtain ⟨p0, p1⟩ := hSw; (try go_simp); (try with_reducible rfl))
    simp only [Act.put, List.setIfInBounds_toArray, List.getElem_toArray, List.getElem_cons_succ, List.getElem_cons_zero, List.set_cons_succ, List.set_cons_zero]
    refine Y_take (i := 5) (v := ?_) rfl (by kernel_rfl) (by kernel_rfl) (by kernel_rfl) (by kernel_rfl) (fun _ _ _ h => h) (by rfl) hS0 ?_ ?_
    rotate_left
    · (intro w' hSw; obtain ⟨p0, p1⟩ := hSw; (try go_simp); (try with_reducible rfl))
    simp only [Act.put, List.setIfInBounds_toArray, List.getElem_toArray, List.getElem_cons_succ, List.getElem_cons_zero, List.set_cons_succ, List.set_cons_zero]
    refine Y_take (i := 6) (v := ?_) rfl (by kernel_rfl) (by kernel_rfl) (by kernel_rfl) (by kernel_rfl) (fun _ _ _ h => h) (by rfl) hS0 ?_ ?_
    rotate_left
    · (intro w' hSw; obtain ⟨p0, p1⟩ := hSw; (try go_simp); (try with_reducible rfl))
    simp only [Act.put, List.setIfInBounds_toArray, List.getElem_toArray, List.getElem_cons_succ, List.getElem_cons_zero, List.set_cons_succ, List.set_cons_zero]
    refine Y_skip (i := 7) rfl (by kernel_rfl) (by kernel_rfl) (by kernel_rfl) (by kernel_rfl) (fun _ _ _ h => h) (by rfl) hS0 ?_
    simp only [Act.put, List.setIfInBounds_toArray, List.getElem_toArray, List.getElem_cons_succ, List.getElem_cons_zero, List.set_cons_succ, List.set_cons_zero]
    refine Y_skip (i := 8) rfl (by kernel_rfl) (by kernel_rfl) (by kernel_rfl) (by kernel_rfl) (fun _ _ _ h => h) (by rfl) hS0 ?_
    simp only [Act.put, List.setIfInBounds_toArray, List.getElem_toArray, List.getElem_cons_succ, List.getElem_cons_zero, List.set_cons_succ, List.set_cons_zero]
    refine Y_skip (i := 9) rfl (by kernel_rfl) (by kernel_rfl) (by kernel_rfl) (by kernel_rfl) (fun _ _ _ h => h) (by rfl) hS0 ?_
    simp only [Act.put, List.setIfInBounds_toArray, List.getElem_toArray, List.getElem_cons_succ, List.getElem_cons_zero, List.set_cons_succ, List.set_cons_zero]
    refine Y_skip (i := 10) rfl (by kernel_rfl) (by kernel_rfl) (by kernel_rfl) (by kernel_rfl) (fun _ _ _ h => h) (by rfl) hS0 ?_
    simp only [Act.put, List.setIfInBounds_toArray, List.getElem_toArray, List.getElem_cons_succ, List.getElem_cons_zero, List.set_cons_succ, List.set_cons_zero]
    refine Y_skip (i := 11) rfl (by kernel_rfl) (by kernel_rfl) (by kernel_rfl) (by kernel_rfl) (fun _ _ _ h => h) (by rfl) hS0 ?_
    simp only [Act.put, List.setIfInBounds_toArray, List.getElem_toArray, List.getElem_cons_succ, List.getElem_cons_zero, List.set_cons_succ, List.set_cons_zero]
    refine Y_skip (i := 12) rfl (by kernel_rfl) (by kernel_rfl) (by kernel_rfl) (by kernel_rfl) (fun _ _ _ h => h) (by rfl) hS0 ?_
    simp only [Act.put, List.setIfInBounds_toArray, List.getElem_toArray, List.getElem_cons_succ, List.getElem_cons_zero, List.set_cons_succ, List.set_cons_zero]
    refine Y_skip (i := 13) rfl (by kernel_rfl) (by kernel_rfl) (by kernel_rfl) (by kernel_rfl) (fun _ _ _ h => h) (by rfl) hS0 ?_
    simp only [Act.put, List.setIfInBounds_toArray, List.getElem_toArray, List.getElem_cons_succ, List.getElem_cons_zero, List.set_cons_succ, List.set_cons_zero]
    refine Y_skip (i := 14) rfl (by kernel_rfl) (by kernel_rfl) (by kernel_rfl) (by kernel_rfl) (fun _ _ _ h => h) (by rfl) hS0 ?_
    simp only [Act.put, List.setIfInBounds_toArray, List.getElem_toArray, List.getElem_cons_succ, List.getElem_cons_zero, List.set_cons_succ, List.set_cons_zero]
    refine Y_skip (i := 15) rfl (by kernel_rfl) (by kernel_rfl) (by kernel_rfl) (by kernel_rfl) (fun _ _ _ h => h) (by rfl) hS0 ?_
    simp only [Act.put, List.setIfInBounds_toArray, List.getElem_toArray, List.getElem_cons_succ, List.getElem_cons_zero, List.set_cons_succ, List.set_cons_zero]
    refine Y_take (i := 16) (v := ?_) rfl (by kernel_rfl) (by kernel_rfl) (by kernel_rfl) (by kernel_rfl) (fun _ _ _ h => h) (by rfl) hS0 ?_ ?_
    rotate_left
    · (intro w' hSw; obtain ⟨p0, p1⟩ := hSw; (try go_simp); (try with_reducible rfl))
    simp only [Act.put, List.setIfInBounds_toArray, List.getElem_toArray, List.getElem_cons_succ, List.getElem_cons_zero, List.set_cons_succ, List.set_cons_zero]
    refine Y_take (i := 17) (v := ?_) rfl (by kernel_rfl) (by kernel_rfl) (by kernel_rfl) (by kernel_rfl) (fun _ _ _ h => h) (by rfl) hS0 ?_ ?_
    rotate_left
    · (intro w' hSw; obtain ⟨p0, p1⟩ := hSw; (try go_simp); (try with_reducible rfl))
    simp only [Act.put, List.setIfInBounds_toArray, List.getElem_toArray, List.getElem_cons_succ, List.getElem_cons_zero, List.set_cons_succ, List.set_cons_zero]
    refine Z_done (by kernel_rfl) ?_ _
    all_goals
      have hfd := fun W hW => HFd.out W hW
      go_upto_region 5 with (go_at_call 33; refine (HFd.out _ (by first | exact Below.refl _ _ | exact below_drew (Below.refl _ _) | exact below_drewN (Below.refl _ _) _)).mono ?_; rintro e w4 ⟨rfl, hb4⟩)
      clear hfd x0 x1 x2 x3 x4
      have rD4 := (hb4.block D (by omega)).trans HA.out.1
      have x0 := cellB rD4 0 _ rfl
      have HB4 : Hid (Below (D + 1) WA w4) := hb4
      have HBX : Hid (Below N w w4) := HA.out.2.1.trans (hb4.mono HND.out)
      clear hb4 rD4
      by_cases k0 : K < 0
      · have HR : Hid (R = false) := by
          have : OK = false := by rw [← HOK.out, decide_eq_false (show ¬ 0 ≤ K by omega)]; simp
          show _ = _
          rw [HR0.out, this]; rfl
        refine region_Z 99 (fun W => W.cell? ⟨D, 0, none⟩ = some (.int .i64 tm) ∧ True) (by kernel_rfl) ?_
        have hS0 : w4.drew.cell? ⟨D, 0, none⟩ = some (.int .i64 tm) ∧ True := ⟨x0, trivial⟩
        refine Y_take (i := 0) (v := ?_) rfl (by kernel_rfl) (by kernel_rfl) (by kernel_rfl) (by kernel_rfl) (fun _ _ _ h => h) (by rfl) hS0 ?_ ?_
        rotate_left
        · (intro w' hSw; obtain ⟨p0, p1⟩ := hSw; (try go_simp); (try with_reducible rfl))
        simp only [Act.put, List.setIfInBounds_toArray, List.getElem_toArray, List.getElem_cons_zero, List.set_cons_succ, List.set_cons_zero]
        refine Y_take (i := 1) (v := ?_) rfl (by kernel_rfl) (by kernel_rfl) (by kernel_rfl) (by kernel_rfl) (fun _ _ _ h => h) (by rfl) hS0 ?_ ?_
        rotate_left
        · (intro w' hSw; obtain ⟨p0, p1⟩ := hSw; (try go_simp); (try with_reducible rfl))
        simp only [Act.put, List.setIfInBounds_toArray, List.getElem_toArray, List.getElem_cons_succ, List.getElem_cons_zero, List.set_cons_succ, List.set_cons_zero]
        refine Y_take (i := 2) (v := ?_) rfl (by kernel_rfl) (by kernel_rfl) (by kernel_rfl) (by kernel_rfl) (fun _ _ _ h => h) (by rfl) hS0 ?_ ?_
        rotate_left
        · (intro w' hSw; obtain ⟨p0, p1⟩ := hSw; (try go_simp); (try with_reducible rfl))
        simp only [Act.put, List.setIfInBounds_toArray, List.getElem_toArray, List.getElem_cons_succ, List.getElem_cons_zero, List.set_cons_succ, List.set_cons_zero]
        refine Y_skip (i := 3) rfl (by kernel_rfl) (by kernel_rfl) (by kernel_rfl) (by kernel_rfl) (fun _ _ _ h => h) (by rfl) hS0 ?_
        simp only [Act.put, List.setIfInBounds_toArray, List.getElem_toArray, List.getElem_cons_succ, List.getElem_cons_zero, List.set_cons_succ, List.set_cons_zero]
        refine Y_skip (i := 4) rfl (by kernel_rfl) (by kernel_rfl) (by kernel_rfl) (by kernel_rfl) (fun _ _ _ h => h) (by rfl) hS0 ?_
        simp only [Act.put, List.setIfInBounds_toArray, List.getElem_toArray, List.getElem_cons_succ, List.getElem_cons_zero, List.set_cons_succ, List.set_cons_zero]
        refine Y_skip (i := 5) rfl (by kernel_rfl) (by kernel_rfl) (by kernel_rfl) (by kernel_rfl) (fun _ _ _ h => h) (by rfl) hS0 ?_
        simp only [Act.put, List.setIfInBounds_toArray, List.getElem_toArray, List.getElem_cons_succ, List.getElem_cons_zero, List.set_cons_succ, List.set_cons_zero]
        refine Y_skip (i := 6) rfl (by kernel_rfl) (by kernel_rfl) (by kernel_rfl) (by kernel_rfl) (fun _ _ _ h => h) (by rfl) hS0 ?_
        simp only [Act.put, List.setIfInBounds_toArray, List.getElem_toArray, List.getElem_cons_succ, List.getElem_cons_zero, List.set_cons_succ, List.set_cons_zero]
        refine Y_skip (i := 7) rfl (by kernel_rfl) (by kernel_rfl) (by kernel_rfl) (by kernel_rfl) (fun _ _ _ h => h) (by rfl) hS0 ?_
        simp only [Act.put, List.setIfInBounds_toArray, List.getElem_toArray, List.getElem_cons_succ, List.getElem_cons_zero, List.set_cons_succ, List.set_cons_zero]
        refine Y_skip (i := 8) rfl (by kernel_rfl) (by kernel_rfl) (by kernel_rfl) (by kernel_rfl) (fun _ _ _ h => h) (by rfl) hS0 ?_
        simp only [Act.put, List.setIfInBounds_toArray, List.getElem_toArray, List.getElem_cons_succ, List.getElem_cons_zero, List.set_cons_succ, List.set_cons_zero]
        refine Y_skip (i := 9) rfl (by kernel_rfl) (by kernel_rfl) (by kernel_rfl) (by kernel_rfl) (fun _ _ _ h => h) (by rfl) hS0 ?_
        simp only [Act.put, List.setIfInBounds_toArray, List.getElem_toArray, List.getElem_cons_succ, List.getElem_cons_zero, List.set_cons_succ, List.set_cons_zero]
        refine Y_skip (i := 10) rfl (by kernel_rfl) (by kernel_rfl) (by kernel_rfl) (by kernel_rfl) (fun _ _ _ h => h) (by rfl) hS0 ?_
        simp only [Act.put, List.setIfInBounds_toArray, List.getElem_toArray, List.getElem_cons_succ, List.getElem_cons_zero, List.set_cons_succ, List.set_cons_zero]
        refine Y_take (i := 11) (v := ?_) rfl (by kernel_rfl) (by kernel_rfl) (by kernel_rfl) (by kernel_rfl) (fun _ _ _ h => h) (by rfl) hS0 ?_ ?_
        rotate_left
        · (intro w' hSw; obtain ⟨p0, p1⟩ := hSw; (try go_simp); (try with_reducible rfl))
        simp only [Act.put, List.setIfInBounds_toArray, List.getElem_toArray, List.getElem_cons_succ, List.getElem_cons_zero, List.set_cons_succ, List.set_cons_zero]
        refine Y_take (i := 12) (v := ?_) rfl (by kernel_rfl) (by kernel_rfl) (by kernel_rfl) (by kernel_rfl) (fun _ _ _ h => h) (by rfl) hS0 ?_ ?_
        rotate_left
        · (intro w' hSw; obtain ⟨p0, p1⟩ := hSw; (try go_simp); (try with_reducible rfl))
        simp only [Act.put, List.setIfInBounds_toArray, List.getElem_toArray, List.getElem_cons_succ, List.getElem_cons_zero, List.set_cons_succ, List.set_cons_zero]
        refine Y_skip (i := 13) rfl (by kernel_rfl) (by kernel_rfl) (by kernel_rfl) (by kernel_rfl) (fun _ _ _ h => h) (by rfl) hS0 ?_
        simp only [Act.put, List.setIfInBounds_toArray, List.getElem_toArray, List.getElem_cons_succ, List.getElem_cons_zero, List.set_cons_succ, List.set_cons_zero]
        refine Y_skip (i := 14) rfl (by kernel_rfl) (by kernel_rfl) (by kernel_rfl) (by kernel_rfl) (fun _ _ _ h => h) (by rfl) hS0 ?_
        simp only [Act.put, List.setIfInBounds_toArray, List.getElem_toArray, List.getElem_cons_succ, List.getElem_cons_zero, List.set_cons_succ, List.set_cons_zero]
        refine Y_skip (i := 15) rfl (by kernel_rfl) (by kernel_rfl) (by kernel_rfl) (by kernel_rfl) (fun _ _ _ h => h) (by rfl) hS0 ?_
        simp only [Act.put, List.setIfInBounds_toArray, List.getElem_toArray, List.getElem_cons_succ, List.getElem_cons_zero, List.set_cons_succ, List.set_cons_zero]
        refine Y_skip (i := 16) rfl (by kernel_rfl) (by kernel_rfl) (by kernel_rfl) (by kernel_rfl) (fun _ _ _ h => h) (by rfl) hS0 ?_
        simp only [Act.put, List.setIfInBounds_toArray, List.getElem_toArray, List.getElem_cons_succ, List.getElem_cons_zero, List.set_cons_succ, List.set_cons_zero]
        refine Y_skip (i := 17) rfl (by kernel_rfl) (by kernel_rfl) (by kernel_rfl) (by kernel_rfl) (fun _ _ _ h => h) (by rfl) hS0 ?_
        simp only [Act.put, List.setIfInBounds_toArray, List.getElem_toArray, List.getElem_cons_succ, List.getElem_cons_zero, List.set_cons_succ, List.set_cons_zero]
        refine Y_skip (i := 18) rfl (by kernel_rfl) (by kernel_rfl) (by kernel_rfl) (by kernel_rfl) (fun _ _ _ h => h) (by rfl) hS0 ?_
        simp only [Act.put, List.setIfInBounds_toArray, List.getElem_toArray, List.getElem_cons_succ, List.getElem_cons_zero, List.set_cons_succ, List.set_cons_zero]
        refine Y_skip (i := 19) rfl (by kernel_rfl) (by kernel_rfl) (by kernel_rfl) (by kernel_rfl) (fun _ _ _ h => h) (by rfl) hS0 ?_
        simp only [Act.put, List.setIfInBounds_toArray, List.getElem_toArray, List.getElem_cons_succ, List.getElem_cons_zero, List.set_cons_succ, List.set_cons_zero]
        refine Y_skip (i := 20) rfl (by kernel_rfl) (by kernel_rfl) (by kernel_rfl) (by kernel_rfl) (fun _ _ _ h => h) (by rfl) hS0 ?_
        simp only [Act.put, List.setIfInBounds_toArray, List.getElem_toArray, List.getElem_cons_succ, List.getElem_cons_zero, List.set_cons_succ, List.set_cons_zero]
        refine Y_skip (i := 21) rfl (by kernel_rfl) (by kernel_rfl) (by kernel_rfl) (by kernel_rfl) (fun _ _ _ h => h) (by rfl) hS0 ?_
        simp only [Act.put, List.setIfInBounds_toArray, List.getElem_toArray, List.getElem_cons_succ, List.getElem_cons_zero, List.set_cons_succ, List.set_cons_zero]
        refine Y_skip (i := 22) rfl (by kernel_rfl) (by kernel_rfl) (by kernel_rfl) (by kernel_rfl) (fun _ _ _ h => h) (by rfl) hS0 ?_
        simp only [Act.put, List.setIfInBounds_toArray, List.getElem_toArray, List.getElem_cons_succ, List.getElem_cons_zero, List.set_cons_succ, List.set_cons_zero]
        refine Y_skip (i := 23) rfl (by kernel_rfl) (by kernel_rfl) (by kernel_rfl) (by kernel_rfl) (fun _ _ _ h => h) (by rfl) hS0 ?_
        simp only [Act.put, List.setIfInBounds_toArray, List.getElem_toArray, List.getElem_cons_succ, List.getElem_cons_zero, List.set_cons_succ, List.set_cons_zero]
        refine Y_skip (i := 24) rfl (by kernel_rfl) (by kernel_rfl) (by kernel_rfl) (by kernel_rfl) (fun _ _ _ h => h) (by rfl) hS0 ?_
        simp only [Act.put, List.setIfInBounds_toArray, List.getElem_toArray, List.getElem_cons_succ, List.getElem_cons_zero, List.set_cons_succ, List.set_cons_zero]
        refine Y_skip (i := 25) rfl (by kernel_rfl) (by kernel_rfl) (by kernel_rfl) (by kernel_rfl) (fun _ _ _ h => h) (by rfl) hS0 ?_
        simp only [Act.put, List.setIfInBounds_toArray, List.getElem_toArray, List.getElem_cons_succ, List.getElem_cons_zero, List.set_cons_succ, List.set_cons_zero]
        refine Y_skip (i := 26) rfl (by kernel_rfl) (by kernel_rfl) (by kernel_rfl) (by kernel_rfl) (fun _ _ _ h => h) (by rfl) hS0 ?_
        simp only [Act.put, List.setIfInBounds_toArray, List.getElem_toArray, List.getElem_cons_succ, List.getElem_cons_zero, List.set_cons_succ, List.set_cons_zero]
        refine Y_skip (i := 27) rfl (by kernel_rfl) (by kernel_rfl) (by kernel_rfl) (by kernel_rfl) (fun _ _ _ h => h) (by rfl) hS0 ?_
        simp only [Act.put, List.setIfInBounds_toArray, List.getElem_toArray, List.getElem_cons_succ, List.getElem_cons_zero, List.set_cons_succ, List.set_cons_zero]
        refine Y_skip (i := 28) rfl (by kernel_rfl) (by kernel_rfl) (by kernel_rfl) (by kernel_rfl) (fun _ _ _ h => h) (by rfl) hS0 ?_
        simp only [Act.put, List.setIfInBounds_toArray, List.getElem_toArray, List.getElem_cons_succ, List.getElem_cons_zero, List.set_cons_succ, List.set_cons_zero]
        refine Y_take (i := 29) (v := ?_) rfl (by kernel_rfl) (by kernel_rfl) (by kernel_rfl) (by kernel_rfl) (fun _ _ _ h => h) (by rfl) hS0 ?_ ?_
        rotate_left
        · (intro w' hSw; obtain ⟨p0, p1⟩ := hSw; (try go_simp); (try with_reducible rfl))
        simp only [Act.put, List.setIfInBounds_toArray, List.getElem_toArray, List.getElem_cons_succ, List.getElem_cons_zero, List.set_cons_succ, List.set_cons_zero]
        refine Z_done (by kernel_rfl) ?_ _
        all_goals
          go_wp2
        all_goals first
          | (go_ret; exact ⟨by rw [HR.out]; first | rfl | simp, by rw [HN.out]; first | exact HBX.out | exact below_drew HBX.out⟩)
          | (exfalso; omega)
      obtain ⟨kn, rfl⟩ : ∃ kn : Nat, K = kn := ⟨K.toNat, by omega⟩
      have hkc := HKc.out kn rfl
      obtain ⟨hk1, c, hck⟩ := hkc
      have hOKc := HOKc.out kn c rfl hck
      obtain ⟨gc, ec, hgc, -, y⟩ := (HV.out _ HBX.out).at hck
      subst hgc
      obtain ⟨cl, no, ⟨kind, k, v, od⟩, fr, tt, T, E⟩ := c
      have HOKc2 : Hid (OK = (decide (fr ≤ tm) && (decide (tt = -1) || decide (tm ≤ tt)))) := hOKc
      have c6 : w4.cell? ⟨gc, ec + kn * 10 + 6, none⟩ = some (.int .i64 fr) := y 6 _ rfl
      have c7 : w4.cell? ⟨gc, ec + kn * 10 + 7, none⟩ = some (.int .i64 tt) := y 7 _ rfl
      have dk0 : (0 : Int) ≤ (kn : Int) := by omega
      have dk1 : (kn : Int) < (calls.length : Int) := by omega
      clear y hOKc hck k0
      by_cases f1 : fr ≤ tm
      rotate_left
      · have HR : Hid (R = false) := by
          have : OK = false := by rw [HOKc2.out, decide_eq_false f1]; rfl
          show _ = _
          rw [HR0.out, this]; rfl
        have f1' : tm < fr := by omega
        refine region_Z 99 (fun W => W.cell? ⟨D, 0, none⟩ = some (.int .i64 tm) ∧ W.cell? ⟨gc, ec + kn * 10 + 6, none⟩ = some (.int .i64 fr) ∧ W.cell? ⟨gc, ec + kn * 10 + 7, none⟩ = some (.int .i64 tt)) (by kernel_rfl) ?_
        have hS0 : w4.drew.cell? ⟨D, 0, none⟩ = some (.int .i64 tm) ∧ w4.drew.cell? ⟨gc, ec + kn * 10 + 6, none⟩ = some (.int .i64 fr) ∧ w4.drew.cell? ⟨gc, ec + kn * 10 + 7, none⟩ = some (.int .i64 tt) := ⟨x0, c6, c7⟩
        refine Y_take (i := 0) (v := ?_) rfl (by kernel_rfl) (by kernel_rfl) (by kernel_rfl) (by kernel_rfl) (fun _ _ _ h => h) (by rfl) hS0 ?_ ?_
        rotate_left
        · (intro w' hSw; obtain ⟨p0, p1, p2⟩ := hSw; (try go_simp); (try with_reducible rfl))
        simp only [Act.put, List.setIfInBounds_toArray, List.getElem_toArray, List.getElem_cons_zero, List.set_cons_succ, List.set_cons_zero]
        refine Y_take (i := 1) (v := ?_) rfl (by kernel_rfl) (by kernel_rfl) (by kernel_rfl) (by kernel_rfl) (fun _ _ _ h => h) (by rfl) hS0 ?_ ?_
        rotate_left
        · (intro w' hSw; obtain ⟨p0, p1, p2⟩ := hSw; (try go_simp); (try with_reducible rfl))
        simp only [Act.put, List.setIfInBounds_toArray, List.getElem_toArray, List.getElem_cons_succ, List.getElem_cons_zero, List.set_cons_succ, List.set_cons_zero]
        refine Y_take (i := 2) (v := ?_) rfl (by kernel_rfl) (by kernel_rfl) (by kernel_rfl) (by kernel_rfl) (fun _ _ _ h => h) (by rfl) hS0 ?_ ?_
        rotate_left
        · (intro w' hSw; obtain ⟨p0, p1, p2⟩ := hSw; (try go_simp); (try with_reducible rfl))
        simp only [Act.put, List.setIfInBounds_toArray, List.getElem_toArray, List.getElem_cons_succ, List.getElem_cons_zero, List.set_cons_succ, List.set_cons_zero]
        refine Y_take (i := 3) (v := ?_) rfl (by kernel_rfl) (by kernel_rfl) (by kernel_rfl) (by kernel_rfl) (fun _ _ _ h => h) (by rfl) hS0 ?_ ?_
        rotate_left
        · (intro w' hSw; obtain ⟨p0, p1, p2⟩ := hSw; (try go_simp); (try with_reducible rfl))
        simp only [Act.put, List.setIfInBounds_toArray, List.getElem_toArray, List.getElem_cons_succ, List.getElem_cons_zero, List.set_cons_succ, List.set_cons_zero]
        refine Y_take (i := 4) (v := ?_) rfl (by kernel_rfl) (by kernel_rfl) (by kernel_rfl) (by kernel_rfl) (fun _ _ _ h => h) (by rfl) hS0 ?_ ?_
        rotate_left
        · (intro w' hSw; obtain ⟨p0, p1, p2⟩ := hSw; (try go_simp); (try with_reducible rfl))
        simp only [Act.put, List.setIfInBounds_toArray, List.getElem_toArray, List.getElem_cons_succ, List.getElem_cons_zero, List.set_cons_succ, List.set_cons_zero]
        refine Y_take (i := 5) (v := ?_) rfl (by kernel_rfl) (by kernel_rfl) (by kernel_rfl) (by kernel_rfl) (fun _ _ _ h => h) (by rfl) hS0 ?_ ?_
        rotate_left
        · (intro w' hSw; obtain ⟨p0, p1, p2⟩ := hSw; (try go_simp); (try with_reducible rfl))
        simp only [Act.put, List.setIfInBounds_toArray, List.getElem_toArray, List.getElem_cons_succ, List.getElem_cons_zero, List.set_cons_succ, List.set_cons_zero]
        refine Y_take (i := 6) (v := ?_) rfl (by kernel_rfl) (by kernel_rfl) (by kernel_rfl) (by kernel_rfl) (fun _ _ _ h => h) (by rfl) hS0 ?_ ?_
        rotate_left
        · (intro w' hSw; obtain ⟨p0, p1, p2⟩ := hSw; (try go_simp); (try with_reducible rfl))
        simp only [Act.put, List.setIfInBounds_toArray, List.getElem_toArray, List.getElem_cons_succ, List.getElem_cons_zero, List.set_cons_succ, List.set_cons_zero]
        refine Y_take (i := 7) (v := ?_) rfl (by kernel_rfl) (by kernel_rfl) (by kernel_rfl) (by kernel_rfl) (fun _ _ _ h => h) (by rfl) hS0 ?_ ?_
        rotate_left
        · (intro w' hSw; obtain ⟨p0, p1, p2⟩ := hSw; (try go_simp); (try with_reducible rfl))
        simp only [Act.put, List.setIfInBounds_toArray, List.getElem_toArray, List.getElem_cons_succ, List.getElem_cons_zero, List.set_cons_succ, List.set_cons_zero]
        refine Y_take (i := 8) (v := ?_) rfl (by kernel_rfl) (by kernel_rfl) (by kernel_rfl) (by kernel_rfl) (fun _ _ _ h => h) (by rfl) hS0 ?_ ?_
        rotate_left
        · (intro w' hSw; obtain ⟨p0, p1, p2⟩ := hSw; (try go_simp); (try with_reducible rfl))
        simp only [Act.put, List.setIfInBounds_toArray, List.getElem_toArray, List.getElem_cons_succ, List.getElem_cons_zero, List.set_cons_succ, List.set_cons_zero]
        refine Y_take (i := 9) (v := ?_) rfl (by kernel_rfl) (by kernel_rfl) (by kernel_rfl) (by kernel_rfl) (fun _ _ _ h => h) (by rfl) hS0 ?_ ?_
        rotate_left
        · (intro w' hSw; obtain ⟨p0, p1, p2⟩ := hSw; (try go_simp); (try with_reducible rfl))
        simp only [Act.put, List.setIfInBounds_toArray, List.getElem_toArray, List.getElem_cons_succ, List.getElem_cons_zero, List.set_cons_succ, List.set_cons_zero]
        refine Y_take (i := 10) (v := ?_) rfl (by kernel_rfl) (by kernel_rfl) (by kernel_rfl) (by kernel_rfl) (fun _ _ _ h => h) (by rfl) hS0 ?_ ?_
        rotate_left
        · (intro w' hSw; obtain ⟨p0, p1, p2⟩ := hSw; (try go_simp); (try with_reducible rfl))
        simp only [Act.put, List.setIfInBounds_toArray, List.getElem_toArray, List.getElem_cons_succ, List.getElem_cons_zero, List.set_cons_succ, List.set_cons_zero]
        refine Y_take (i := 11) (v := ?_) rfl (by kernel_rfl) (by kernel_rfl) (by kernel_rfl) (by kernel_rfl) (fun _ _ _ h => h) (by rfl) hS0 ?_ ?_
        rotate_left
        · (intro w' hSw; obtain ⟨p0, p1, p2⟩ := hSw; (try go_simp); (try with_reducible rfl))
        simp only [Act.put, List.setIfInBounds_toArray, List.getElem_toArray, List.getElem_cons_succ, List.getElem_cons_zero, List.set_cons_succ, List.set_cons_zero]
        refine Y_take (i := 12) (v := ?_) rfl (by kernel_rfl) (by kernel_rfl) (by kernel_rfl) (by kernel_rfl) (fun _ _ _ h => h) (by rfl) hS0 ?_ ?_
        rotate_left
        · (intro w' hSw; obtain ⟨p0, p1, p2⟩ := hSw; (try go_simp); (try with_reducible rfl))
        simp only [Act.put, List.setIfInBounds_toArray, List.getElem_toArray, List.getElem_cons_succ, List.getElem_cons_zero, List.set_cons_succ, List.set_cons_zero]
        refine Y_skip (i := 13) rfl (by kernel_rfl) (by kernel_rfl) (by kernel_rfl) (by kernel_rfl) (fun _ _ _ h => h) (by rfl) hS0 ?_
        simp only [Act.put, List.setIfInBounds_toArray, List.getElem_toArray, List.getElem_cons_succ, List.getElem_cons_zero, List.set_cons_succ, List.set_cons_zero]
        refine Y_skip (i := 14) rfl (by kernel_rfl) (by kernel_rfl) (by kernel_rfl) (by kernel_rfl) (fun _ _ _ h => h) (by rfl) hS0 ?_
        simp only [Act.put, List.setIfInBounds_toArray, List.getElem_toArray, List.getElem_cons_succ, List.getElem_cons_zero, List.set_cons_succ, List.set_cons_zero]
        refine Y_skip (i := 15) rfl (by kernel_rfl) (by kernel_rfl) (by kernel_rfl) (by kernel_rfl) (fun _ _ _ h => h) (by rfl) hS0 ?_
        simp only [Act.put, List.setIfInBounds_toArray, List.getElem_toArray, List.getElem_cons_succ, List.getElem_cons_zero, List.set_cons_succ, List.set_cons_zero]
        refine Y_skip (i := 16) rfl (by kernel_rfl) (by kernel_rfl) (by kernel_rfl) (by kernel_rfl) (fun _ _ _ h => h) (by rfl) hS0 ?_
        simp only [Act.put, List.setIfInBounds_toArray, List.getElem_toArray, List.getElem_cons_succ, List.getElem_cons_zero, List.set_cons_succ, List.set_cons_zero]
        refine Y_skip (i := 17) rfl (by kernel_rfl) (by kernel_rfl) (by kernel_rfl) (by kernel_rfl) (fun _ _ _ h => h) (by rfl) hS0 ?_
        simp only [Act.put, List.setIfInBounds_toArray, List.getElem_toArray, List.getElem_cons_succ, List.getElem_cons_zero, List.set_cons_succ, List.set_cons_zero]
        refine Y_skip (i := 18) rfl (by kernel_rfl) (by kernel_rfl) (by kernel_rfl) (by kernel_rfl) (fun _ _ _ h => h) (by rfl) hS0 ?_
        simp only [Act.put, List.setIfInBounds_toArray, List.getElem_toArray, List.getElem_cons_succ, List.getElem_cons_zero, List.set_cons_succ, List.set_cons_zero]
        refine Y_skip (i := 19) rfl (by kernel_rfl) (by kernel_rfl) (by kernel_rfl) (by kernel_rfl) (fun _ _ _ h => h) (by rfl) hS0 ?_
        simp only [Act.put, List.setIfInBounds_toArray, List.getElem_toArray, List.getElem_cons_succ, List.getElem_cons_zero, List.set_cons_succ, List.set_cons_zero]
        refine Y_skip (i := 20) rfl (by kernel_rfl) (by kernel_rfl) (by kernel_rfl) (by kernel_rfl) (fun _ _ _ h => h) (by rfl) hS0 ?_
        simp only [Act.put, List.setIfInBounds_toArray, List.getElem_toArray, List.getElem_cons_succ, List.getElem_cons_zero, List.set_cons_succ, List.set_cons_zero]
        refine Y_skip (i := 21) rfl (by kernel_rfl) (by kernel_rfl) (by kernel_rfl) (by kernel_rfl) (fun _ _ _ h => h) (by rfl) hS0 ?_
        simp only [Act.put, List.setIfInBounds_toArray, List.getElem_toArray, List.getElem_cons_succ, List.getElem_cons_zero, List.set_cons_succ, List.set_cons_zero]
        refine Y_skip (i := 22) rfl (by kernel_rfl) (by kernel_rfl) (by kernel_rfl) (by kernel_rfl) (fun _ _ _ h => h) (by rfl) hS0 ?_
        simp only [Act.put, List.setIfInBounds_toArray, List.getElem_toArray, List.getElem_cons_succ, List.getElem_cons_zero, List.set_cons_succ, List.set_cons_zero]
        refine Y_skip (i := 23) rfl (by kernel_rfl) (by kernel_rfl) (by kernel_rfl) (by kernel_rfl) (fun _ _ _ h => h) (by rfl) hS0 ?_
        simp only [Act.put, List.setIfInBounds_toArray, List.getElem_toArray, List.getElem_cons_succ, List.getElem_cons_zero, List.set_cons_succ, List.set_cons_zero]
        refine Y_skip (i := 24) rfl (by kernel_rfl) (by kernel_rfl) (by kernel_rfl) (by kernel_rfl) (fun _ _ _ h => h) (by rfl) hS0 ?_
        simp only [Act.put, List.setIfInBounds_toArray, List.getElem_toArray, List.getElem_cons_succ, List.getElem_cons_zero, List.set_cons_succ, List.set_cons_zero]
        refine Y_skip (i := 25) rfl (by kernel_rfl) (by kernel_rfl) (by kernel_rfl) (by kernel_rfl) (fun _ _ _ h => h) (by rfl) hS0 ?_
        simp only [Act.put, List.setIfInBounds_toArray, List.getElem_toArray, List.getElem_cons_succ, List.getElem_cons_zero, List.set_cons_succ, List.set_cons_zero]
        refine Y_skip (i := 26) rfl (by kernel_rfl) (by kernel_rfl) (by kernel_rfl) (by kernel_rfl) (fun _ _ _ h => h) (by rfl) hS0 ?_
        simp only [Act.put, List.setIfInBounds_toArray, List.getElem_toArray, List.getElem_cons_succ, List.getElem_cons_zero, List.set_cons_succ, List.set_cons_zero]
        refine Y_skip (i := 27) rfl (by kernel_rfl) (by kernel_rfl) (by kernel_rfl) (by kernel_rfl) (fun _ _ _ h => h) (by rfl) hS0 ?_
        simp only [Act.put, List.setIfInBounds_toArray, List.getElem_toArray, List.getElem_cons_succ, List.getElem_cons_zero, List.set_cons_succ, List.set_cons_zero]
        refine Y_skip (i := 28) rfl (by kernel_rfl) (by kernel_rfl) (by kernel_rfl) (by kernel_rfl) (fun _ _ _ h => h) (by rfl) hS0 ?_
        simp only [Act.put, List.setIfInBounds_toArray, List.getElem_toArray, List.getElem_cons_succ, List.getElem_cons_zero, List.set_cons_succ, List.set_cons_zero]
        refine Y_take (i := 29) (v := ?_) rfl (by kernel_rfl) (by kernel_rfl) (by kernel_rfl) (by kernel_rfl) (fun _ _ _ h => h) (by rfl) hS0 ?_ ?_
        rotate_left
        · (intro w' hSw; obtain ⟨p0, p1, p2⟩ := hSw; (try go_simp); (try with_reducible rfl))
        simp only [Act.put, List.setIfInBounds_toArray, List.getElem_toArray, List.getElem_cons_succ, List.getElem_cons_zero, List.set_cons_succ, List.set_cons_zero]
        refine Z_done (by kernel_rfl) ?_ _
        all_goals
          go_wp2
        all_goals first
          | (go_ret; exact ⟨by rw [HR.out]; first | rfl | simp, by rw [HN.out]; first | exact HBX.out | exact below_drew HBX.out⟩)
          | (exfalso; omega)
      have f1' : ¬ tm < fr := by omega
      by_cases f2 : tt = -1
      · have b2 : (tt == -1) = true := by rw [f2]; rfl
        have b3 : (tt != -1) = false := by rw [f2]; rfl
        have HOKT : Hid (OK = true) := by
          show _ = _
          rw [HOKc2.out, decide_eq_true f1, decide_eq_true f2]; rfl
        clear f2
        refine region_Z 99 (fun W => W.cell? ⟨D, 0, none⟩ = some (.int .i64 tm) ∧ W.cell? ⟨gc, ec + kn * 10 + 6, none⟩ = some (.int .i64 fr) ∧ W.cell? ⟨gc, ec + kn * 10 + 7, none⟩ = some (.int .i64 tt)) (by kernel_rfl) ?_
        have hS0 : w4.drew.cell? ⟨D, 0, none⟩ = some (.int .i64 tm) ∧ w4.drew.cell? ⟨gc, ec + kn * 10 + 6, none⟩ = some (.int .i64 fr) ∧ w4.drew.cell? ⟨gc, ec + kn * 10 + 7, none⟩ = some (.int .i64 tt) := ⟨x0, c6, c7⟩
        refine Y_take (i := 0) (v := ?_) rfl (by kernel_rfl) (by kernel_rfl) (by kernel_rfl) (by kernel_rfl) (fun _ _ _ h => h) (by rfl) hS0 ?_ ?_
        rotate_left
        · (intro w' hSw; obtain ⟨p0, p1, p2⟩ := hSw; (try go_simp); (try with_reducible rfl))
        simp only [Act.put, List.setIfInBounds_toArray, List.getElem_toArray, List.getElem_cons_zero, List.set_cons_succ, List.set_cons_zero]
        refine Y_take (i := 1) (v := ?_) rfl (by kernel_rfl) (by kernel_rfl) (by kernel_rfl) (by kernel_rfl) (fun _ _ _ h => h) (by rfl) hS0 ?_ ?_
        rotate_left
        · (intro w' hSw; obtain ⟨p0, p1, p2⟩ := hSw; (try go_simp); (try with_reducible rfl))
        simp only [Act.put, List.setIfInBounds_toArray, List.getElem_toArray, List.getElem_cons_succ, List.getElem_cons_zero, List.set_cons_succ, List.set_cons_zero]
        refine Y_take (i := 2) (v := ?_) rfl (by kernel_rfl) (by kernel_rfl) (by kernel_rfl) (by kernel_rfl) (fun _ _ _ h => h) (by rfl) hS0 ?_ ?_
        rotate_left
        · (intro w' hSw; obtain ⟨p0, p1, p2⟩ := hSw; (try go_simp); (try with_reducible rfl))
        simp only [Act.put, List.setIfInBounds_toArray, List.getElem_toArray, List.getElem_cons_succ, List.getElem_cons_zero, List.set_cons_succ, List.set_cons_zero]
        refine Y_take (i := 3) (v := ?_) rfl (by kernel_rfl) (by kernel_rfl) (by kernel_rfl) (by kernel_rfl) (fun _ _ _ h => h) (by rfl) hS0 ?_ ?_
        rotate_left
        · (intro w' hSw; obtain ⟨p0, p1, p2⟩ := hSw; (try go_simp); (try with_reducible rfl))
        simp only [Act.put, List.setIfInBounds_toArray, List.getElem_toArray, List.getElem_cons_succ, List.getElem_cons_zero, List.set_cons_succ, List.set_cons_zero]
        refine Y_take (i := 4) (v := ?_) rfl (by kernel_rfl) (by kernel_rfl) (by kernel_rfl) (by kernel_rfl) (fun _ _ _ h => h) (by rfl) hS0 ?_ ?_
        rotate_left
        · (intro w' hSw; obtain ⟨p0, p1, p2⟩ := hSw; (try go_simp); (try with_reducible rfl))
        simp only [Act.put, List.setIfInBounds_toArray, List.getElem_toArray, List.getElem_cons_succ, List.getElem_cons_zero, List.set_cons_succ, List.set_cons_zero]
        refine Y_take (i := 5) (v := ?_) rfl (by kernel_rfl) (by kernel_rfl) (by kernel_rfl) (by kernel_rfl) (fun _ _ _ h => h) (by rfl) hS0 ?_ ?_
        rotate_left
        · (intro w' hSw; obtain ⟨p0, p1, p2⟩ := hSw; (try go_simp); (try with_reducible rfl))
        simp only [Act.put, List.setIfInBounds_toArray, List.getElem_toArray, List.getElem_cons_succ, List.getElem_cons_zero, List.set_cons_succ, List.set_cons_zero]
        refine Y_take (i := 6) (v := ?_) rfl (by kernel_rfl) (by kernel_rfl) (by kernel_rfl) (by kernel_rfl) (fun _ _ _ h => h) (by rfl) hS0 ?_ ?_
        rotate_left
        · (intro w' hSw; obtain ⟨p0, p1, p2⟩ := hSw; (try go_simp); (try with_reducible rfl))
        simp only [Act.put, List.setIfInBounds_toArray, List.getElem_toArray, List.getElem_cons_succ, List.getElem_cons_zero, List.set_cons_succ, List.set_cons_zero]
        refine Y_take (i := 7) (v := ?_) rfl (by kernel_rfl) (by kernel_rfl) (by kernel_rfl) (by kernel_rfl) (fun _ _ _ h => h) (by rfl) hS0 ?_ ?_
        rotate_left
        · (intro w' hSw; obtain ⟨p0, p1, p2⟩ := hSw; (try go_simp); (try with_reducible rfl))
        simp only [Act.put, List.setIfInBounds_toArray, List.getElem_toArray, List.getElem_cons_succ, List.getElem_cons_zero, List.set_cons_succ, List.set_cons_zero]
        refine Y_take (i := 8) (v := ?_) rfl (by kernel_rfl) (by kernel_rfl) (by kernel_rfl) (by kernel_rfl) (fun _ _ _ h => h) (by rfl) hS0 ?_ ?_
        rotate_left
        · (intro w' hSw; obtain ⟨p0, p1, p2⟩ := hSw; (try go_simp); (try with_reducible rfl))
        simp only [Act.put, List.setIfInBounds_toArray, List.getElem_toArray, List.getElem_cons_succ, List.getElem_cons_zero, List.set_cons_succ, List.set_cons_zero]
        refine Y_take (i := 9) (v := ?_) rfl (by kernel_rfl) (by kernel_rfl) (by kernel_rfl) (by kernel_rfl) (fun _ _ _ h => h) (by rfl) hS0 ?_ ?_
        rotate_left
        · (intro w' hSw; obtain ⟨p0, p1, p2⟩ := hSw; (try go_simp); (try with_reducible rfl))
        simp only [Act.put, List.setIfInBounds_toArray, List.getElem_toArray, List.getElem_cons_succ, List.getElem_cons_zero, List.set_cons_succ, List.set_cons_zero]
        refine Y_take (i := 10) (v := ?_) rfl (by kernel_rfl) (by kernel_rfl) (by kernel_rfl) (by kernel_rfl) (fun _ _ _ h => h) (by rfl) hS0 ?_ ?_
        rotate_left
        · (intro w' hSw; obtain ⟨p0, p1, p2⟩ := hSw; (try go_simp); (try with_reducible rfl))
        simp only [Act.put, List.setIfInBounds_toArray, List.getElem_toArray, List.getElem_cons_succ, List.getElem_cons_zero, List.set_cons_succ, List.set_cons_zero]
        refine Y_take (i := 11) (v := ?_) rfl (by kernel_rfl) (by kernel_rfl) (by kernel_rfl) (by kernel_rfl) (fun _ _ _ h => h) (by rfl) hS0 ?_ ?_
        rotate_left
        · (intro w' hSw; obtain ⟨p0, p1, p2⟩ := hSw; (try go_simp); (try with_reducible rfl))
        simp only [Act.put, List.setIfInBounds_toArray, List.getElem_toArray, List.getElem_cons_succ, List.getElem_cons_zero, List.set_cons_succ, List.set_cons_zero]
        refine Y_take (i := 12) (v := ?_) rfl (by kernel_rfl) (by kernel_rfl) (by kernel_rfl) (by kernel_rfl) (fun _ _ _ h => h) (by rfl) hS0 ?_ ?_
        rotate_left
        · (intro w' hSw; obtain ⟨p0, p1, p2⟩ := hSw; (try go_simp); (try with_reducible rfl))
        simp only [Act.put, List.setIfInBounds_toArray, List.getElem_toArray, List.getElem_cons_succ, List.getElem_cons_zero, List.set_cons_succ, List.set_cons_zero]
        refine Y_take (i := 13) (v := ?_) rfl (by kernel_rfl) (by kernel_rfl) (by kernel_rfl) (by kernel_rfl) (fun _ _ _ h => h) (by rfl) hS0 ?_ ?_
        rotate_left
        · (intro w' hSw; obtain ⟨p0, p1, p2⟩ := hSw; (try go_simp); (try with_reducible rfl))
        simp only [Act.put, List.setIfInBounds_toArray, List.getElem_toArray, List.getElem_cons_succ, List.getElem_cons_zero, List.set_cons_succ, List.set_cons_zero]
        refine Y_take (i := 14) (v := ?_) rfl (by kernel_rfl) (by kernel_rfl) (by kernel_rfl) (by kernel_rfl) (fun _ _ _ h => h) (by rfl) hS0 ?_ ?_
        rotate_left
        · (intro w' hSw; obtain ⟨p0, p1, p2⟩ := hSw; (try go_simp); (try with_reducible rfl))
        simp only [Act.put, List.setIfInBounds_toArray, List.getElem_toArray, List.getElem_cons_succ, List.getElem_cons_zero, List.set_cons_succ, List.set_cons_zero]
        refine Y_take (i := 15) (v := ?_) rfl (by kernel_rfl) (by kernel_rfl) (by kernel_rfl) (by kernel_rfl) (fun _ _ _ h => h) (by rfl) hS0 ?_ ?_
        rotate_left
        · (intro w' hSw; obtain ⟨p0, p1, p2⟩ := hSw; (try go_simp); (try with_reducible rfl))
        simp only [Act.put, List.setIfInBounds_toArray, List.getElem_toArray, List.getElem_cons_succ, List.getElem_cons_zero, List.set_cons_succ, List.set_cons_zero]
        refine Y_take (i := 16) (v := ?_) rfl (by kernel_rfl) (by kernel_rfl) (by kernel_rfl) (by kernel_rfl) (fun _ _ _ h => h) (by rfl) hS0 ?_ ?_
        rotate_left
        · (intro w' hSw; obtain ⟨p0, p1, p2⟩ := hSw; (try go_simp); (try with_reducible rfl))
        simp only [Act.put, List.setIfInBounds_toArray, List.getElem_toArray, List.getElem_cons_succ, List.getElem_cons_zero, List.set_cons_succ, List.set_cons_zero]
        refine Y_take (i := 17) (v := ?_) rfl (by kernel_rfl) (by kernel_rfl) (by kernel_rfl) (by kernel_rfl) (fun _ _ _ h => h) (by rfl) hS0 ?_ ?_
        rotate_left
        · (intro w' hSw; obtain ⟨p0, p1, p2⟩ := hSw; (try go_simp); (try with_reducible rfl))
        simp only [Act.put, List.setIfInBounds_toArray, List.getElem_toArray, List.getElem_cons_succ, List.getElem_cons_zero, List.set_cons_succ, List.set_cons_zero]
        refine Y_take (i := 18) (v := ?_) rfl (by kernel_rfl) (by kernel_rfl) (by kernel_rfl) (by kernel_rfl) (fun _ _ _ h => h) (by rfl) hS0 ?_ ?_
        rotate_left
        · (intro w' hSw; obtain ⟨p0, p1, p2⟩ := hSw; (try go_simp); (try with_reducible rfl))
        simp only [Act.put, List.setIfInBounds_toArray, List.getElem_toArray, List.getElem_cons_succ, List.getElem_cons_zero, List.set_cons_succ, List.set_cons_zero]
        refine Y_take (i := 19) (v := ?_) rfl (by kernel_rfl) (by kernel_rfl) (by kernel_rfl) (by kernel_rfl) (fun _ _ _ h => h) (by rfl) hS0 ?_ ?_
        rotate_left
        · (intro w' hSw; obtain ⟨p0, p1, p2⟩ := hSw; (try go_simp); (try with_reducible rfl))
        simp only [Act.put, List.setIfInBounds_toArray, List.getElem_toArray, List.getElem_cons_succ, List.getElem_cons_zero, List.set_cons_succ, List.set_cons_zero]
        refine Y_skip (i := 20) rfl (by kernel_rfl) (by kernel_rfl) (by kernel_rfl) (by kernel_rfl) (fun _ _ _ h => h) (by rfl) hS0 ?_
        simp only [Act.put, List.setIfInBounds_toArray, List.getElem_toArray, List.getElem_cons_succ, List.getElem_cons_zero, List.set_cons_succ, List.set_cons_zero]
        refine Y_skip (i := 21) rfl (by kernel_rfl) (by kernel_rfl) (by kernel_rfl) (by kernel_rfl) (fun _ _ _ h => h) (by rfl) hS0 ?_
        simp only [Act.put, List.setIfInBounds_toArray, List.getElem_toArray, List.getElem_cons_succ, List.getElem_cons_zero, List.set_cons_succ, List.set_cons_zero]
        refine Y_skip (i := 22) rfl (by kernel_rfl) (by kernel_rfl) (by kernel_rfl) (by kernel_rfl) (fun _ _ _ h => h) (by rfl) hS0 ?_
        simp only [Act.put, List.setIfInBounds_toArray, List.getElem_toArray, List.getElem_cons_succ, List.getElem_cons_zero, List.set_cons_succ, List.set_cons_zero]
        refine Y_skip (i := 23) rfl (by kernel_rfl) (by kernel_rfl) (by kernel_rfl) (by kernel_rfl) (fun _ _ _ h => h) (by rfl) hS0 ?_
        simp only [Act.put, List.setIfInBounds_toArray, List.getElem_toArray, List.getElem_cons_succ, List.getElem_cons_zero, List.set_cons_succ, List.set_cons_zero]
        refine Y_skip (i := 24) rfl (by kernel_rfl) (by kernel_rfl) (by kernel_rfl) (by kernel_rfl) (fun _ _ _ h => h) (by rfl) hS0 ?_
        simp only [Act.put, List.setIfInBounds_toArray, List.getElem_toArray, List.getElem_cons_succ, List.getElem_cons_zero, List.set_cons_succ, List.set_cons_zero]
        refine Y_skip (i := 25) rfl (by kernel_rfl) (by kernel_rfl) (by kernel_rfl) (by kernel_rfl) (fun _ _ _ h => h) (by rfl) hS0 ?_
        simp only [Act.put, List.setIfInBounds_toArray, List.getElem_toArray, List.getElem_cons_succ, List.getElem_cons_zero, List.set_cons_succ, List.set_cons_zero]
        refine Y_skip (i := 26) rfl (by kernel_rfl) (by kernel_rfl) (by kernel_rfl) (by kernel_rfl) (fun _ _ _ h => h) (by rfl) hS0 ?_
        simp only [Act.put, List.setIfInBounds_toArray, List.getElem_toArray, List.getElem_cons_succ, List.getElem_cons_zero, List.set_cons_succ, List.set_cons_zero]
        refine Y_skip (i := 27) rfl (by kernel_rfl) (by kernel_rfl) (by kernel_rfl) (by kernel_rfl) (fun _ _ _ h => h) (by rfl) hS0 ?_
        simp only [Act.put, List.setIfInBounds_toArray, List.getElem_toArray, List.getElem_cons_succ, List.getElem_cons_zero, List.set_cons_succ, List.set_cons_zero]
        refine Y_take (i := 28) (v := ?_) rfl (by kernel_rfl) (by kernel_rfl) (by kernel_rfl) (by kernel_rfl) (fun _ _ _ h => h) (by rfl) hS0 ?_ ?_
        rotate_left
        · (intro w' hSw; obtain ⟨p0, p1, p2⟩ := hSw; (try go_simp); (try with_reducible rfl))
        simp only [Act.put, List.setIfInBounds_toArray, List.getElem_toArray, List.getElem_cons_succ, List.getElem_cons_zero, List.set_cons_succ, List.set_cons_zero]
        refine Y_take (i := 29) (v := ?_) rfl (by kernel_rfl) (by kernel_rfl) (by kernel_rfl) (by kernel_rfl) (fun _ _ _ h => h) (by rfl) hS0 ?_ ?_
        rotate_left
        · (intro w' hSw; obtain ⟨p0, p1, p2⟩ := hSw; (try go_simp); (try with_reducible rfl))
        simp only [Act.put, List.setIfInBounds_toArray, List.getElem_toArray, List.getElem_cons_succ, List.getElem_cons_zero, List.set_cons_succ, List.set_cons_zero]
        refine Z_done (by kernel_rfl) ?_ _
        all_goals
          go_upto_region 7 with fail
          go_wp2_with fail
          go_loopg [9] i (fun gk j wr => ∃ m : Nat, m + gk = i ∧ j = .int .i64 m ∧ (∀ j, j < m → P j = false) ∧ Below (D + 1) WA wr)
          case atStart => exact ⟨0, by omega, rfl, fun j hj => by omega, by first | exact HB4.out | exact below_drew HB4.out⟩
          case round =>
            obtain ⟨m, hm, rfl, hP, hB⟩ := hrel
            have hBN := HA.out.2.1.trans (hB.mono HND.out)
            by_cases hm1 : m < i
            · obtain ⟨b, hb⟩ : ∃ b, pts[m]? = some b := ⟨_, List.getElem?_eq_getElem (by have := HL.out; omega)⟩
              have hPm := HBd.out m b hb
              obtain ⟨g2, e2, hg2, -, y⟩ := (HU.out _ hBN).at hb
              cases hg2
              obtain ⟨tm2, cl2, no2, T2, E2⟩ := b
              have HPm : Hid (P m = (decide (cl2 = pcl) && decide (no2 = pno))) := hPm
              have z1 : wr.cell? ⟨h, o + m * 5 + 1, none⟩ = some (.int .i64 cl2) := y 1 _ rfl
              have z2 : wr.cell? ⟨h, o + m * 5 + 2, none⟩ = some (.int .i64 no2) := y 2 _ rfl
              have rD := (hB.block D (by omega)).trans HA.out.1
              have r1 := cellB rD 1 _ rfl
              have r2 := cellB rD 2 _ rfl
              have d2 : (0 : Int) ≤ (m : Int) := by omega
              have d3 : (m : Int) < (i : Int) := by omega
              have d4 : (m : Int) < (pts.length : Int) := by have := HL.out; omega
              have d5 : i ≤ 100000 := by have := HL.out; omega
              have HBX : Hid (Below N w wr) := hBN
              have HBB : Hid (Below (D + 1) WA wr) := hB
              have HP : Hid (∀ j, j < m → P j = false) := hP
              clear hPm y hB hBN hb rD hP
              by_cases e0 : cl2 = pcl ∧ no2 = pno
              · have b0 : (cl2 == pcl) = true := by simpa using e0.1
                have b1 : (no2 == pno) = true := by simpa using e0.2
                have HR : Hid (R = false) := by
                  have hm9 : m < i := by omega
                  show _ = _
                  rw [HR0.out, fstB_at hm9 (by rw [HPm.out, decide_eq_true e0.1, decide_eq_true e0.2]; rfl) HP.out]
                  have : decide ((m : Int) = -1) = false := decide_eq_false (by omega)
                  rw [this, Bool.and_false]
                clear e0
                go_upto_region 10 with fail
                refine region_Z 99 (fun W => W.cell? ⟨h, o + m * 5 + 1, none⟩ = some (.int .i64 cl2) ∧ W.cell? ⟨h, o + m * 5 + 2, none⟩ = some (.int .i64 no2) ∧ W.cell? ⟨D, 1, none⟩ = some (.int .i64 pcl) ∧ W.cell? ⟨D, 2, none⟩ = some (.int .i64 pno)) (by kernel_rfl) ?_
                have hS0 : wr.drew.cell? ⟨h, o + m * 5 + 1, none⟩ = some (.int .i64 cl2) ∧ wr.drew.cell? ⟨h, o + m * 5 + 2, none⟩ = some (.int .i64 no2) ∧ wr.drew.cell? ⟨D, 1, none⟩ = some (.int .i64 pcl) ∧ wr.drew.cell? ⟨D, 2, none⟩ = some (.int .i64 pno) := ⟨z1, z2, r1, r2⟩
                refine Y_take (i := 0) (v := ?_) rfl (by kernel_rfl) (by kernel_rfl) (by kernel_rfl) (by kernel_rfl) (fun _ _ _ h => h) (by rfl) hS0 ?_ ?_
                rotate_left
                · (intro w' hSw; obtain ⟨p0, p1, p2, p3⟩ := hSw; (try go_simp); (try with_reducible rfl))
                simp only [Act.put, List.setIfInBounds_toArray, List.getElem_toArray, List.getElem_cons_zero, List.set_cons_succ, List.set_cons_zero]
                refine Y_take (i := 1) (v := ?_) rfl (by kernel_rfl) (by kernel_rfl) (by kernel_rfl) (by kernel_rfl) (fun _ _ _ h => h) (by rfl) hS0 ?_ ?_
                rotate_left
                · (intro w' hSw; obtain ⟨p0, p1, p2, p3⟩ := hSw; (try go_simp); (try with_reducible rfl))
                simp only [Act.put, List.setIfInBounds_toArray, List.getElem_toArray, List.getElem_cons_succ, List.getElem_cons_zero, List.set_cons_succ, List.set_cons_zero]
                refine Y_take (i := 2) (v := ?_) rfl (by kernel_rfl) (by kernel_rfl) (by kernel_rfl) (by kernel_rfl) (fun _ _ _ h => h) (by rfl) hS0 ?_ ?_
                rotate_left
                · (intro w' hSw; obtain ⟨p0, p1, p2, p3⟩ := hSw; (try go_simp); (try with_reducible rfl))
                simp only [Act.put, List.setIfInBounds_toArray, List.getElem_toArray, List.getElem_cons_succ, List.getElem_cons_zero, List.set_cons_succ, List.set_cons_zero]
                refine Y_take (i := 3) (v := ?_) rfl (by kernel_rfl) (by kernel_rfl) (by kernel_rfl) (by kernel_rfl) (fun _ _ _ h => h) (by rfl) hS0 ?_ ?_
                rotate_left
                · (intro w' hSw; obtain ⟨p0, p1, p2, p3⟩ := hSw; (try go_simp); (try with_reducible rfl))
                simp only [Act.put, List.setIfInBounds_toArray, List.getElem_toArray, List.getElem_cons_succ, List.getElem_cons_zero, List.set_cons_succ, List.set_cons_zero]
                refine Y_take (i := 4) (v := ?_) rfl (by kernel_rfl) (by kernel_rfl) (by kernel_rfl) (by kernel_rfl) (fun _ _ _ h => h) (by rfl) hS0 ?_ ?_
                rotate_left
                · (intro w' hSw; obtain ⟨p0, p1, p2, p3⟩ := hSw; (try go_simp); (try with_reducible rfl))
                simp only [Act.put, List.setIfInBounds_toArray, List.getElem_toArray, List.getElem_cons_succ, List.getElem_cons_zero, List.set_cons_succ, List.set_cons_zero]
                refine Y_take (i := 5) (v := ?_) rfl (by kernel_rfl) (by kernel_rfl) (by kernel_rfl) (by kernel_rfl) (fun _ _ _ h => h) (by rfl) hS0 ?_ ?_
                rotate_left
                · (intro w' hSw; obtain ⟨p0, p1, p2, p3⟩ := hSw; (try go_simp); (try with_reducible rfl))
                simp only [Act.put, List.setIfInBounds_toArray, List.getElem_toArray, List.getElem_cons_succ, List.getElem_cons_zero, List.set_cons_succ, List.set_cons_zero]
                refine Y_take (i := 6) (v := ?_) rfl (by kernel_rfl) (by kernel_rfl) (by kernel_rfl) (by kernel_rfl) (fun _ _ _ h => h) (by rfl) hS0 ?_ ?_
                rotate_left
                · (intro w' hSw; obtain ⟨p0, p1, p2, p3⟩ := hSw; (try go_simp); (try with_reducible rfl))
                simp only [Act.put, List.setIfInBounds_toArray, List.getElem_toArray, List.getElem_cons_succ, List.getElem_cons_zero, List.set_cons_succ, List.set_cons_zero]
                refine Y_take (i := 7) (v := ?_) rfl (by kernel_rfl) (by kernel_rfl) (by kernel_rfl) (by kernel_rfl) (fun _ _ _ h => h) (by rfl) hS0 ?_ ?_
                rotate_left
                · (intro w' hSw; obtain ⟨p0, p1, p2, p3⟩ := hSw; (try go_simp); (try with_reducible rfl))
                simp only [Act.put, List.setIfInBounds_toArray, List.getElem_toArray, List.getElem_cons_succ, List.getElem_cons_zero, List.set_cons_succ, List.set_cons_zero]
                refine Y_take (i := 8) (v := ?_) rfl (by kernel_rfl) (by kernel_rfl) (by kernel_rfl) (by kernel_rfl) (fun _ _ _ h => h) (by rfl) hS0 ?_ ?_
                rotate_left
                · (intro w' hSw; obtain ⟨p0, p1, p2, p3⟩ := hSw; (try go_simp); (try with_reducible rfl))
                simp only [Act.put, List.setIfInBounds_toArray, List.getElem_toArray, List.getElem_cons_succ, List.getElem_cons_zero, List.set_cons_succ, List.set_cons_zero]
                refine Y_take (i := 9) (v := ?_) rfl (by kernel_rfl) (by kernel_rfl) (by kernel_rfl) (by kernel_rfl) (fun _ _ _ h => h) (by rfl) hS0 ?_ ?_
                rotate_left
                · (intro w' hSw; obtain ⟨p0, p1, p2, p3⟩ := hSw; (try go_simp); (try with_reducible rfl))
                simp only [Act.put, List.setIfInBounds_toArray, List.getElem_toArray, List.getElem_cons_succ, List.getElem_cons_zero, List.set_cons_succ, List.set_cons_zero]
                refine Y_take (i := 10) (v := ?_) rfl (by kernel_rfl) (by kernel_rfl) (by kernel_rfl) (by kernel_rfl) (fun _ _ _ h => h) (by rfl) hS0 ?_ ?_
                rotate_left
                · (intro w' hSw; obtain ⟨p0, p1, p2, p3⟩ := hSw; (try go_simp); (try with_reducible rfl))
                simp only [Act.put, List.setIfInBounds_toArray, List.getElem_toArray, List.getElem_cons_succ, List.getElem_cons_zero, List.set_cons_succ, List.set_cons_zero]
                refine Y_take (i := 11) (v := ?_) rfl (by kernel_rfl) (by kernel_rfl) (by kernel_rfl) (by kernel_rfl) (fun _ _ _ h => h) (by rfl) hS0 ?_ ?_
                rotate_left
                · (intro w' hSw; obtain ⟨p0, p1, p2, p3⟩ := hSw; (try go_simp); (try with_reducible rfl))
                simp only [Act.put, List.setIfInBounds_toArray, List.getElem_toArray, List.getElem_cons_succ, List.getElem_cons_zero, List.set_cons_succ, List.set_cons_zero]
                refine Y_take (i := 12) (v := ?_) rfl (by kernel_rfl) (by kernel_rfl) (by kernel_rfl) (by kernel_rfl) (fun _ _ _ h => h) (by rfl) hS0 ?_ ?_
                rotate_left
                · (intro w' hSw; obtain ⟨p0, p1, p2, p3⟩ := hSw; (try go_simp); (try with_reducible rfl))
                simp only [Act.put, List.setIfInBounds_toArray, List.getElem_toArray, List.getElem_cons_succ, List.getElem_cons_zero, List.set_cons_succ, List.set_cons_zero]
                refine Y_take (i := 13) (v := ?_) rfl (by kernel_rfl) (by kernel_rfl) (by kernel_rfl) (by kernel_rfl) (fun _ _ _ h => h) (by rfl) hS0 ?_ ?_
                rotate_left
                · (intro w' hSw; obtain ⟨p0, p1, p2, p3⟩ := hSw; (try go_simp); (try with_reducible rfl))
                simp only [Act.put, List.setIfInBounds_toArray, List.getElem_toArray, List.getElem_cons_succ, List.getElem_cons_zero, List.set_cons_succ, List.set_cons_zero]
                refine Y_take (i := 14) (v := ?_) rfl (by kernel_rfl) (by kernel_rfl) (by kernel_rfl) (by kernel_rfl) (fun _ _ _ h => h) (by rfl) hS0 ?_ ?_
                rotate_left
                · (intro w' hSw; obtain ⟨p0, p1, p2, p3⟩ := hSw; (try go_simp); (try with_reducible rfl))
                simp only [Act.put, List.setIfInBounds_toArray, List.getElem_toArray, List.getElem_cons_succ, List.getElem_cons_zero, List.set_cons_succ, List.set_cons_zero]
                refine Y_take (i := 15) (v := ?_) rfl (by kernel_rfl) (by kernel_rfl) (by kernel_rfl) (by kernel_rfl) (fun _ _ _ h => h) (by rfl) hS0 ?_ ?_
                rotate_left
                · (intro w' hSw; obtain ⟨p0, p1, p2, p3⟩ := hSw; (try go_simp); (try with_reducible rfl))
                simp only [Act.put, List.setIfInBounds_toArray, List.getElem_toArray, List.getElem_cons_succ, List.getElem_cons_zero, List.set_cons_succ, List.set_cons_zero]
                refine Y_take (i := 16) (v := ?_) rfl (by kernel_rfl) (by kernel_rfl) (by kernel_rfl) (by kernel_rfl) (fun _ _ _ h => h) (by rfl) hS0 ?_ ?_
                rotate_left
                · (intro w' hSw; obtain ⟨p0, p1, p2, p3⟩ := hSw; (try go_simp); (try with_reducible rfl))
                simp only [Act.put, List.setIfInBounds_toArray, List.getElem_toArray, List.getElem_cons_succ, List.getElem_cons_zero, List.set_cons_succ, List.set_cons_zero]
                refine Y_take (i := 17) (v := ?_) rfl (by kernel_rfl) (by kernel_rfl) (by kernel_rfl) (by kernel_rfl) (fun _ _ _ h => h) (by rfl) hS0 ?_ ?_
                rotate_left
                · (intro w' hSw; obtain ⟨p0, p1, p2, p3⟩ := hSw; (try go_simp); (try with_reducible rfl))
                simp only [Act.put, List.setIfInBounds_toArray, List.getElem_toArray, List.getElem_cons_succ, List.getElem_cons_zero, List.set_cons_succ, List.set_cons_zero]
                refine Z_done (by kernel_rfl) ?_ _
                all_goals
                  go_wp2
                all_goals first
                  | (go_ret; exact ⟨by rw [HR.out]; first | rfl | simp, by rw [HN.out]; first | exact HBX.out | exact below_drew HBX.out⟩)
                  | (exfalso; omega)
              · have HG : Hid (∀ j, j < m + 1 → P j = false) := fun j hj => by
                  by_cases ej : j = m
                  · subst ej; rw [HPm.out, ← Bool.decide_and]; exact decide_eq_false e0
                  · exact HP.out j (by omega)
                by_cases e1 : cl2 = pcl
                · have b0 : (cl2 == pcl) = true := by simpa using e1
                  have b1 : (no2 == pno) = false := by simpa using fun h => e0 ⟨e1, h⟩
                  clear e0 e1
                  go_upto_region 10 with fail
                  refine region_Z 99 (fun W => W.cell? ⟨h, o + m * 5 + 1, none⟩ = some (.int .i64 cl2) ∧ W.cell? ⟨h, o + m * 5 + 2, none⟩ = some (.int .i64 no2) ∧ W.cell? ⟨D, 1, none⟩ = some (.int .i64 pcl) ∧ W.cell? ⟨D, 2, none⟩ = some (.int .i64 pno)) (by kernel_rfl) ?_
                  have hS0 : wr.drew.cell? ⟨h, o + m * 5 + 1, none⟩ = some (.int .i64 cl2) ∧ wr.drew.cell? ⟨h, o + m * 5 + 2, none⟩ = some (.int .i64 no2) ∧ wr.drew.cell? ⟨D, 1, none⟩ = some (.int .i64 pcl) ∧ wr.drew.cell? ⟨D, 2, none⟩ = some (.int .i64 pno) := ⟨z1, z2, r1, r2⟩
                  refine Y_take (i := 0) (v := ?_) rfl (by kernel_rfl) (by kernel_rfl) (by kernel_rfl) (by kernel_rfl) (fun _ _ _ h => h) (by rfl) hS0 ?_ ?_
                  rotate_left
                  · (intro w' hSw; obtain ⟨p0, p1, p2, p3⟩ := hSw; (try go_simp); (try with_reducible rfl))
                  simp only [Act.put, List.setIfInBounds_toArray, List.getElem_toArray, List.getElem_cons_zero, List.set_cons_succ, List.set_cons_zero]
                  refine Y_take (i := 1) (v := ?_) rfl (by kernel_rfl) (by kernel_rfl) (by kernel_rfl) (by kernel_rfl) (fun _ _ _ h => h) (by rfl) hS0 ?_ ?_
                  rotate_left
                  · (intro w' hSw; obtain ⟨p0, p1, p2, p3⟩ := hSw; (try go_simp); (try with_reducible rfl))
                  simp only [Act.put, List.setIfInBounds_toArray, List.getElem_toArray, List.getElem_cons_succ, List.getElem_cons_zero, List.set_cons_succ, List.set_cons_zero]
                  refine Y_take (i := 2) (v := ?_) rfl (by kernel_rfl) (by kernel_rfl) (by kernel_rfl) (by kernel_rfl) (fun _ _ _ h => h) (by rfl) hS0 ?_ ?_
                  rotate_left
                  · (intro w' hSw; obtain ⟨p0, p1, p2, p3⟩ := hSw; (try go_simp); (try with_reducible rfl))
                  simp only [Act.put, List.setIfInBounds_toArray, List.getElem_toArray, List.getElem_cons_succ, List.getElem_cons_zero, List.set_cons_succ, List.set_cons_zero]
                  refine Y_take (i := 3) (v := ?_) rfl (by kernel_rfl) (by kernel_rfl) (by kernel_rfl) (by kernel_rfl) (fun _ _ _ h => h) (by rfl) hS0 ?_ ?_
                  rotate_left
                  · (intro w' hSw; obtain ⟨p0, p1, p2, p3⟩ := hSw; (try go_simp); (try with_reducible rfl))
                  simp only [Act.put, List.setIfInBounds_toArray, List.getElem_toArray, List.getElem_cons_succ, List.getElem_cons_zero, List.set_cons_succ, List.set_cons_zero]
                  refine Y_take (i := 4) (v := ?_) rfl (by kernel_rfl) (by kernel_rfl) (by kernel_rfl) (by kernel_rfl) (fun _ _ _ h => h) (by rfl) hS0 ?_ ?_
                  rotate_left
                  · (intro w' hSw; obtain ⟨p0, p1, p2, p3⟩ := hSw; (try go_simp); (try with_reducible rfl))
                  simp only [Act.put, List.setIfInBounds_toArray, List.getElem_toArray, List.getElem_cons_succ, List.getElem_cons_zero, List.set_cons_succ, List.set_cons_zero]
                  refine Y_take (i := 5) (v := ?_) rfl (by kernel_rfl) (by kernel_rfl) (by kernel_rfl) (by kernel_rfl) (fun _ _ _ h => h) (by rfl) hS0 ?_ ?_
                  rotate_left
                  · (intro w' hSw; obtain ⟨p0, p1, p2, p3⟩ := hSw; (try go_simp); (try with_reducible rfl))
                  simp only [Act.put, List.setIfInBounds_toArray, List.getElem_toArray, List.getElem_cons_succ, List.getElem_cons_zero, List.set_cons_succ, List.set_cons_zero]
                  refine Y_take (i := 6) (v := ?_) rfl (by kernel_rfl) (by kernel_rfl) (by kernel_rfl) (by kernel_rfl) (fun _ _ _ h => h) (by rfl) hS0 ?_ ?_
                  rotate_left
                  · (intro w' hSw; obtain ⟨p0, p1, p2, p3⟩ := hSw; (try go_simp); (try with_reducible rfl))
                  simp only [Act.put, List.setIfInBounds_toArray, List.getElem_toArray, List.getElem_cons_succ, List.getElem_cons_zero, List.set_cons_succ, List.set_cons_zero]
                  refine Y_take (i := 7) (v := ?_) rfl (by kernel_rfl) (by kernel_rfl) (by kernel_rfl) (by kernel_rfl) (fun _ _ _ h => h) (by rfl) hS0 ?_ ?_
                  rotate_left
                  · (intro w' hSw; obtain ⟨p0, p1, p2, p3⟩ := hSw; (try go_simp); (try with_reducible rfl))
                  simp only [Act.put, List.setIfInBounds_toArray, List.getElem_toArray, List.getElem_cons_succ, List.getElem_cons_zero, List.set_cons_succ, List.set_cons_zero]
                  refine Y_take (i := 8) (v := ?_) rfl (by kernel_rfl) (by kernel_rfl) (by kernel_rfl) (by kernel_rfl) (fun _ _ _ h => h) (by rfl) hS0 ?_ ?_
                  rotate_left
                  · (intro w' hSw; obtain ⟨p0, p1, p2, p3⟩ := hSw; (try go_simp); (try with_reducible rfl))
                  simp only [Act.put, List.setIfInBounds_toArray, List.getElem_toArray, List.getElem_cons_succ, List.getElem_cons_zero, List.set_cons_succ, List.set_cons_zero]
                  refine Y_take (i := 9) (v := ?_) rfl (by kernel_rfl) (by kernel_rfl) (by kernel_rfl) (by kernel_rfl) (fun _ _ _ h => h) (by rfl) hS0 ?_ ?_
                  rotate_left
                  · (intro w' hSw; obtain ⟨p0, p1, p2, p3⟩ := hSw; (try go_simp); (try with_reducible rfl))
                  simp only [Act.put, List.setIfInBounds_toArray, List.getElem_toArray, List.getElem_cons_succ, List.getElem_cons_zero, List.set_cons_succ, List.set_cons_zero]
                  refine Y_take (i := 10) (v := ?_) rfl (by kernel_rfl) (by kernel_rfl) (by kernel_rfl) (by kernel_rfl) (fun _ _ _ h => h) (by rfl) hS0 ?_ ?_
                  rotate_left
                  · (intro w' hSw; obtain ⟨p0, p1, p2, p3⟩ := hSw; (try go_simp); (try with_reducible rfl))
                  simp only [Act.put, List.setIfInBounds_toArray, List.getElem_toArray, List.getElem_cons_succ, List.getElem_cons_zero, List.set_cons_succ, List.set_cons_zero]
                  refine Y_take (i := 11) (v := ?_) rfl (by kernel_rfl) (by kernel_rfl) (by kernel_rfl) (by kernel_rfl) (fun _ _ _ h => h) (by rfl) hS0 ?_ ?_
                  rotate_left
                  · (intro w' hSw; obtain ⟨p0, p1, p2, p3⟩ := hSw; (try go_simp); (try with_reducible rfl))
                  simp only [Act.put, List.setIfInBounds_toArray, List.getElem_toArray, List.getElem_cons_succ, List.getElem_cons_zero, List.set_cons_succ, List.set_cons_zero]
                  refine Y_take (i := 12) (v := ?_) rfl (by kernel_rfl) (by kernel_rfl) (by kernel_rfl) (by kernel_rfl) (fun _ _ _ h => h) (by rfl) hS0 ?_ ?_
                  rotate_left
                  · (intro w' hSw; obtain ⟨p0, p1, p2, p3⟩ := hSw; (try go_simp); (try with_reducible rfl))
                  simp only [Act.put, List.setIfInBounds_toArray, List.getElem_toArray, List.getElem_cons_succ, List.getElem_cons_zero, List.set_cons_succ, List.set_cons_zero]
                  refine Y_take (i := 13) (v := ?_) rfl (by kernel_rfl) (by kernel_rfl) (by kernel_rfl) (by kernel_rfl) (fun _ _ _ h => h) (by rfl) hS0 ?_ ?_
                  rotate_left
                  · (intro w' hSw; obtain ⟨p0, p1, p2, p3⟩ := hSw; (try go_simp); (try with_reducible rfl))
                  simp only [Act.put, List.setIfInBounds_toArray, List.getElem_toArray, List.getElem_cons_succ, List.getElem_cons_zero, List.set_cons_succ, List.set_cons_zero]
                  refine Y_take (i := 14) (v := ?_) rfl (by kernel_rfl) (by kernel_rfl) (by kernel_rfl) (by kernel_rfl) (fun _ _ _ h => h) (by rfl) hS0 ?_ ?_
                  rotate_left
                  · (intro w' hSw; obtain ⟨p0, p1, p2, p3⟩ := hSw; (try go_simp); (try with_reducible rfl))
                  simp only [Act.put, List.setIfInBounds_toArray, List.getElem_toArray, List.getElem_cons_succ, List.getElem_cons_zero, List.set_cons_succ, List.set_cons_zero]
                  refine Y_take (i := 15) (v := ?_) rfl (by kernel_rfl) (by kernel_rfl) (by kernel_rfl) (by kernel_rfl) (fun _ _ _ h => h) (by rfl) hS0 ?_ ?_
                  rotate_left
                  · (intro w' hSw; obtain ⟨p0, p1, p2, p3⟩ := hSw; (try go_simp); (try with_reducible rfl))
                  simp only [Act.put, List.setIfInBounds_toArray, List.getElem_toArray, List.getElem_cons_succ, List.getElem_cons_zero, List.set_cons_succ, List.set_cons_zero]
                  refine Y_take (i := 16) (v := ?_) rfl (by kernel_rfl) (by kernel_rfl) (by kernel_rfl) (by kernel_rfl) (fun _ _ _ h => h) (by rfl) hS0 ?_ ?_
                  rotate_left
                  · (intro w' hSw; obtain ⟨p0, p1, p2, p3⟩ := hSw; (try go_simp); (try with_reducible rfl))
                  simp only [Act.put, List.setIfInBounds_toArray, List.getElem_toArray, List.getElem_cons_succ, List.getElem_cons_zero, List.set_cons_succ, List.set_cons_zero]
                  refine Y_take (i := 17) (v := ?_) rfl (by kernel_rfl) (by kernel_rfl) (by kernel_rfl) (by kernel_rfl) (fun _ _ _ h => h) (by rfl) hS0 ?_ ?_
                  rotate_left
                  · (intro w' hSw; obtain ⟨p0, p1, p2, p3⟩ := hSw; (try go_simp); (try with_reducible rfl))
                  simp only [Act.put, List.setIfInBounds_toArray, List.getElem_toArray, List.getElem_cons_succ, List.getElem_cons_zero, List.set_cons_succ, List.set_cons_zero]
                  refine Z_done (by kernel_rfl) ?_ _
                  all_goals
                    go_wp2
                    go_roundg (i - (m + 1))
                    case measure => omega
                    case rel => exact ⟨m + 1, by omega, by go_num, HG.out, by first | exact HBB.out | exact below_drew HBB.out⟩
                · have b0 : (cl2 == pcl) = false := by simpa using e1
                  clear e0 e1
                  go_upto_region 10 with fail
                  refine region_Z 99 (fun W => W.cell? ⟨h, o + m * 5 + 1, none⟩ = some (.int .i64 cl2) ∧ W.cell? ⟨h, o + m * 5 + 2, none⟩ = some (.int .i64 no2) ∧ W.cell? ⟨D, 1, none⟩ = some (.int .i64 pcl) ∧ W.cell? ⟨D, 2, none⟩ = some (.int .i64 pno)) (by kernel_rfl) ?_
                  have hS0 : wr.drew.cell? ⟨h, o + m * 5 + 1, none⟩ = some (.int .i64 cl2) ∧ wr.drew.cell? ⟨h, o + m * 5 + 2, none⟩ = some (.int .i64 no2) ∧ wr.drew.cell? ⟨D, 1, none⟩ = some (.int .i64 pcl) ∧ wr.drew.cell? ⟨D, 2, none⟩ = some (.int .i64 pno) := ⟨z1, z2, r1, r2⟩
                  refine Y_take (i := 0) (v := ?_) rfl (by kernel_rfl) (by kernel_rfl) (by kernel_rfl) (by kernel_rfl) (fun _ _ _ h => h) (by rfl) hS0 ?_ ?_
                  rotate_left
                  · (intro w' hSw; obtain ⟨p0, p1, p2, p3⟩ := hSw; (try go_simp); (try with_reducible rfl))
                  simp only [Act.put, List.setIfInBounds_toArray, List.getElem_toArray, List.getElem_cons_zero, List.set_cons_succ, List.set_cons_zero]
                  refine Y_take (i := 1) (v := ?_) rfl (by kernel_rfl) (by kernel_rfl) (by kernel_rfl) (by kernel_rfl) (fun _ _ _ h => h) (by rfl) hS0 ?_ ?_
                  rotate_left
                  · (intro w' hSw; obtain ⟨p0, p1, p2, p3⟩ := hSw; (try go_simp); (try with_reducible rfl))
                  simp only [Act.put, List.setIfInBounds_toArray, List.getElem_toArray, List.getElem_cons_succ, List.getElem_cons_zero, List.set_cons_succ, List.set_cons_zero]
                  refine Y_take (i := 2) (v := ?_) rfl (by kernel_rfl) (by kernel_rfl) (by kernel_rfl) (by kernel_rfl) (fun _ _ _ h => h) (by rfl) hS0 ?_ ?_
                  rotate_left
                  · (intro w' hSw; obtain ⟨p0, p1, p2, p3⟩ := hSw; (try go_simp); (try with_reducible rfl))
                  simp only [Act.put, List.setIfInBounds_toArray, List.getElem_toArray, List.getElem_cons_succ, List.getElem_cons_zero, List.set_cons_succ, List.set_cons_zero]
                  refine Y_take (i := 3) (v := ?_) rfl (by kernel_rfl) (by kernel_rfl) (by kernel_rfl) (by kernel_rfl) (fun _ _ _ h => h) (by rfl) hS0 ?_ ?_
                  rotate_left
                  · (intro w' hSw; obtain ⟨p0, p1, p2, p3⟩ := hSw; (try go_simp); (try with_reducible rfl))
                  simp only [Act.put, List.setIfInBounds_toArray, List.getElem_toArray, List.getElem_cons_succ, List.getElem_cons_zero, List.set_cons_succ, List.set_cons_zero]
                  refine Y_take (i := 4) (v := ?_) rfl (by kernel_rfl) (by kernel_rfl) (by kernel_rfl) (by kernel_rfl) (fun _ _ _ h => h) (by rfl) hS0 ?_ ?_
                  rotate_left
                  · (intro w' hSw; obtain ⟨p0, p1, p2, p3⟩ := hSw; (try go_simp); (try with_reducible rfl))
                  simp only [Act.put, List.setIfInBounds_toArray, List.getElem_toArray, List.getElem_cons_succ, List.getElem_cons_zero, List.set_cons_succ, List.set_cons_zero]
                  refine Y_take (i := 5) (v := ?_) rfl (by kernel_rfl) (by kernel_rfl) (by kernel_rfl) (by kernel_rfl) (fun _ _ _ h => h) (by rfl) hS0 ?_ ?_
                  rotate_left
                  · (intro w' hSw; obtain ⟨p0, p1, p2, p3⟩ := hSw; (try go_simp); (try with_reducible rfl))
                  simp only [Act.put, List.setIfInBounds_toArray, List.getElem_toArray, List.getElem_cons_succ, List.getElem_cons_zero, List.set_cons_succ, List.set_cons_zero]
                  refine Y_take (i := 6) (v := ?_) rfl (by kernel_rfl) (by kernel_rfl) (by kernel_rfl) (by kernel_rfl) (fun _ _ _ h => h) (by rfl) hS0 ?_ ?_
                  rotate_left
                  · (intro w' hSw; obtain ⟨p0, p1, p2, p3⟩ := hSw; (try go_simp); (try with_reducible rfl))
                  simp only [Act.put, List.setIfInBounds_toArray, List.getElem_toArray, List.getElem_cons_succ, List.getElem_cons_zero, List.set_cons_succ, List.set_cons_zero]
                  refine Y_take (i := 7) (v := ?_) rfl (by kernel_rfl) (by kernel_rfl) (by kernel_rfl) (by kernel_rfl) (fun _ _ _ h => h) (by rfl) hS0 ?_ ?_
                  rotate_left
                  · (intro w' hSw; obtain ⟨p0, p1, p2, p3⟩ := hSw; (try go_simp); (try with_reducible rfl))
                  simp only [Act.put, List.setIfInBounds_toArray, List.getElem_toArray, List.getElem_cons_succ, List.getElem_cons_zero, List.set_cons_succ, List.set_cons_zero]
                  refine Y_take (i := 8) (v := ?_) rfl (by kernel_rfl) (by kernel_rfl) (by kernel_rfl) (by kernel_rfl) (fun _ _ _ h => h) (by rfl) hS0 ?_ ?_
                  rotate_left
                  · (intro w' hSw; obtain ⟨p0, p1, p2, p3⟩ := hSw; (try go_simp); (try with_reducible rfl))
                  simp only [Act.put, List.setIfInBounds_toArray, List.getElem_toArray, List.getElem_cons_succ, List.getElem_cons_zero, List.set_cons_succ, List.set_cons_zero]
                  refine Y_skip (i := 9) rfl (by kernel_rfl) (by kernel_rfl) (by kernel_rfl) (by kernel_rfl) (fun _ _ _ h => h) (by rfl) hS0 ?_
                  simp only [Act.put, List.setIfInBounds_toArray, List.getElem_toArray, List.getElem_cons_succ, List.getElem_cons_zero, List.set_cons_succ, List.set_cons_zero]
                  refine Y_skip (i := 10) rfl (by kernel_rfl) (by kernel_rfl) (by kernel_rfl) (by kernel_rfl) (fun _ _ _ h => h) (by rfl) hS0 ?_
                  simp only [Act.put, List.setIfInBounds_toArray, List.getElem_toArray, List.getElem_cons_succ, List.getElem_cons_zero, List.set_cons_succ, List.set_cons_zero]
                  refine Y_skip (i := 11) rfl (by kernel_rfl) (by kernel_rfl) (by kernel_rfl) (by kernel_rfl) (fun _ _ _ h => h) (by rfl) hS0 ?_
                  simp only [Act.put, List.setIfInBounds_toArray, List.getElem_toArray, List.getElem_cons_succ, List.getElem_cons_zero, List.set_cons_succ, List.set_cons_zero]
                  refine Y_skip (i := 12) rfl (by kernel_rfl) (by kernel_rfl) (by kernel_rfl) (by kernel_rfl) (fun _ _ _ h => h) (by rfl) hS0 ?_
                  simp only [Act.put, List.setIfInBounds_toArray, List.getElem_toArray, List.getElem_cons_succ, List.getElem_cons_zero, List.set_cons_succ, List.set_cons_zero]
                  refine Y_skip (i := 13) rfl (by kernel_rfl) (by kernel_rfl) (by kernel_rfl) (by kernel_rfl) (fun _ _ _ h => h) (by rfl) hS0 ?_
                  simp only [Act.put, List.setIfInBounds_toArray, List.getElem_toArray, List.getElem_cons_succ, List.getElem_cons_zero, List.set_cons_succ, List.set_cons_zero]
                  refine Y_skip (i := 14) rfl (by kernel_rfl) (by kernel_rfl) (by kernel_rfl) (by kernel_rfl) (fun _ _ _ h => h) (by rfl) hS0 ?_
                  simp only [Act.put, List.setIfInBounds_toArray, List.getElem_toArray, List.getElem_cons_succ, List.getElem_cons_zero, List.set_cons_succ, List.set_cons_zero]
                  refine Y_skip (i := 15) rfl (by kernel_rfl) (by kernel_rfl) (by kernel_rfl) (by kernel_rfl) (fun _ _ _ h => h) (by rfl) hS0 ?_
                  simp only [Act.put, List.setIfInBounds_toArray, List.getElem_toArray, List.getElem_cons_succ, List.getElem_cons_zero, List.set_cons_succ, List.set_cons_zero]
                  refine Y_skip (i := 16) rfl (by kernel_rfl) (by kernel_rfl) (by kernel_rfl) (by kernel_rfl) (fun _ _ _ h => h) (by rfl) hS0 ?_
                  simp only [Act.put, List.setIfInBounds_toArray, List.getElem_toArray, List.getElem_cons_succ, List.getElem_cons_zero, List.set_cons_succ, List.set_cons_zero]
                  refine Y_take (i := 17) (v := ?_) rfl (by kernel_rfl) (by kernel_rfl) (by kernel_rfl) (by kernel_rfl) (fun _ _ _ h => h) (by rfl) hS0 ?_ ?_
                  rotate_left
                  · (intro w' hSw; obtain ⟨p0, p1, p2, p3⟩ := hSw; (try go_simp); (try with_reducible rfl))
                  simp only [Act.put, List.setIfInBounds_toArray, List.getElem_toArray, List.getElem_cons_succ, List.getElem_cons_zero, List.set_cons_succ, List.set_cons_zero]
                  refine Z_done (by kernel_rfl) ?_ _
                  all_goals
                    go_wp2
                    go_roundg (i - (m + 1))
                    case measure => omega
                    case rel => exact ⟨m + 1, by omega, by go_num, HG.out, by first | exact HBB.out | exact below_drew HBB.out⟩
            obtain rfl : m = i := by omega
            have HR : Hid (R = true) := by
              show _ = _
              rw [HR0.out, fstB_none hP, HOKT.out]
              rfl
            have HBN : Hid (Below N w wr) := hBN
            clear hP hB hBN
            go_wp2
            go_ret
            exact ⟨by rw [HR.out]; first | rfl | simp, by rw [HN.out]; exact HBN.out⟩
      · have b2 : (tt == -1) = false := by simpa using f2
        have b3 : (tt != -1) = true := by simpa using f2
        by_cases f3 : tm ≤ tt
        · have HOKT : Hid (OK = true) := by
            show _ = _
            rw [HOKc2.out, decide_eq_true f1, decide_eq_true f3, Bool.or_true]; rfl
          have f3' : ¬ tt < tm := by omega
          refine region_Z 99 (fun W => W.cell? ⟨D, 0, none⟩ = some (.int .i64 tm) ∧ W.cell? ⟨gc, ec + kn * 10 + 6, none⟩ = some (.int .i64 fr) ∧ W.cell? ⟨gc, ec + kn * 10 + 7, none⟩ = some (.int .i64 tt)) (by kernel_rfl) ?_
          have hS0 : w4.drew.cell? ⟨D, 0, none⟩ = some (.int .i64 tm) ∧ w4.drew.cell? ⟨gc, ec + kn * 10 + 6, none⟩ = some (.int .i64 fr) ∧ w4.drew.cell? ⟨gc, ec + kn * 10 + 7, none⟩ = some (.int .i64 tt) := ⟨x0, c6, c7⟩
          refine Y_take (i := 0) (v := ?_) rfl (by kernel_rfl) (by kernel_rfl) (by kernel_rfl) (by kernel_rfl) (fun _ _ _ h => h) (by rfl) hS0 ?_ ?_
          rotate_left
          · (intro w' hSw; obtain ⟨p0, p1, p2⟩ := hSw; (try go_simp); (try with_reducible rfl))
          simp only [Act.put, List.setIfInBounds_toArray, List.getElem_toArray, List.getElem_cons_zero, List.set_cons_succ, List.set_cons_zero]
          refine Y_take (i := 1) (v := ?_) rfl (by kernel_rfl) (by kernel_rfl) (by kernel_rfl) (by kernel_rfl) (fun _ _ _ h => h) (by rfl) hS0 ?_ ?_
          rotate_left
          · (intro w' hSw; obtain ⟨p0, p1, p2⟩ := hSw; (try go_simp); (try with_reducible rfl))
          simp only [Act.put, List.setIfInBounds_toArray, List.getElem_toArray, List.getElem_cons_succ, List.getElem_cons_zero, List.set_cons_succ, List.set_cons_zero]
          refine Y_take (i := 2) (v := ?_) rfl (by kernel_rfl) (by kernel_rfl) (by kernel_rfl) (by kernel_rfl) (fun _ _ _ h => h) (by rfl) hS0 ?_ ?_
          rotate_left
          · (intro w' hSw; obtain ⟨p0, p1, p2⟩ := hSw; (try go_simp); (try with_reducible rfl))
          simp only [Act.put, List.setIfInBounds_toArray, List.getElem_toArray, List.getElem_cons_succ, List.getElem_cons_zero, List.set_cons_succ, List.set_cons_zero]
          refine Y_take (i := 3) (v := ?_) rfl (by kernel_rfl) (by kernel_rfl) (by kernel_rfl) (by kernel_rfl) (fun _ _ _ h => h) (by rfl) hS0 ?_ ?_
          rotate_left
          · (intro w' hSw; obtain ⟨p0, p1, p2⟩ := hSw; (try go_simp); (try with_reducible rfl))
          simp only [Act.put, List.setIfInBounds_toArray, List.getElem_toArray, List.getElem_cons_succ, List.getElem_cons_zero, List.set_cons_succ, List.set_cons_zero]
          refine Y_take (i := 4) (v := ?_) rfl (by kernel_rfl) (by kernel_rfl) (by kernel_rfl) (by kernel_rfl) (fun _ _ _ h => h) (by rfl) hS0 ?_ ?_
          rotate_left
          · (intro w' hSw; obtain ⟨p0, p1, p2⟩ := hSw; (try go_simp); (try with_reducible rfl))
          simp only [Act.put, List.setIfInBounds_toArray, List.getElem_toArray, List.getElem_cons_succ, List.getElem_cons_zero, List.set_cons_succ, List.set_cons_zero]
          refine Y_take (i := 5) (v := ?_) rfl (by kernel_rfl) (by kernel_rfl) (by kernel_rfl) (by kernel_rfl) (fun _ _ _ h => h) (by rfl) hS0 ?_ ?_
          rotate_left
          · (intro w' hSw; obtain ⟨p0, p1, p2⟩ := hSw; (try go_simp); (try with_reducible rfl))
          simp only [Act.put, List.setIfInBounds_toArray, List.getElem_toArray, List.getElem_cons_succ, List.getElem_cons_zero, List.set_cons_succ, List.set_cons_zero]
          refine Y_take (i := 6) (v := ?_) rfl (by kernel_rfl) (by kernel_rfl) (by kernel_rfl) (by kernel_rfl) (fun _ _ _ h => h) (by rfl) hS0 ?_ ?_
          rotate_left
          · (intro w' hSw; obtain ⟨p0, p1, p2⟩ := hSw; (try go_simp); (try with_reducible rfl))
          simp only [Act.put, List.setIfInBounds_toArray, List.getElem_toArray, List.getElem_cons_succ, List.getElem_cons_zero, List.set_cons_succ, List.set_cons_zero]
          refine Y_take (i := 7) (v := ?_) rfl (by kernel_rfl) (by kernel_rfl) (by kernel_rfl) (by kernel_rfl) (fun _ _ _ h => h) (by rfl) hS0 ?_ ?_
          rotate_left
          · (intro w' hSw; obtain ⟨p0, p1, p2⟩ := hSw; (try go_simp); (try with_reducible rfl))
          simp only [Act.put, List.setIfInBounds_toArray, List.getElem_toArray, List.getElem_cons_succ, List.getElem_cons_zero, List.set_cons_succ, List.set_cons_zero]
          refine Y_take (i := 8) (v := ?_) rfl (by kernel_rfl) (by kernel_rfl) (by kernel_rfl) (by kernel_rfl) (fun _ _ _ h => h) (by rfl) hS0 ?_ ?_
          rotate_left
          · (intro w' hSw; obtain ⟨p0, p1, p2⟩ := hSw; (try go_simp); (try with_reducible rfl))
          simp only [Act.put, List.setIfInBounds_toArray, List.getElem_toArray, List.getElem_cons_succ, List.getElem_cons_zero, List.set_cons_succ, List.set_cons_zero]
          refine Y_take (i := 9) (v := ?_) rfl (by kernel_rfl) (by kernel_rfl) (by kernel_rfl) (by kernel_rfl) (fun _ _ _ h => h) (by rfl) hS0 ?_ ?_
          rotate_left
          · (intro w' hSw; obtain ⟨p0, p1, p2⟩ := hSw; (try go_simp); (try with_reducible rfl))
          simp only [Act.put, List.setIfInBounds_toArray, List.getElem_toArray, List.getElem_cons_succ, List.getElem_cons_zero, List.set_cons_succ, List.set_cons_zero]
          refine Y_take (i := 10) (v := ?_) rfl (by kernel_rfl) (by kernel_rfl) (by kernel_rfl) (by kernel_rfl) (fun _ _ _ h => h) (by rfl) hS0 ?_ ?_
          rotate_left
          · (intro w' hSw; obtain ⟨p0, p1, p2⟩ := hSw; (try go_simp); (try with_reducible rfl))
          simp only [Act.put, List.setIfInBounds_toArray, List.getElem_toArray, List.getElem_cons_succ, List.getElem_cons_zero, List.set_cons_succ, List.set_cons_zero]
          refine Y_take (i := 11) (v := ?_) rfl (by kernel_rfl) (by kernel_rfl) (by kernel_rfl) (by kernel_rfl) (fun _ _ _ h => h) (by rfl) hS0 ?_ ?_
          rotate_left
          · (intro w' hSw; obtain ⟨p0, p1, p2⟩ := hSw; (try go_simp); (try with_reducible rfl))
          simp only [Act.put, List.setIfInBounds_toArray, List.getElem_toArray, List.getElem_cons_succ, List.getElem_cons_zero, List.set_cons_succ, List.set_cons_zero]
          refine Y_take (i := 12) (v := ?_) rfl (by kernel_rfl) (by kernel_rfl) (by kernel_rfl) (by kernel_rfl) (fun _ _ _ h => h) (by rfl) hS0 ?_ ?_
          rotate_left
          · (intro w' hSw; obtain ⟨p0, p1, p2⟩ := hSw; (try go_simp); (try with_reducible rfl))
          simp only [Act.put, List.setIfInBounds_toArray, List.getElem_toArray, List.getElem_cons_succ, List.getElem_cons_zero, List.set_cons_succ, List.set_cons_zero]
          refine Y_take (i := 13) (v := ?_) rfl (by kernel_rfl) (by kernel_rfl) (by kernel_rfl) (by kernel_rfl) (fun _ _ _ h => h) (by rfl) hS0 ?_ ?_
          rotate_left
          · (intro w' hSw; obtain ⟨p0, p1, p2⟩ := hSw; (try go_simp); (try with_reducible rfl))
          simp only [Act.put, List.setIfInBounds_toArray, List.getElem_toArray, List.getElem_cons_succ, List.getElem_cons_zero, List.set_cons_succ, List.set_cons_zero]
          refine Y_take (i := 14) (v := ?_) rfl (by kernel_rfl) (by kernel_rfl) (by kernel_rfl) (by kernel_rfl) (fun _ _ _ h => h) (by rfl) hS0 ?_ ?_
          rotate_left
          · (intro w' hSw; obtain ⟨p0, p1, p2⟩ := hSw; (try go_simp); (try with_reducible rfl))
          simp only [Act.put, List.setIfInBounds_toArray, List.getElem_toArray, List.getElem_cons_succ, List.getElem_cons_zero, List.set_cons_succ, List.set_cons_zero]
          refine Y_take (i := 15) (v := ?_) rfl (by kernel_rfl) (by kernel_rfl) (by kernel_rfl) (by kernel_rfl) (fun _ _ _ h => h) (by rfl) hS0 ?_ ?_
          rotate_left
          · (intro w' hSw; obtain ⟨p0, p1, p2⟩ := hSw; (try go_simp); (try with_reducible rfl))
          simp only [Act.put, List.setIfInBounds_toArray, List.getElem_toArray, List.getElem_cons_succ, List.getElem_cons_zero, List.set_cons_succ, List.set_cons_zero]
          refine Y_take (i := 16) (v := ?_) rfl (by kernel_rfl) (by kernel_rfl) (by kernel_rfl) (by kernel_rfl) (fun _ _ _ h => h) (by rfl) hS0 ?_ ?_
          rotate_left
          · (intro w' hSw; obtain ⟨p0, p1, p2⟩ := hSw; (try go_simp); (try with_reducible rfl))
          simp only [Act.put, List.setIfInBounds_toArray, List.getElem_toArray, List.getElem_cons_succ, List.getElem_cons_zero, List.set_cons_succ, List.set_cons_zero]
          refine Y_take (i := 17) (v := ?_) rfl (by kernel_rfl) (by kernel_rfl) (by kernel_rfl) (by kernel_rfl) (fun _ _ _ h => h) (by rfl) hS0 ?_ ?_
          rotate_left
          · (intro w' hSw; obtain ⟨p0, p1, p2⟩ := hSw; (try go_simp); (try with_reducible rfl))
          simp only [Act.put, List.setIfInBounds_toArray, List.getElem_toArray, List.getElem_cons_succ, List.getElem_cons_zero, List.set_cons_succ, List.set_cons_zero]
          refine Y_take (i := 18) (v := ?_) rfl (by kernel_rfl) (by kernel_rfl) (by kernel_rfl) (by kernel_rfl) (fun _ _ _ h => h) (by rfl) hS0 ?_ ?_
          rotate_left
          · (intro w' hSw; obtain ⟨p0, p1, p2⟩ := hSw; (try go_simp); (try with_reducible rfl))
          simp only [Act.put, List.setIfInBounds_toArray, List.getElem_toArray, List.getElem_cons_succ, List.getElem_cons_zero, List.set_cons_succ, List.set_cons_zero]
          refine Y_take (i := 19) (v := ?_) rfl (by kernel_rfl) (by kernel_rfl) (by kernel_rfl) (by kernel_rfl) (fun _ _ _ h => h) (by rfl) hS0 ?_ ?_
          rotate_left
          · (intro w' hSw; obtain ⟨p0, p1, p2⟩ := hSw; (try go_simp); (try with_reducible rfl))
          simp only [Act.put, List.setIfInBounds_toArray, List.getElem_toArray, List.getElem_cons_succ, List.getElem_cons_zero, List.set_cons_succ, List.set_cons_zero]
          refine Y_take (i := 20) (v := ?_) rfl (by kernel_rfl) (by kernel_rfl) (by kernel_rfl) (by kernel_rfl) (fun _ _ _ h => h) (by rfl) hS0 ?_ ?_
          rotate_left
          · (intro w' hSw; obtain ⟨p0, p1, p2⟩ := hSw; (try go_simp); (try with_reducible rfl))
          simp only [Act.put, List.setIfInBounds_toArray, List.getElem_toArray, List.getElem_cons_succ, List.getElem_cons_zero, List.set_cons_succ, List.set_cons_zero]
          refine Y_take (i := 21) (v := ?_) rfl (by kernel_rfl) (by kernel_rfl) (by kernel_rfl) (by kernel_rfl) (fun _ _ _ h => h) (by rfl) hS0 ?_ ?_
          rotate_left
          · (intro w' hSw; obtain ⟨p0, p1, p2⟩ := hSw; (try go_simp); (try with_reducible rfl))
          simp only [Act.put, List.setIfInBounds_toArray, List.getElem_toArray, List.getElem_cons_succ, List.getElem_cons_zero, List.set_cons_succ, List.set_cons_zero]
          refine Y_take (i := 22) (v := ?_) rfl (by kernel_rfl) (by kernel_rfl) (by kernel_rfl) (by kernel_rfl) (fun _ _ _ h => h) (by rfl) hS0 ?_ ?_
          rotate_left
          · (intro w' hSw; obtain ⟨p0, p1, p2⟩ := hSw; (try go_simp); (try with_reducible rfl))
          simp only [Act.put, List.setIfInBounds_toArray, List.getElem_toArray, List.getElem_cons_succ, List.getElem_cons_zero, List.set_cons_succ, List.set_cons_zero]
          refine Y_take (i := 23) (v := ?_) rfl (by kernel_rfl) (by kernel_rfl) (by kernel_rfl) (by kernel_rfl) (fun _ _ _ h => h) (by rfl) hS0 ?_ ?_
          rotate_left
          · (intro w' hSw; obtain ⟨p0, p1, p2⟩ := hSw; (try go_simp); (try with_reducible rfl))
          simp only [Act.put, List.setIfInBounds_toArray, List.getElem_toArray, List.getElem_cons_succ, List.getElem_cons_zero, List.set_cons_succ, List.set_cons_zero]
          refine Y_take (i := 24) (v := ?_) rfl (by kernel_rfl) (by kernel_rfl) (by kernel_rfl) (by kernel_rfl) (fun _ _ _ h => h) (by rfl) hS0 ?_ ?_
          rotate_left
          · (intro w' hSw; obtain ⟨p0, p1, p2⟩ := hSw; (try go_simp); (try with_reducible rfl))
          simp only [Act.put, List.setIfInBounds_toArray, List.getElem_toArray, List.getElem_cons_succ, List.getElem_cons_zero, List.set_cons_succ, List.set_cons_zero]
          refine Y_take (i := 25) (v := ?_) rfl (by kernel_rfl) (by kernel_rfl) (by kernel_rfl) (by kernel_rfl) (fun _ _ _ h => h) (by rfl) hS0 ?_ ?_
          rotate_left
          · (intro w' hSw; obtain ⟨p0, p1, p2⟩ := hSw; (try go_simp); (try with_reducible rfl))
          simp only [Act.put, List.setIfInBounds_toArray, List.getElem_toArray, List.getElem_cons_succ, List.getElem_cons_zero, List.set_cons_succ, List.set_cons_zero]
          refine Y_take (i := 26) (v := ?_) rfl (by kernel_rfl) (by kernel_rfl) (by kernel_rfl) (by kernel_rfl) (fun _ _ _ h => h) (by rfl) hS0 ?_ ?_
          rotate_left
          · (intro w' hSw; obtain ⟨p0, p1, p2⟩ := hSw; (try go_simp); (try with_reducible rfl))
          simp only [Act.put, List.setIfInBounds_toArray, List.getElem_toArray, List.getElem_cons_succ, List.getElem_cons_zero, List.set_cons_succ, List.set_cons_zero]
          refine Y_take (i := 27) (v := ?_) rfl (by kernel_rfl) (by kernel_rfl) (by kernel_rfl) (by kernel_rfl) (fun _ _ _ h => h) (by rfl) hS0 ?_ ?_
          rotate_left
          · (intro w' hSw; obtain ⟨p0, p1, p2⟩ := hSw; (try go_simp); (try with_reducible rfl))
          simp only [Act.put, List.setIfInBounds_toArray, List.getElem_toArray, List.getElem_cons_succ, List.getElem_cons_zero, List.set_cons_succ, List.set_cons_zero]
          refine Y_take (i := 28) (v := ?_) rfl (by kernel_rfl) (by kernel_rfl) (by kernel_rfl) (by kernel_rfl) (fun _ _ _ h => h) (by rfl) hS0 ?_ ?_
          rotate_left
          · (intro w' hSw; obtain ⟨p0, p1, p2⟩ := hSw; (try go_simp); (try with_reducible rfl))
          simp only [Act.put, List.setIfInBounds_toArray, List.getElem_toArray, List.getElem_cons_succ, List.getElem_cons_zero, List.set_cons_succ, List.set_cons_zero]
          refine Y_take (i := 29) (v := ?_) rfl (by kernel_rfl) (by kernel_rfl) (by kernel_rfl) (by kernel_rfl) (fun _ _ _ h => h) (by rfl) hS0 ?_ ?_
          rotate_left
          · (intro w' hSw; obtain ⟨p0, p1, p2⟩ := hSw; (try go_simp); (try with_reducible rfl))
          simp only [Act.put, List.setIfInBounds_toArray, List.getElem_toArray, List.getElem_cons_succ, List.getElem_cons_zero, List.set_cons_succ, List.set_cons_zero]
          refine Z_done (by kernel_rfl) ?_ _
          all_goals
            go_upto_region 7 with fail
            go_wp2_with fail
            go_loopg [9] i (fun gk j wr => ∃ m : Nat, m + gk = i ∧ j = .int .i64 m ∧ (∀ j, j < m → P j = false) ∧ Below (D + 1) WA wr)
            case atStart => exact ⟨0, by omega, rfl, fun j hj => by omega, by first | exact HB4.out | exact below_drew HB4.out⟩
            case round =>
              obtain ⟨m, hm, rfl, hP, hB⟩ := hrel
              have hBN := HA.out.2.1.trans (hB.mono HND.out)
              by_cases hm1 : m < i
              · obtain ⟨b, hb⟩ : ∃ b, pts[m]? = some b := ⟨_, List.getElem?_eq_getElem (by have := HL.out; omega)⟩
                have hPm := HBd.out m b hb
                obtain ⟨g2, e2, hg2, -, y⟩ := (HU.out _ hBN).at hb
                cases hg2
                obtain ⟨tm2, cl2, no2, T2, E2⟩ := b
                have HPm : Hid (P m = (decide (cl2 = pcl) && decide (no2 = pno))) := hPm
                have z1 : wr.cell? ⟨h, o + m * 5 + 1, none⟩ = some (.int .i64 cl2) := y 1 _ rfl
                have z2 : wr.cell? ⟨h, o + m * 5 + 2, none⟩ = some (.int .i64 no2) := y 2 _ rfl
                have rD := (hB.block D (by omega)).trans HA.out.1
                have r1 := cellB rD 1 _ rfl
                have r2 := cellB rD 2 _ rfl
                have d2 : (0 : Int) ≤ (m : Int) := by omega
                have d3 : (m : Int) < (i : Int) := by omega
                have d4 : (m : Int) < (pts.length : Int) := by have := HL.out; omega
                have d5 : i ≤ 100000 := by have := HL.out; omega
                have HBX : Hid (Below N w wr) := hBN
                have HBB : Hid (Below (D + 1) WA wr) := hB
                have HP : Hid (∀ j, j < m → P j = false) := hP
                clear hPm y hB hBN hb rD hP
                by_cases e0 : cl2 = pcl ∧ no2 = pno
                · have b0 : (cl2 == pcl) = true := by simpa using e0.1
                  have b1 : (no2 == pno) = true := by simpa using e0.2
                  have HR : Hid (R = false) := by
                    have hm9 : m < i := by omega
                    show _ = _
                    rw [HR0.out, fstB_at hm9 (by rw [HPm.out, decide_eq_true e0.1, decide_eq_true e0.2]; rfl) HP.out]
                    have : decide ((m : Int) = -1) = false := decide_eq_false (by omega)
                    rw [this, Bool.and_false]
                  clear e0
                  go_upto_region 10 with fail
                  refine region_Z 99 (fun W => W.cell? ⟨h, o + m * 5 + 1, none⟩ = some (.int .i64 cl2) ∧ W.cell? ⟨h, o + m * 5 + 2, none⟩ = some (.int .i64 no2) ∧ W.cell? ⟨D, 1, none⟩ = some (.int .i64 pcl) ∧ W.cell? ⟨D, 2, none⟩ = some (.int .i64 pno)) (by kernel_rfl) ?_
                  have hS0 : wr.drew.cell? ⟨h, o + m * 5 + 1, none⟩ = some (.int .i64 cl2) ∧ wr.drew.cell? ⟨h, o + m * 5 + 2, none⟩ = some (.int .i64 no2) ∧ wr.drew.cell? ⟨D, 1, none⟩ = some (.int .i64 pcl) ∧ wr.drew.cell? ⟨D, 2, none⟩ = some (.int .i64 pno) := ⟨z1, z2, r1, r2⟩
                  refine Y_take (i := 0) (v := ?_) rfl (by kernel_rfl) (by kernel_rfl) (by kernel_rfl) (by kernel_rfl) (fun _ _ _ h => h) (by rfl) hS0 ?_ ?_
                  rotate_left
                  · (intro w' hSw; obtain ⟨p0, p1, p2, p3⟩ := hSw; (try go_simp); (try with_reducible rfl))
                  simp only [Act.put, List.setIfInBounds_toArray, List.getElem_toArray, List.getElem_cons_zero, List.set_cons_succ, List.set_cons_zero]
                  refine Y_take (i := 1) (v := ?_) rfl (by kernel_rfl) (by kernel_rfl) (by kernel_rfl) (by kernel_rfl) (fun _ _ _ h => h) (by rfl) hS0 ?_ ?_
                  rotate_left
                  · (intro w' hSw; obtain ⟨p0, p1, p2, p3⟩ := hSw; (try go_simp); (try with_reducible rfl))
                  simp only [Act.put, List.setIfInBounds_toArray, List.getElem_toArray, List.getElem_cons_succ, List.getElem_cons_zero, List.set_cons_succ, List.set_cons_zero]
                  refine Y_take (i := 2) (v := ?_) rfl (by kernel_rfl) (by kernel_rfl) (by kernel_rfl) (by kernel_rfl) (fun _ _ _ h => h) (by rfl) hS0 ?_ ?_
                  rotate_left
                  · (intro w' hSw; obtain ⟨p0, p1, p2, p3⟩ := hSw; (try go_simp); (try with_reducible rfl))
                  simp only [Act.put, List.setIfInBounds_toArray, List.getElem_toArray, List.getElem_cons_succ, List.getElem_cons_zero, List.set_cons_succ, List.set_cons_zero]
                  refine Y_take (i := 3) (v := ?_) rfl (by kernel_rfl) (by kernel_rfl) (by kernel_rfl) (by kernel_rfl) (fun _ _ _ h => h) (by rfl) hS0 ?_ ?_
                  rotate_left
                  · (intro w' hSw; obtain ⟨p0, p1, p2, p3⟩ := hSw; (try go_simp); (try with_reducible rfl))
                  simp only [Act.put, List.setIfInBounds_toArray, List.getElem_toArray, List.getElem_cons_succ, List.getElem_cons_zero, List.set_cons_succ, List.set_cons_zero]
                  refine Y_take (i := 4) (v := ?_) rfl (by kernel_rfl) (by kernel_rfl) (by kernel_rfl) (by kernel_rfl) (fun _ _ _ h => h) (by rfl) hS0 ?_ ?_
                  rotate_left
                  · (intro w' hSw; obtain ⟨p0, p1, p2, p3⟩ := hSw; (try go_simp); (try with_reducible rfl))
                  simp only [Act.put, List.setIfInBounds_toArray, List.getElem_toArray, List.getElem_cons_succ, List.getElem_cons_zero, List.set_cons_succ, List.set_cons_zero]
                  refine Y_take (i := 5) (v := ?_) rfl (by kernel_rfl) (by kernel_rfl) (by kernel_rfl) (by kernel_rfl) (fun _ _ _ h => h) (by rfl) hS0 ?_ ?_
                  rotate_left
                  · (intro w' hSw; obtain ⟨p0, p1, p2, p3⟩ := hSw; (try go_simp); (try with_reducible rfl))
                  simp only [Act.put, List.setIfInBounds_toArray, List.getElem_toArray, List.getElem_cons_succ, List.getElem_cons_zero, List.set_cons_succ, List.set_cons_zero]
                  refine Y_take (i := 6) (v := ?_) rfl (by kernel_rfl) (by kernel_rfl) (by kernel_rfl) (by kernel_rfl) (fun _ _ _ h => h) (by rfl) hS0 ?_ ?_
                  rotate_left
                  · (intro w' hSw; obtain ⟨p0, p1, p2, p3⟩ := hSw; (try go_simp); (try with_reducible rfl))
                  simp only [Act.put, List.setIfInBounds_toArray, List.getElem_toArray, List.getElem_cons_succ, List.getElem_cons_zero, List.set_cons_succ, List.set_cons_zero]
                  refine Y_take (i := 7) (v := ?_) rfl (by kernel_rfl) (by kernel_rfl) (by kernel_rfl) (by kernel_rfl) (fun _ _ _ h => h) (by rfl) hS0 ?_ ?_
                  rotate_left
                  · (intro w' hSw; obtain ⟨p0, p1, p2, p3⟩ := hSw; (try go_simp); (try with_reducible rfl))
                  simp only [Act.put, List.setIfInBounds_toArray, List.getElem_toArray, List.getElem_cons_succ, List.getElem_cons_zero, List.set_cons_succ, List.set_cons_zero]
                  refine Y_take (i := 8) (v := ?_) rfl (by kernel_rfl) (by kernel_rfl) (by kernel_rfl) (by kernel_rfl) (fun _ _ _ h => h) (by rfl) hS0 ?_ ?_
                  rotate_left
                  · (intro w' hSw; obtain ⟨p0, p1, p2, p3⟩ := hSw; (try go_simp); (try with_reducible rfl))
                  simp only [Act.put, List.setIfInBounds_toArray, List.getElem_toArray, List.getElem_cons_succ, List.getElem_cons_zero, List.set_cons_succ, List.set_cons_zero]
                  refine Y_take (i := 9) (v := ?_) rfl (by kernel_rfl) (by kernel_rfl) (by kernel_rfl) (by kernel_rfl) (fun _ _ _ h => h) (by rfl) hS0 ?_ ?_
                  rotate_left
                  · (intro w' hSw; obtain ⟨p0, p1, p2, p3⟩ := hSw; (try go_simp); (try with_reducible rfl))
                  simp only [Act.put, List.setIfInBounds_toArray, List.getElem_toArray, List.getElem_cons_succ, List.getElem_cons_zero, List.set_cons_succ, List.set_cons_zero]
                  refine Y_take (i := 10) (v := ?_) rfl (by kernel_rfl) (by kernel_rfl) (by kernel_rfl) (by kernel_rfl) (fun _ _ _ h => h) (by rfl) hS0 ?_ ?_
                  rotate_left
                  · (intro w' hSw; obtain ⟨p0, p1, p2, p3⟩ := hSw; (try go_simp); (try with_reducible rfl))
                  simp only [Act.put, List.setIfInBounds_toArray, List.getElem_toArray, List.getElem_cons_succ, List.getElem_cons_zero, List.set_cons_succ, List.set_cons_zero]
                  refine Y_take (i := 11) (v := ?_) rfl (by kernel_rfl) (by kernel_rfl) (by kernel_rfl) (by kernel_rfl) (fun _ _ _ h => h) (by rfl) hS0 ?_ ?_
                  rotate_left
                  · (intro w' hSw; obtain ⟨p0, p1, p2, p3⟩ := hSw; (try go_simp); (try with_reducible rfl))
                  simp only [Act.put, List.setIfInBounds_toArray, List.getElem_toArray, List.getElem_cons_succ, List.getElem_cons_zero, List.set_cons_succ, List.set_cons_zero]
                  refine Y_take (i := 12) (v := ?_) rfl (by kernel_rfl) (by kernel_rfl) (by kernel_rfl) (by kernel_rfl) (fun _ _ _ h => h) (by rfl) hS0 ?_ ?_
                  rotate_left
                  · (intro w' hSw; obtain ⟨p0, p1, p2, p3⟩ := hSw; (try go_simp); (try with_reducible rfl))
                  simp only [Act.put, List.setIfInBounds_toArray, List.getElem_toArray, List.getElem_cons_succ, List.getElem_cons_zero, List.set_cons_succ, List.set_cons_zero]
                  refine Y_take (i := 13) (v := ?_) rfl (by kernel_rfl) (by kernel_rfl) (by kernel_rfl) (by kernel_rfl) (fun _ _ _ h => h) (by rfl) hS0 ?_ ?_
                  rotate_left
                  · (intro w' hSw; obtain ⟨p0, p1, p2, p3⟩ := hSw; (try go_simp); (try with_reducible rfl))
                  simp only [Act.put, List.setIfInBounds_toArray, List.getElem_toArray, List.getElem_cons_succ, List.getElem_cons_zero, List.set_cons_succ, List.set_cons_zero]
                  refine Y_take (i := 14) (v := ?_) rfl (by kernel_rfl) (by kernel_rfl) (by kernel_rfl) (by kernel_rfl) (fun _ _ _ h => h) (by rfl) hS0 ?_ ?_
                  rotate_left
                  · (intro w' hSw; obtain ⟨p0, p1, p2, p3⟩ := hSw; (try go_simp); (try with_reducible rfl))
                  simp only [Act.put, List.setIfInBounds_toArray, List.getElem_toArray, List.getElem_cons_succ, List.getElem_cons_zero, List.set_cons_succ, List.set_cons_zero]
                  refine Y_take (i := 15) (v := ?_) rfl (by kernel_rfl) (by kernel_rfl) (by kernel_rfl) (by kernel_rfl) (fun _ _ _ h => h) (by rfl) hS0 ?_ ?_
                  rotate_left
                  · (intro w' hSw; obtain ⟨p0, p1, p2, p3⟩ := hSw; (try go_simp); (try with_reducible rfl))
                  simp only [Act.put, List.setIfInBounds_toArray, List.getElem_toArray, List.getElem_cons_succ, List.getElem_cons_zero, List.set_cons_succ, List.set_cons_zero]
                  refine Y_take (i := 16) (v := ?_) rfl (by kernel_rfl) (by kernel_rfl) (by kernel_rfl) (by kernel_rfl) (fun _ _ _ h => h) (by rfl) hS0 ?_ ?_
                  rotate_left
                  · (intro w' hSw; obtain ⟨p0, p1, p2, p3⟩ := hSw; (try go_simp); (try with_reducible rfl))
                  simp only [Act.put, List.setIfInBounds_toArray, List.getElem_toArray, List.getElem_cons_succ, List.getElem_cons_zero, List.set_cons_succ, List.set_cons_zero]
                  refine Y_take (i := 17) (v := ?_) rfl (by kernel_rfl) (by kernel_rfl) (by kernel_rfl) (by kernel_rfl) (fun _ _ _ h => h) (by rfl) hS0 ?_ ?_
                  rotate_left
                  · (intro w' hSw; obtain ⟨p0, p1, p2, p3⟩ := hSw; (try go_simp); (try with_reducible rfl))
                  simp only [Act.put, List.setIfInBounds_toArray, List.getElem_toArray, List.getElem_cons_succ, List.getElem_cons_zero, List.set_cons_succ, List.set_cons_zero]
                  refine Z_done (by kernel_rfl) ?_ _
                  all_goals
                    go_wp2
                  all_goals first
                    | (go_ret; exact ⟨by rw [HR.out]; first | rfl | simp, by rw [HN.out]; first | exact HBX.out | exact below_drew HBX.out⟩)
                    | (exfalso; omega)
                · have HG : Hid (∀ j, j < m + 1 → P j = false) := fun j hj => by
                    by_cases ej : j = m
                    · subst ej; rw [HPm.out, ← Bool.decide_and]; exact decide_eq_false e0
                    · exact HP.out j (by omega)
                  by_cases e1 : cl2 = pcl
                  · have b0 : (cl2 == pcl) = true := by simpa using e1
                    have b1 : (no2 == pno) = false := by simpa using fun h => e0 ⟨e1, h⟩
                    clear e0 e1
                    go_upto_region 10 with fail
                    refine region_Z 99 (fun W => W.cell? ⟨h, o + m * 5 + 1, none⟩ = some (.int .i64 cl2) ∧ W.cell? ⟨h, o + m * 5 + 2, none⟩ = some (.int .i64 no2) ∧ W.cell? ⟨D, 1, none⟩ = some (.int .i64 pcl) ∧ W.cell? ⟨D, 2, none⟩ = some (.int .i64 pno)) (by kernel_rfl) ?_
                    have hS0 : wr.drew.cell? ⟨h, o + m * 5 + 1, none⟩ = some (.int .i64 cl2) ∧ wr.drew.cell? ⟨h, o + m * 5 + 2, none⟩ = some (.int .i64 no2) ∧ wr.drew.cell? ⟨D, 1, none⟩ = some (.int .i64 pcl) ∧ wr.drew.cell? ⟨D, 2, none⟩ = some (.int .i64 pno) := ⟨z1, z2, r1, r2⟩
                    refine Y_take (i := 0) (v := ?_) rfl (by kernel_rfl) (by kernel_rfl) (by kernel_rfl) (by kernel_rfl) (fun _ _ _ h => h) (by rfl) hS0 ?_ ?_
                    rotate_left
                    · (intro w' hSw; obtain ⟨p0, p1, p2, p3⟩ := hSw; (try go_simp); (try with_reducible rfl))
                    simp only [Act.put, List.setIfInBounds_toArray, List.getElem_toArray, List.getElem_cons_zero, List.set_cons_succ, List.set_cons_zero]
                    refine Y_take (i := 1) (v := ?_) rfl (by kernel_rfl) (by kernel_rfl) (by kernel_rfl) (by kernel_rfl) (fun _ _ _ h => h) (by rfl) hS0 ?_ ?_
                    rotate_left
                    · (intro w' hSw; obtain ⟨p0, p1, p2, p3⟩ := hSw; (try go_simp); (try with_reducible rfl))
                    simp only [Act.put, List.setIfInBounds_toArray, List.getElem_toArray, List.getElem_cons_succ, List.getElem_cons_zero, List.set_cons_succ, List.set_cons_zero]
                    refine Y_take (i := 2) (v := ?_) rfl (by kernel_rfl) (by kernel_rfl) (by kernel_rfl) (by kernel_rfl) (fun _ _ _ h => h) (by rfl) hS0 ?_ ?_
                    rotate_left
                    · (intro w' hSw; obtain ⟨p0, p1, p2, p3⟩ := hSw; (try go_simp); (try with_reducible rfl))
                    simp only [Act.put, List.setIfInBounds_toArray, List.getElem_toArray, List.getElem_cons_succ, List.getElem_cons_zero, List.set_cons_succ, List.set_cons_zero]
                    refine Y_take (i := 3) (v := ?_) rfl (by kernel_rfl) (by kernel_rfl) (by kernel_rfl) (by kernel_rfl) (fun _ _ _ h => h) (by rfl) hS0 ?_ ?_
                    rotate_left
                    · (intro w' hSw; obtain ⟨p0, p1, p2, p3⟩ := hSw; (try go_simp); (try with_reducible rfl))
                    simp only [Act.put, List.setIfInBounds_toArray, List.getElem_toArray, List.getElem_cons_succ, List.getElem_cons_zero, List.set_cons_succ, List.set_cons_zero]
                    refine Y_take (i := 4) (v := ?_) rfl (by kernel_rfl) (by kernel_rfl) (by kernel_rfl) (by kernel_rfl) (fun _ _ _ h => h) (by rfl) hS0 ?_ ?_
                    rotate_left
                    · (intro w' hSw; obtain ⟨p0, p1, p2, p3⟩ := hSw; (try go_simp); (try with_reducible rfl))
                    simp only [Act.put, List.setIfInBounds_toArray, List.getElem_toArray, List.getElem_cons_succ, List.getElem_cons_zero, List.set_cons_succ, List.set_cons_zero]
                    refine Y_take (i := 5) (v := ?_) rfl (by kernel_rfl) (by kernel_rfl) (by kernel_rfl) (by kernel_rfl) (fun _ _ _ h => h) (by rfl) hS0 ?_ ?_
                    rotate_left
                    · (intro w' hSw; obtain ⟨p0, p1, p2, p3⟩ := hSw; (try go_simp); (try with_reducible rfl))
                    simp only [Act.put, List.setIfInBounds_toArray, List.getElem_toArray, List.getElem_cons_succ, List.getElem_cons_zero, List.set_cons_succ, List.set_cons_zero]
                    refine Y_take (i := 6) (v := ?_) rfl (by kernel_rfl) (by kernel_rfl) (by kernel_rfl) (by kernel_rfl) (fun _ _ _ h => h) (by rfl) hS0 ?_ ?_
                    rotate_left
                    · (intro w' hSw; obtain ⟨p0, p1, p2, p3⟩ := hSw; (try go_simp); (try with_reducible rfl))
                    simp only [Act.put, List.setIfInBounds_toArray, List.getElem_toArray, List.getElem_cons_succ, List.getElem_cons_zero, List.set_cons_succ, List.set_cons_zero]
                    refine Y_take (i := 7) (v := ?_) rfl (by kernel_rfl) (by kernel_rfl) (by kernel_rfl) (by kernel_rfl) (fun _ _ _ h => h) (by rfl) hS0 ?_ ?_
                    rotate_left
                    · (intro w' hSw; obtain ⟨p0, p1, p2, p3⟩ := hSw; (try go_simp); (try with_reducible rfl))
                    simp only [Act.put, List.setIfInBounds_toArray, List.getElem_toArray, List.getElem_cons_succ, List.getElem_cons_zero, List.set_cons_succ, List.set_cons_zero]
                    refine Y_take (i := 8) (v := ?_) rfl (by kernel_rfl) (by kernel_rfl) (by kernel_rfl) (by kernel_rfl) (fun _ _ _ h => h) (by rfl) hS0 ?_ ?_
                    rotate_left
                    · (intro w' hSw; obtain ⟨p0, p1, p2, p3⟩ := hSw; (try go_simp); (try with_reducible rfl))
                    simp only [Act.put, List.setIfInBounds_toArray, List.getElem_toArray, List.getElem_cons_succ, List.getElem_cons_zero, List.set_cons_succ, List.set_cons_zero]
                    refine Y_take (i := 9) (v := ?_) rfl (by kernel_rfl) (by kernel_rfl) (by kernel_rfl) (by kernel_rfl) (fun _ _ _ h => h) (by rfl) hS0 ?_ ?_
                    rotate_left
                    · (intro w' hSw; obtain ⟨p0, p1, p2, p3⟩ := hSw; (try go_simp); (try with_reducible rfl))
                    simp only [Act.put, List.setIfInBounds_toArray, List.getElem_toArray, List.getElem_cons_succ, List.getElem_cons_zero, List.set_cons_succ, List.set_cons_zero]
                    refine Y_take (i := 10) (v := ?_) rfl (by kernel_rfl) (by kernel_rfl) (by kernel_rfl) (by kernel_rfl) (fun _ _ _ h => h) (by rfl) hS0 ?_ ?_
                    rotate_left
                    · (intro w' hSw; obtain ⟨p0, p1, p2, p3⟩ := hSw; (try go_simp); (try with_reducible rfl))
                    simp only [Act.put, List.setIfInBounds_toArray, List.getElem_toArray, List.getElem_cons_succ, List.getElem_cons_zero, List.set_cons_succ, List.set_cons_zero]
                    refine Y_take (i := 11) (v := ?_) rfl (by kernel_rfl) (by kernel_rfl) (by kernel_rfl) (by kernel_rfl) (fun _ _ _ h => h) (by rfl) hS0 ?_ ?_
                    rotate_left
                    · (intro w' hSw; obtain ⟨p0, p1, p2, p3⟩ := hSw; (try go_simp); (try with_reducible rfl))
                    simp only [Act.put, List.setIfInBounds_toArray, List.getElem_toArray, List.getElem_cons_succ, List.getElem_cons_zero, List.set_cons_succ, List.set_cons_zero]
                    refine Y_take (i := 12) (v := ?_) rfl (by kernel_rfl) (by kernel_rfl) (by kernel_rfl) (by kernel_rfl) (fun _ _ _ h => h) (by rfl) hS0 ?_ ?_
                    rotate_left
                    · (intro w' hSw; obtain ⟨p0, p1, p2, p3⟩ := hSw; (try go_simp); (try with_reducible rfl))
                    simp only [Act.put, List.setIfInBounds_toArray, List.getElem_toArray, List.getElem_cons_succ, List.getElem_cons_zero, List.set_cons_succ, List.set_cons_zero]
                    refine Y_take (i := 13) (v := ?_) rfl (by kernel_rfl) (by kernel_rfl) (by kernel_rfl) (by kernel_rfl) (fun _ _ _ h => h) (by rfl) hS0 ?_ ?_
                    rotate_left
                    · (intro w' hSw; obtain ⟨p0, p1, p2, p3⟩ := hSw; (try go_simp); (try with_reducible rfl))
                    simp only [Act.put, List.setIfInBounds_toArray, List.getElem_toArray, List.getElem_cons_succ, List.getElem_cons_zero, List.set_cons_succ, List.set_cons_zero]
                    refine Y_take (i := 14) (v := ?_) rfl (by kernel_rfl) (by kernel_rfl) (by kernel_rfl) (by kernel_rfl) (fun _ _ _ h => h) (by rfl) hS0 ?_ ?_
                    rotate_left
                    · (intro w' hSw; obtain ⟨p0, p1, p2, p3⟩ := hSw; (try go_simp); (try with_reducible rfl))
                    simp only [Act.put, List.setIfInBounds_toArray, List.getElem_toArray, List.getElem_cons_succ, List.getElem_cons_zero, List.set_cons_succ, List.set_cons_zero]
                    refine Y_take (i := 15) (v := ?_) rfl (by kernel_rfl) (by kernel_rfl) (by kernel_rfl) (by kernel_rfl) (fun _ _ _ h => h) (by rfl) hS0 ?_ ?_
                    rotate_left
                    · (intro w' hSw; obtain ⟨p0, p1, p2, p3⟩ := hSw; (try go_simp); (try with_reducible rfl))
                    simp only [Act.put, List.setIfInBounds_toArray, List.getElem_toArray, List.getElem_cons_succ, List.getElem_cons_zero, List.set_cons_succ, List.set_cons_zero]
                    refine Y_take (i := 16) (v := ?_) rfl (by kernel_rfl) (by kernel_rfl) (by kernel_rfl) (by kernel_rfl) (fun _ _ _ h => h) (by rfl) hS0 ?_ ?_
                    rotate_left
                    · (intro w' hSw; obtain ⟨p0, p1, p2, p3⟩ := hSw; (try go_simp); (try with_reducible rfl))
                    simp only [Act.put, List.setIfInBounds_toArray, List.getElem_toArray, List.getElem_cons_succ, List.getElem_cons_zero, List.set_cons_succ, List.set_cons_zero]
                    refine Y_take (i := 17) (v := ?_) rfl (by kernel_rfl) (by kernel_rfl) (by kernel_rfl) (by kernel_rfl) (fun _ _ _ h => h) (by rfl) hS0 ?_ ?_
                    rotate_left
                    · (intro w' hSw; obtain ⟨p0, p1, p2, p3⟩ := hSw; (try go_simp); (try with_reducible rfl))
                    simp only [Act.put, List.setIfInBounds_toArray, List.getElem_toArray, List.getElem_cons_succ, List.getElem_cons_zero, List.set_cons_succ, List.set_cons_zero]
                    refine Z_done (by kernel_rfl) ?_ _
                    all_goals
                      go_wp2
                      go_roundg (i - (m + 1))
                      case measure => omega
                      case rel => exact ⟨m + 1, by omega, by go_num, HG.out, by first | exact HBB.out | exact below_drew HBB.out⟩
                  · have b0 : (cl2 == pcl) = false := by simpa using e1
                    clear e0 e1
                    go_upto_region 10 with fail
                    refine region_Z 99 (fun W => W.cell? ⟨h, o + m * 5 + 1, none⟩ = some (.int .i64 cl2) ∧ W.cell? ⟨h, o + m * 5 + 2, none⟩ = some (.int .i64 no2) ∧ W.cell? ⟨D, 1, none⟩ = some (.int .i64 pcl) ∧ W.cell? ⟨D, 2, none⟩ = some (.int .i64 pno)) (by kernel_rfl) ?_
                    have hS0 : wr.drew.cell? ⟨h, o + m * 5 + 1, none⟩ = some (.int .i64 cl2) ∧ wr.drew.cell? ⟨h, o + m * 5 + 2, none⟩ = some (.int .i64 no2) ∧ wr.drew.cell? ⟨D, 1, none⟩ = some (.int .i64 pcl) ∧ wr.drew.cell? ⟨D, 2, none⟩ = some (.int .i64 pno) := ⟨z1, z2, r1, r2⟩
                    refine Y_take (i := 0) (v := ?_) rfl (by kernel_rfl) (by kernel_rfl) (by kernel_rfl) (by kernel_rfl) (fun _ _ _ h => h) (by rfl) hS0 ?_ ?_
                    rotate_left
                    · (intro w' hSw; obtain ⟨p0, p1, p2, p3⟩ := hSw; (try go_simp); (try with_reducible rfl))
                    simp only [Act.put, List.setIfInBounds_toArray, List.getElem_toArray, List.getElem_cons_zero, List.set_cons_succ, List.set_cons_zero]
                    refine Y_take (i := 1) (v := ?_) rfl (by kernel_rfl) (by kernel_rfl) (by kernel_rfl) (by kernel_rfl) (fun _ _ _ h => h) (by rfl) hS0 ?_ ?_
                    rotate_left
                    · (intro w' hSw; obtain ⟨p0, p1, p2, p3⟩ := hSw; (try go_simp); (try with_reducible rfl))
                    simp only [Act.put, List.setIfInBounds_toArray, List.getElem_toArray, List.getElem_cons_succ, List.getElem_cons_zero, List.set_cons_succ, List.set_cons_zero]
                    refine Y_take (i := 2) (v := ?_) rfl (by kernel_rfl) (by kernel_rfl) (by kernel_rfl) (by kernel_rfl) (fun _ _ _ h => h) (by rfl) hS0 ?_ ?_
                    rotate_left
                    · (intro w' hSw; obtain ⟨p0, p1, p2, p3⟩ := hSw; (try go_simp); (try with_reducible rfl))
                    simp only [Act.put, List.setIfInBounds_toArray, List.getElem_toArray, List.getElem_cons_succ, List.getElem_cons_zero, List.set_cons_succ, List.set_cons_zero]
                    refine Y_take (i := 3) (v := ?_) rfl (by kernel_rfl) (by kernel_rfl) (by kernel_rfl) (by kernel_rfl) (fun _ _ _ h => h) (by rfl) hS0 ?_ ?_
                    rotate_left
                    · (intro w' hSw; obtain ⟨p0, p1, p2, p3⟩ := hSw; (try go_simp); (try with_reducible rfl))
                    simp only [Act.put, List.setIfInBounds_toArray, List.getElem_toArray, List.getElem_cons_succ, List.getElem_cons_zero, List.set_cons_succ, List.set_cons_zero]
                    refine Y_take (i := 4) (v := ?_) rfl (by kernel_rfl) (by kernel_rfl) (by kernel_rfl) (by kernel_rfl) (fun _ _ _ h => h) (by rfl) hS0 ?_ ?_
                    rotate_left
                    · (intro w' hSw; obtain ⟨p0, p1, p2, p3⟩ := hSw; (try go_simp); (try with_reducible rfl))
                    simp only [Act.put, List.setIfInBounds_toArray, List.getElem_toArray, List.getElem_cons_succ, List.getElem_cons_zero, List.set_cons_succ, List.set_cons_zero]
                    refine Y_take (i := 5) (v := ?_) rfl (by kernel_rfl) (by kernel_rfl) (by kernel_rfl) (by kernel_rfl) (fun _ _ _ h => h) (by rfl) hS0 ?_ ?_
                    rotate_left
                    · (intro w' hSw; obtain ⟨p0, p1, p2, p3⟩ := hSw; (try go_simp); (try with_reducible rfl))
                    simp only [Act.put, List.setIfInBounds_toArray, List.getElem_toArray, List.getElem_cons_succ, List.getElem_cons_zero, List.set_cons_succ, List.set_cons_zero]
                    refine Y_take (i := 6) (v := ?_) rfl (by kernel_rfl) (by kernel_rfl) (by kernel_rfl) (by kernel_rfl) (fun _ _ _ h => h) (by rfl) hS0 ?_ ?_
                    rotate_left
                    · (intro w' hSw; obtain ⟨p0, p1, p2, p3⟩ := hSw; (try go_simp); (try with_reducible rfl))
                    simp only [Act.put, List.setIfInBounds_toArray, List.getElem_toArray, List.getElem_cons_succ, List.getElem_cons_zero, List.set_cons_succ, List.set_cons_zero]
                    refine Y_take (i := 7) (v := ?_) rfl (by kernel_rfl) (by kernel_rfl) (by kernel_rfl) (by kernel_rfl) (fun _ _ _ h => h) (by rfl) hS0 ?_ ?_
                    rotate_left
                    · (intro w' hSw; obtain ⟨p0, p1, p2, p3⟩ := hSw; (try go_simp); (try with_reducible rfl))
                    simp only [Act.put, List.setIfInBounds_toArray, List.getElem_toArray, List.getElem_cons_succ, List.getElem_cons_zero, List.set_cons_succ, List.set_cons_zero]
                    refine Y_take (i := 8) (v := ?_) rfl (by kernel_rfl) (by kernel_rfl) (by kernel_rfl) (by kernel_rfl) (fun _ _ _ h => h) (by rfl) hS0 ?_ ?_
                    rotate_left
                    · (intro w' hSw; obtain ⟨p0, p1, p2, p3⟩ := hSw; (try go_simp); (try with_reducible rfl))
                    simp only [Act.put, List.setIfInBounds_toArray, List.getElem_toArray, List.getElem_cons_succ, List.getElem_cons_zero, List.set_cons_succ, List.set_cons_zero]
                    refine Y_skip (i := 9) rfl (by kernel_rfl) (by kernel_rfl) (by kernel_rfl) (by kernel_rfl) (fun _ _ _ h => h) (by rfl) hS0 ?_
                    simp only [Act.put, List.setIfInBounds_toArray, List.getElem_toArray, List.getElem_cons_succ, List.getElem_cons_zero, List.set_cons_succ, List.set_cons_zero]
                    refine Y_skip (i := 10) rfl (by kernel_rfl) (by kernel_rfl) (by kernel_rfl) (by kernel_rfl) (fun _ _ _ h => h) (by rfl) hS0 ?_
                    simp only [Act.put, List.setIfInBounds_toArray, List.getElem_toArray, List.getElem_cons_succ, List.getElem_cons_zero, List.set_cons_succ, List.set_cons_zero]
                    refine Y_skip (i := 11) rfl (by kernel_rfl) (by kernel_rfl) (by kernel_rfl) (by kernel_rfl) (fun _ _ _ h => h) (by rfl) hS0 ?_
                    simp only [Act.put, List.setIfInBounds_toArray, List.getElem_toArray, List.getElem_cons_succ, List.getElem_cons_zero, List.set_cons_succ, List.set_cons_zero]
                    refine Y_skip (i := 12) rfl (by kernel_rfl) (by kernel_rfl) (by kernel_rfl) (by kernel_rfl) (fun _ _ _ h => h) (by rfl) hS0 ?_
                    simp only [Act.put, List.setIfInBounds_toArray, List.getElem_toArray, List.getElem_cons_succ, List.getElem_cons_zero, List.set_cons_succ, List.set_cons_zero]
                    refine Y_skip (i := 13) rfl (by kernel_rfl) (by kernel_rfl) (by kernel_rfl) (by kernel_rfl) (fun _ _ _ h => h) (by rfl) hS0 ?_
                    simp only [Act.put, List.setIfInBounds_toArray, List.getElem_toArray, List.getElem_cons_succ, List.getElem_cons_zero, List.set_cons_succ, List.set_cons_zero]
                    refine Y_skip (i := 14) rfl (by kernel_rfl) (by kernel_rfl) (by kernel_rfl) (by kernel_rfl) (fun _ _ _ h => h) (by rfl) hS0 ?_
                    simp only [Act.put, List.setIfInBounds_toArray, List.getElem_toArray, List.getElem_cons_succ, List.getElem_cons_zero, List.set_cons_succ, List.set_cons_zero]
                    refine Y_skip (i := 15) rfl (by kernel_rfl) (by kernel_rfl) (by kernel_rfl) (by kernel_rfl) (fun _ _ _ h => h) (by rfl) hS0 ?_
                    simp only [Act.put, List.setIfInBounds_toArray, List.getElem_toArray, List.getElem_cons_succ, List.getElem_cons_zero, List.set_cons_succ, List.set_cons_zero]
                    refine Y_skip (i := 16) rfl (by kernel_rfl) (by kernel_rfl) (by kernel_rfl) (by kernel_rfl) (fun _ _ _ h => h) (by rfl) hS0 ?_
                    simp only [Act.put, List.setIfInBounds_toArray, List.getElem_toArray, List.getElem_cons_succ, List.getElem_cons_zero, List.set_cons_succ, List.set_cons_zero]
                    refine Y_take (i := 17) (v := ?_) rfl (by kernel_rfl) (by kernel_rfl) (by kernel_rfl) (by kernel_rfl) (fun _ _ _ h => h) (by rfl) hS0 ?_ ?_
                    rotate_left
                    · (intro w' hSw; obtain ⟨p0, p1, p2, p3⟩ := hSw; (try go_simp); (try with_reducible rfl))
                    simp only [Act.put, List.setIfInBounds_toArray, List.getElem_toArray, List.getElem_cons_succ, List.getElem_cons_zero, List.set_cons_succ, List.set_cons_zero]
                    refine Z_done (by kernel_rfl) ?_ _
                    all_goals
                      go_wp2
                      go_roundg (i - (m + 1))
                      case measure => omega
                      case rel => exact ⟨m + 1, by omega, by go_num, HG.out, by first | exact HBB.out | exact below_drew HBB.out⟩
              obtain rfl : m = i := by omega
              have HR : Hid (R = true) := by
                show _ = _
                rw [HR0.out, fstB_none hP, HOKT.out]
                rfl
              have HBN : Hid (Below N w wr) := hBN
              clear hP hB hBN
              go_wp2
              go_ret
              exact ⟨by rw [HR.out]; first | rfl | simp, by rw [HN.out]; exact HBN.out⟩
        · have HR : Hid (R = false) := by
            have : OK = false := by rw [HOKc2.out, decide_eq_false f2, decide_eq_false f3, Bool.or_false, Bool.and_false]
            show _ = _
            rw [HR0.out, this]; rfl
          have f3' : tt < tm := by omega
          refine region_Z 99 (fun W => W.cell? ⟨D, 0, none⟩ = some (.int .i64 tm) ∧ W.cell? ⟨gc, ec + kn * 10 + 6, none⟩ = some (.int .i64 fr) ∧ W.cell? ⟨gc, ec + kn * 10 + 7, none⟩ = some (.int .i64 tt)) (by kernel_rfl) ?_
          have hS0 : w4.drew.cell? ⟨D, 0, none⟩ = some (.int .i64 tm) ∧ w4.drew.cell? ⟨gc, ec + kn * 10 + 6, none⟩ = some (.int .i64 fr) ∧ w4.drew.cell? ⟨gc, ec + kn * 10 + 7, none⟩ = some (.int .i64 tt) := ⟨x0, c6, c7⟩
          refine Y_take (i := 0) (v := ?_) rfl (by kernel_rfl) (by kernel_rfl) (by kernel_rfl) (by kernel_rfl) (fun _ _ _ h => h) (by rfl) hS0 ?_ ?_
          rotate_left
          · (intro w' hSw; obtain ⟨p0, p1, p2⟩ := hSw; (try go_simp); (try with_reducible rfl))
          simp only [Act.put, List.setIfInBounds_toArray, List.getElem_toArray, List.getElem_cons_zero, List.set_cons_succ, List.set_cons_zero]
          refine Y_take (i := 1) (v := ?_) rfl (by kernel_rfl) (by kernel_rfl) (by kernel_rfl) (by kernel_rfl) (fun _ _ _ h => h) (by rfl) hS0 ?_ ?_
          rotate_left
          · (intro w' hSw; obtain ⟨p0, p1, p2⟩ := hSw; (try go_simp); (try with_reducible rfl))
          simp only [Act.put, List.setIfInBounds_toArray, List.getElem_toArray, List.getElem_cons_succ, List.getElem_cons_zero, List.set_cons_succ, List.set_cons_zero]
          refine Y_take (i := 2) (v := ?_) rfl (by kernel_rfl) (by kernel_rfl) (by kernel_rfl) (by kernel_rfl) (fun _ _ _ h => h) (by rfl) hS0 ?_ ?_
          rotate_left
          · (intro w' hSw; obtain ⟨p0, p1, p2⟩ := hSw; (try go_simp); (try with_reducible rfl))
          simp only [Act.put, List.setIfInBounds_toArray, List.getElem_toArray, List.getElem_cons_succ, List.getElem_cons_zero, List.set_cons_succ, List.set_cons_zero]
          refine Y_take (i := 3) (v := ?_) rfl (by kernel_rfl) (by kernel_rfl) (by kernel_rfl) (by kernel_rfl) (fun _ _ _ h => h) (by rfl) hS0 ?_ ?_
          rotate_left
          · (intro w' hSw; obtain ⟨p0, p1, p2⟩ := hSw; (try go_simp); (try with_reducible rfl))
          simp only [Act.put, List.setIfInBounds_toArray, List.getElem_toArray, List.getElem_cons_succ, List.getElem_cons_zero, List.set_cons_succ, List.set_cons_zero]
          refine Y_take (i := 4) (v := ?_) rfl (by kernel_rfl) (by kernel_rfl) (by kernel_rfl) (by kernel_rfl) (fun _ _ _ h => h) (by rfl) hS0 ?_ ?_
          rotate_left
          · (intro w' hSw; obtain ⟨p0, p1, p2⟩ := hSw; (try go_simp); (try with_reducible rfl))
          simp only [Act.put, List.setIfInBounds_toArray, List.getElem_toArray, List.getElem_cons_succ, List.getElem_cons_zero, List.set_cons_succ, List.set_cons_zero]
          refine Y_take (i := 5) (v := ?_) rfl (by kernel_rfl) (by kernel_rfl) (by kernel_rfl) (by kernel_rfl) (fun _ _ _ h => h) (by rfl) hS0 ?_ ?_
          rotate_left
          · (intro w' hSw; obtain ⟨p0, p1, p2⟩ := hSw; (try go_simp); (try with_reducible rfl))
          simp only [Act.put, List.setIfInBounds_toArray, List.getElem_toArray, List.getElem_cons_succ, List.getElem_cons_zero, List.set_cons_succ, List.set_cons_zero]
          refine Y_take (i := 6) (v := ?_) rfl (by kernel_rfl) (by kernel_rfl) (by kernel_rfl) (by kernel_rfl) (fun _ _ _ h => h) (by rfl) hS0 ?_ ?_
          rotate_left
          · (intro w' hSw; obtain ⟨p0, p1, p2⟩ := hSw; (try go_simp); (try with_reducible rfl))
          simp only [Act.put, List.setIfInBounds_toArray, List.getElem_toArray, List.getElem_cons_succ, List.getElem_cons_zero, List.set_cons_succ, List.set_cons_zero]
          refine Y_take (i := 7) (v := ?_) rfl (by kernel_rfl) (by kernel_rfl) (by kernel_rfl) (by kernel_rfl) (fun _ _ _ h => h) (by rfl) hS0 ?_ ?_
          rotate_left
          · (intro w' hSw; obtain ⟨p0, p1, p2⟩ := hSw; (try go_simp); (try with_reducible rfl))
          simp only [Act.put, List.setIfInBounds_toArray, List.getElem_toArray, List.getElem_cons_succ, List.getElem_cons_zero, List.set_cons_succ, List.set_cons_zero]
          refine Y_take (i := 8) (v := ?_) rfl (by kernel_rfl) (by kernel_rfl) (by kernel_rfl) (by kernel_rfl) (fun _ _ _ h => h) (by rfl) hS0 ?_ ?_
          rotate_left
          · (intro w' hSw; obtain ⟨p0, p1, p2⟩ := hSw; (try go_simp); (try with_reducible rfl))
          simp only [Act.put, List.setIfInBounds_toArray, List.getElem_toArray, List.getElem_cons_succ, List.getElem_cons_zero, List.set_cons_succ, List.set_cons_zero]
          refine Y_take (i := 9) (v := ?_) rfl (by kernel_rfl) (by kernel_rfl) (by kernel_rfl) (by kernel_rfl) (fun _ _ _ h => h) (by rfl) hS0 ?_ ?_
          rotate_left
          · (intro w' hSw; obtain ⟨p0, p1, p2⟩ := hSw; (try go_simp); (try with_reducible rfl))
          simp only [Act.put, List.setIfInBounds_toArray, List.getElem_toArray, List.getElem_cons_succ, List.getElem_cons_zero, List.set_cons_succ, List.set_cons_zero]
          refine Y_take (i := 10) (v := ?_) rfl (by kernel_rfl) (by kernel_rfl) (by kernel_rfl) (by kernel_rfl) (fun _ _ _ h => h) (by rfl) hS0 ?_ ?_
          rotate_left
          · (intro w' hSw; obtain ⟨p0, p1, p2⟩ := hSw; (try go_simp); (try with_reducible rfl))
          simp only [Act.put, List.setIfInBounds_toArray, List.getElem_toArray, List.getElem_cons_succ, List.getElem_cons_zero, List.set_cons_succ, List.set_cons_zero]
          refine Y_take (i := 11) (v := ?_) rfl (by kernel_rfl) (by kernel_rfl) (by kernel_rfl) (by kernel_rfl) (fun _ _ _ h => h) (by rfl) hS0 ?_ ?_
          rotate_left
          · (intro w' hSw; obtain ⟨p0, p1, p2⟩ := hSw; (try go_simp); (try with_reducible rfl))
          simp only [Act.put, List.setIfInBounds_toArray, List.getElem_toArray, List.getElem_cons_succ, List.getElem_cons_zero, List.set_cons_succ, List.set_cons_zero]
          refine Y_take (i := 12) (v := ?_) rfl (by kernel_rfl) (by kernel_rfl) (by kernel_rfl) (by kernel_rfl) (fun _ _ _ h => h) (by rfl) hS0 ?_ ?_
          rotate_left
          · (intro w' hSw; obtain ⟨p0, p1, p2⟩ := hSw; (try go_simp); (try with_reducible rfl))
          simp only [Act.put, List.setIfInBounds_toArray, List.getElem_toArray, List.getElem_cons_succ, List.getElem_cons_zero, List.set_cons_succ, List.set_cons_zero]
          refine Y_take (i := 13) (v := ?_) rfl (by kernel_rfl) (by kernel_rfl) (by kernel_rfl) (by kernel_rfl) (fun _ _ _ h => h) (by rfl) hS0 ?_ ?_
          rotate_left
          · (intro w' hSw; obtain ⟨p0, p1, p2⟩ := hSw; (try go_simp); (try with_reducible rfl))
          simp only [Act.put, List.setIfInBounds_toArray, List.getElem_toArray, List.getElem_cons_succ, List.getElem_cons_zero, List.set_cons_succ, List.set_cons_zero]
          refine Y_take (i := 14) (v := ?_) rfl (by kernel_rfl) (by kernel_rfl) (by kernel_rfl) (by kernel_rfl) (fun _ _ _ h => h) (by rfl) hS0 ?_ ?_
          rotate_left
          · (intro w' hSw; obtain ⟨p0, p1, p2⟩ := hSw; (try go_simp); (try with_reducible rfl))
          simp only [Act.put, List.setIfInBounds_toArray, List.getElem_toArray, List.getElem_cons_succ, List.getElem_cons_zero, List.set_cons_succ, List.set_cons_zero]
          refine Y_take (i := 15) (v := ?_) rfl (by kernel_rfl) (by kernel_rfl) (by kernel_rfl) (by kernel_rfl) (fun _ _ _ h => h) (by rfl) hS0 ?_ ?_
          rotate_left
          · (intro w' hSw; obtain ⟨p0, p1, p2⟩ := hSw; (try go_simp); (try with_reducible rfl))
          simp only [Act.put, List.setIfInBounds_toArray, List.getElem_toArray, List.getElem_cons_succ, List.getElem_cons_zero, List.set_cons_succ, List.set_cons_zero]
          refine Y_take (i := 16) (v := ?_) rfl (by kernel_rfl) (by kernel_rfl) (by kernel_rfl) (by kernel_rfl) (fun _ _ _ h => h) (by rfl) hS0 ?_ ?_
          rotate_left
          · (intro w' hSw; obtain ⟨p0, p1, p2⟩ := hSw; (try go_simp); (try with_reducible rfl))
          simp only [Act.put, List.setIfInBounds_toArray, List.getElem_toArray, List.getElem_cons_succ, List.getElem_cons_zero, List.set_cons_succ, List.set_cons_zero]
          refine Y_take (i := 17) (v := ?_) rfl (by kernel_rfl) (by kernel_rfl) (by kernel_rfl) (by kernel_rfl) (fun _ _ _ h => h) (by rfl) hS0 ?_ ?_
          rotate_left
          · (intro w' hSw; obtain ⟨p0, p1, p2⟩ := hSw; (try go_simp); (try with_reducible rfl))
          simp only [Act.put, List.setIfInBounds_toArray, List.getElem_toArray, List.getElem_cons_succ, List.getElem_cons_zero, List.set_cons_succ, List.set_cons_zero]
          refine Y_take (i := 18) (v := ?_) rfl (by kernel_rfl) (by kernel_rfl) (by kernel_rfl) (by kernel_rfl) (fun _ _ _ h => h) (by rfl) hS0 ?_ ?_
          rotate_left
          · (intro w' hSw; obtain ⟨p0, p1, p2⟩ := hSw; (try go_simp); (try with_reducible rfl))
          simp only [Act.put, List.setIfInBounds_toArray, List.getElem_toArray, List.getElem_cons_succ, List.getElem_cons_zero, List.set_cons_succ, List.set_cons_zero]
          refine Y_take (i := 19) (v := ?_) rfl (by kernel_rfl) (by kernel_rfl) (by kernel_rfl) (by kernel_rfl) (fun _ _ _ h => h) (by rfl) hS0 ?_ ?_
          rotate_left
          · (intro w' hSw; obtain ⟨p0, p1, p2⟩ := hSw; (try go_simp); (try with_reducible rfl))
          simp only [Act.put, List.setIfInBounds_toArray, List.getElem_toArray, List.getElem_cons_succ, List.getElem_cons_zero, List.set_cons_succ, List.set_cons_zero]
          refine Y_take (i := 20) (v := ?_) rfl (by kernel_rfl) (by kernel_rfl) (by kernel_rfl) (by kernel_rfl) (fun _ _ _ h => h) (by rfl) hS0 ?_ ?_
          rotate_left
          · (intro w' hSw; obtain ⟨p0, p1, p2⟩ := hSw; (try go_simp); (try with_reducible rfl))
          simp only [Act.put, List.setIfInBounds_toArray, List.getElem_toArray, List.getElem_cons_succ, List.getElem_cons_zero, List.set_cons_succ, List.set_cons_zero]
          refine Y_take (i := 21) (v := ?_) rfl (by kernel_rfl) (by kernel_rfl) (by kernel_rfl) (by kernel_rfl) (fun _ _ _ h => h) (by rfl) hS0 ?_ ?_
          rotate_left
          · (intro w' hSw; obtain ⟨p0, p1, p2⟩ := hSw; (try go_simp); (try with_reducible rfl))
          simp only [Act.put, List.setIfInBounds_toArray, List.getElem_toArray, List.getElem_cons_succ, List.getElem_cons_zero, List.set_cons_succ, List.set_cons_zero]
          refine Y_take (i := 22) (v := ?_) rfl (by kernel_rfl) (by kernel_rfl) (by kernel_rfl) (by kernel_rfl) (fun _ _ _ h => h) (by rfl) hS0 ?_ ?_
          rotate_left
          · (intro w' hSw; obtain ⟨p0, p1, p2⟩ := hSw; (try go_simp); (try with_reducible rfl))
          simp only [Act.put, List.setIfInBounds_toArray, List.getElem_toArray, List.getElem_cons_succ, List.getElem_cons_zero, List.set_cons_succ, List.set_cons_zero]
          refine Y_take (i := 23) (v := ?_) rfl (by kernel_rfl) (by kernel_rfl) (by kernel_rfl) (by kernel_rfl) (fun _ _ _ h => h) (by rfl) hS0 ?_ ?_
          rotate_left
          · (intro w' hSw; obtain ⟨p0, p1, p2⟩ := hSw; (try go_simp); (try with_reducible rfl))
          simp only [Act.put, List.setIfInBounds_toArray, List.getElem_toArray, List.getElem_cons_succ, List.getElem_cons_zero, List.set_cons_succ, List.set_cons_zero]
          refine Y_take (i := 24) (v := ?_) rfl (by kernel_rfl) (by kernel_rfl) (by kernel_rfl) (by kernel_rfl) (fun _ _ _ h => h) (by rfl) hS0 ?_ ?_
          rotate_left
          · (intro w' hSw; obtain ⟨p0, p1, p2⟩ := hSw; (try go_simp); (try with_reducible rfl))
          simp only [Act.put, List.setIfInBounds_toArray, List.getElem_toArray, List.getElem_cons_succ, List.getElem_cons_zero, List.set_cons_succ, List.set_cons_zero]
          refine Y_take (i := 25) (v := ?_) rfl (by kernel_rfl) (by kernel_rfl) (by kernel_rfl) (by kernel_rfl) (fun _ _ _ h => h) (by rfl) hS0 ?_ ?_
          rotate_left
          · (intro w' hSw; obtain ⟨p0, p1, p2⟩ := hSw; (try go_simp); (try with_reducible rfl))
          simp only [Act.put, List.setIfInBounds_toArray, List.getElem_toArray, List.getElem_cons_succ, List.getElem_cons_zero, List.set_cons_succ, List.set_cons_zero]
          refine Y_take (i := 26) (v := ?_) rfl (by kernel_rfl) (by kernel_rfl) (by kernel_rfl) (by kernel_rfl) (fun _ _ _ h => h) (by rfl) hS0 ?_ ?_
          rotate_left
          · (intro w' hSw; obtain ⟨p0, p1, p2⟩ := hSw; (try go_simp); (try with_reducible rfl))
          simp only [Act.put, List.setIfInBounds_toArray, List.getElem_toArray, List.getElem_cons_succ, List.getElem_cons_zero, List.set_cons_succ, List.set_cons_zero]
          refine Y_take (i := 27) (v := ?_) rfl (by kernel_rfl) (by kernel_rfl) (by kernel_rfl) (by kernel_rfl) (fun _ _ _ h => h) (by rfl) hS0 ?_ ?_
          rotate_left
          · (intro w' hSw; obtain ⟨p0, p1, p2⟩ := hSw; (try go_simp); (try with_reducible rfl))
          simp only [Act.put, List.setIfInBounds_toArray, List.getElem_toArray, List.getElem_cons_succ, List.getElem_cons_zero, List.set_cons_succ, List.set_cons_zero]
          refine Y_take (i := 28) (v := ?_) rfl (by kernel_rfl) (by kernel_rfl) (by kernel_rfl) (by kernel_rfl) (fun _ _ _ h => h) (by rfl) hS0 ?_ ?_
          rotate_left
          · (intro w' hSw; obtain ⟨p0, p1, p2⟩ := hSw; (try go_simp); (try with_reducible rfl))
          simp only [Act.put, List.setIfInBounds_toArray, List.getElem_toArray, List.getElem_cons_succ, List.getElem_cons_zero, List.set_cons_succ, List.set_cons_zero]
          refine Y_take (i := 29) (v := ?_) rfl (by kernel_rfl) (by kernel_rfl) (by kernel_rfl) (by kernel_rfl) (fun _ _ _ h => h) (by rfl) hS0 ?_ ?_
          rotate_left
          · (intro w' hSw; obtain ⟨p0, p1, p2⟩ := hSw; (try go_simp); (try with_reducible rfl))
          simp only [Act.put, List.setIfInBounds_toArray, List.getElem_toArray, List.getElem_cons_succ, List.getElem_cons_zero, List.set_cons_succ, List.set_cons_zero]
          refine Z_done (by kernel_rfl) ?_ _
          all_goals
            go_wp2
          all_goals first
            | (go_ret; exact ⟨by rw [HR.out]; first | rfl | simp, by rw [HN.out]; first | exact HBX.out | exact below_drew HBX.out⟩)
            | (exfalso; omega)
  · have i1 : (0 : Int) < (i : Int) := by omega
    have i2 : 0 < i := by omega
    obtain ⟨q, hq⟩ := HPQ.out.2.2 (by omega)
    have hpv := HPQ.out.1 q (by omega) hq
    obtain ⟨gq, eq, hgq, -, y⟩ := (HU.out _ HA.out.2.1).at hq
    cases hgq
    obtain ⟨qtm, qcl, qno, qT, qE⟩ := q
    have hpv' : PV = qtm := hpv
    have q0' : WA.cell? ⟨h, o + (i - 1) * 5, none⟩ = some (.int .i64 qtm) := y 0 _ rfl
    obtain ⟨im, him⟩ : ∃ im, i - 1 = im := ⟨_, rfl⟩
    have hii : (i : Int) - 1 = (im : Int) := by omega
    rw [him] at q0'
    have dm0 : (0 : Int) ≤ (im : Int) := by omega
    have dm5 : im ≤ 100000 := by omega
    have dmw : IntKind.i64.wrap (im : Int) = (im : Int) := wrap_small _ (by omega) (by omega)
    have dm1 : (im : Int) < (pts.length : Int) := by omega
    clear y hq hpv him i0
    by_cases h2 : qtm ≤ tm
    rotate_left
    · have HR : Hid (R = false) := by
        have : OK = false := by rw [← HOK0.out, hpv', decide_eq_false h2]; simp
        show _ = _
        rw [HR0.out, this]; rfl
      have h2' : tm < qtm := by omega
      clear hpv'
      refine region_Z 99 (fun W => W.cell? ⟨D, 0, none⟩ = some (.int .i64 tm) ∧ W.cell? ⟨h, o + im * 5, none⟩ = some (.int .i64 qtm)) (by kernel_rfl) ?_
      have hS0 : WA.drew.cell? ⟨D, 0, none⟩ = some (.int .i64 tm) ∧ WA.drew.cell? ⟨h, o + im * 5, none⟩ = some (.int .i64 qtm) := ⟨x0, q0'⟩
      refine Y_take (i := 0) (v := ?_) rfl (by kernel_rfl) (by kernel_rfl) (by kernel_rfl) (by kernel_rfl) (fun _ _ _ h => h) (by rfl) hS0 ?_ ?_
      rotate_left
      · (intro w' hSw; obtain ⟨p0, p1⟩ := hSw; (try go_simp); (try with_reducible rfl))
      simp only [Act.put, List.setIfInBounds_toArray, List.getElem_toArray, List.getElem_cons_zero, List.set_cons_succ, List.set_cons_zero]
      refine Y_take (i := 1) (v := ?_) rfl (by kernel_rfl) (by kernel_rfl) (by kernel_rfl) (by kernel_rfl) (fun _ _ _ h => h) (by rfl) hS0 ?_ ?_
      rotate_left
      · (intro w' hSw; obtain ⟨p0, p1⟩ := hSw; (try go_simp); (try with_reducible rfl))
      simp only [Act.put, List.setIfInBounds_toArray, List.getElem_toArray, List.getElem_cons_succ, List.getElem_cons_zero, List.set_cons_succ, List.set_cons_zero]
      refine Y_take (i := 2) (v := ?_) rfl (by kernel_rfl) (by kernel_rfl) (by kernel_rfl) (by kernel_rfl) (fun _ _ _ h => h) (by rfl) hS0 ?_ ?_
      rotate_left
      · (intro w' hSw; obtain ⟨p0, p1⟩ := hSw; (try go_simp); (try with_reducible rfl))
      simp only [Act.put, List.setIfInBounds_toArray, List.getElem_toArray, List.getElem_cons_succ, List.getElem_cons_zero, List.set_cons_succ, List.set_cons_zero]
      refine Y_take (i := 3) (v := ?_) rfl (by kernel_rfl) (by kernel_rfl) (by kernel_rfl) (by kernel_rfl) (fun _ _ _ h => h) (by rfl) hS0 ?_ ?_
      rotate_left
      · (intro w' hSw; obtain ⟨p0, p1⟩ := hSw; (try go_simp); (try with_reducible rfl))
      simp only [Act.put, List.setIfInBounds_toArray, List.getElem_toArray, List.getElem_cons_succ, List.getElem_cons_zero, List.set_cons_succ, List.set_cons_zero]
      refine Y_take (i := 4) (v := ?_) rfl (by kernel_rfl) (by kernel_rfl) (by kernel_rfl) (by kernel_rfl) (fun _ _ _ h => h) (by rfl) hS0 ?_ ?_
      rotate_left
      · (intro w' hSw; obtain ⟨p0, p1⟩ := hSw; (try go_simp); (try with_reducible rfl))
      simp only [Act.put, List.setIfInBounds_toArray, List.getElem_toArray, List.getElem_cons_succ, List.getElem_cons_zero, List.set_cons_succ, List.set_cons_zero]
      refine Y_take (i := 5) (v := ?_) rfl (by kernel_rfl) (by kernel_rfl) (by kernel_rfl) (by kernel_rfl) (fun _ _ _ h => h) (by rfl) hS0 ?_ ?_
      rotate_left
      · (intro w' hSw; obtain ⟨p0, p1⟩ := hSw; (try go_simp); (try with_reducible rfl))
      simp only [Act.put, List.setIfInBounds_toArray, List.getElem_toArray, List.getElem_cons_succ, List.getElem_cons_zero, List.set_cons_succ, List.set_cons_zero]
      refine Y_take (i := 6) (v := ?_) rfl (by kernel_rfl) (by kernel_rfl) (by kernel_rfl) (by kernel_rfl) (fun _ _ _ h => h) (by rfl) hS0 ?_ ?_
      rotate_left
      · (intro w' hSw; obtain ⟨p0, p1⟩ := hSw; (try go_simp); (try with_reducible rfl))
      simp only [Act.put, List.setIfInBounds_toArray, List.getElem_toArray, List.getElem_cons_succ, List.getElem_cons_zero, List.set_cons_succ, List.set_cons_zero]
      refine Y_take (i := 7) (v := ?_) rfl (by kernel_rfl) (by kernel_rfl) (by kernel_rfl) (by kernel_rfl) (fun _ _ _ h => h) (by rfl) hS0 ?_ ?_
      rotate_left
      · (intro w' hSw; obtain ⟨p0, p1⟩ := hSw; (try go_simp); (try with_reducible rfl))
      simp only [Act.put, List.setIfInBounds_toArray, List.getElem_toArray, List.getElem_cons_succ, List.getElem_cons_zero, List.set_cons_succ, List.set_cons_zero]
      refine Y_take (i := 8) (v := ?_) rfl (by kernel_rfl) (by kernel_rfl) (by kernel_rfl) (by kernel_rfl) (fun _ _ _ h => h) (by rfl) hS0 ?_ ?_
      rotate_left
      · (intro w' hSw; obtain ⟨p0, p1⟩ := hSw; (try go_simp); (try with_reducible rfl))
      simp only [Act.put, List.setIfInBounds_toArray, List.getElem_toArray, List.getElem_cons_succ, List.getElem_cons_zero, List.set_cons_succ, List.set_cons_zero]
      refine Y_take (i := 9) (v := ?_) rfl (by kernel_rfl) (by kernel_rfl) (by kernel_rfl) (by kernel_rfl) (fun _ _ _ h => h) (by rfl) hS0 ?_ ?_
      rotate_left
      · (intro w' hSw; obtain ⟨p0, p1⟩ := hSw; (try go_simp); (try with_reducible rfl))
      simp only [Act.put, List.setIfInBounds_toArray, List.getElem_toArray, List.getElem_cons_succ, List.getElem_cons_zero, List.set_cons_succ, List.set_cons_zero]
      refine Y_take (i := 10) (v := ?_) rfl (by kernel_rfl) (by kernel_rfl) (by kernel_rfl) (by kernel_rfl) (fun _ _ _ h => h) (by rfl) hS0 ?_ ?_
      rotate_left
      · (intro w' hSw; obtain ⟨p0, p1⟩ := hSw; (try go_simp); (try with_reducible rfl))
      simp only [Act.put, List.setIfInBounds_toArray, List.getElem_toArray, List.getElem_cons_succ, List.getElem_cons_zero, List.set_cons_succ, List.set_cons_zero]
      refine Y_take (i := 11) (v := ?_) rfl (by kernel_rfl) (by kernel_rfl) (by kernel_rfl) (by kernel_rfl) (fun _ _ _ h => h) (by rfl) hS0 ?_ ?_
      rotate_left
      · (intro w' hSw; obtain ⟨p0, p1⟩ := hSw; (try go_simp); (try with_reducible rfl))
      simp only [Act.put, List.setIfInBounds_toArray, List.getElem_toArray, List.getElem_cons_succ, List.getElem_cons_zero, List.set_cons_succ, List.set_cons_zero]
      refine Y_take (i := 12) (v := ?_) rfl (by kernel_rfl) (by kernel_rfl) (by kernel_rfl) (by kernel_rfl) (fun _ _ _ h => h) (by rfl) hS0 ?_ ?_
      rotate_left
      · (intro w' hSw; obtain ⟨p0, p1⟩ := hSw; (try go_simp); (try with_reducible rfl))
      simp only [Act.put, List.setIfInBounds_toArray, List.getElem_toArray, List.getElem_cons_succ, List.getElem_cons_zero, List.set_cons_succ, List.set_cons_zero]
      refine Y_take (i := 13) (v := ?_) rfl (by kernel_rfl) (by kernel_rfl) (by kernel_rfl) (by kernel_rfl) (fun _ _ _ h => h) (by rfl) hS0 ?_ ?_
      rotate_left
      · (intro w' hSw; obtain ⟨p0, p1⟩ := hSw; (try go_simp); (try with_reducible rfl))
      simp only [Act.put, List.setIfInBounds_toArray, List.getElem_toArray, List.getElem_cons_succ, List.getElem_cons_zero, List.set_cons_succ, List.set_cons_zero]
      refine Y_take (i := 14) (v := ?_) rfl (by kernel_rfl) (by kernel_rfl) (by kernel_rfl) (by kernel_rfl) (fun _ _ _ h => h) (by rfl) hS0 ?_ ?_
      rotate_left
      · (intro w' hSw; obtain ⟨p0, p1⟩ := hSw; (try go_simp); (try with_reducible rfl))
      simp only [Act.put, List.setIfInBounds_toArray, List.getElem_toArray, List.getElem_cons_succ, List.getElem_cons_zero, List.set_cons_succ, List.set_cons_zero]
      refine Y_take (i := 15) (v := ?_) rfl (by kernel_rfl) (by kernel_rfl) (by kernel_rfl) (by kernel_rfl) (fun _ _ _ h => h) (by rfl) hS0 ?_ ?_
      rotate_left
      · (intro w' hSw; obtain ⟨p0, p1⟩ := hSw; (try go_simp); (try with_reducible rfl))
      simp only [Act.put, List.setIfInBounds_toArray, List.getElem_toArray, List.getElem_cons_succ, List.getElem_cons_zero, List.set_cons_succ, List.set_cons_zero]
      refine Y_take (i := 16) (v := ?_) rfl (by kernel_rfl) (by kernel_rfl) (by kernel_rfl) (by kernel_rfl) (fun _ _ _ h => h) (by rfl) hS0 ?_ ?_
      rotate_left
      · (intro w' hSw; obtain ⟨p0, p1⟩ := hSw; (try go_simp); (try with_reducible rfl))
      simp only [Act.put, List.setIfInBounds_toArray, List.getElem_toArray, List.getElem_cons_succ, List.getElem_cons_zero, List.set_cons_succ, List.set_cons_zero]
      refine Y_take (i := 17) (v := ?_) rfl (by kernel_rfl) (by kernel_rfl) (by kernel_rfl) (by kernel_rfl) (fun _ _ _ h => h) (by rfl) hS0 ?_ ?_
      rotate_left
      · (intro w' hSw; obtain ⟨p0, p1⟩ := hSw; (try go_simp); (try with_reducible rfl))
      simp only [Act.put, List.setIfInBounds_toArray, List.getElem_toArray, List.getElem_cons_succ, List.getElem_cons_zero, List.set_cons_succ, List.set_cons_zero]
      refine Z_done (by kernel_rfl) ?_ _
      all_goals
        go_wp2
      all_goals first
        | (go_ret; exact ⟨by rw [HR.out]; first | rfl | simp, by rw [HN.out]; first | exact HBX.out | exact below_drew HBX.out⟩)
        | (exfalso; omega)
    have h2' : ¬ tm < qtm := by omega
    have HOK : Hid ((decide (0 ≤ K) && hasM F tm) = OK) := by
      show _ = _
      rw [← HOK0.out, hpv', decide_eq_true h1, decide_eq_true h2]; rfl
    have HOKc : Hid (∀ (kn : Nat) c, K = kn → calls[kn]? = some c → OK = hasM c tm) := fun kn c e hk => by
      rw [← HOK.out, HCF.out kn c e hk, decide_eq_true (show 0 ≤ K by omega)]; rfl
    clear hpv' HBX h2
    refine region_Z 99 (fun W => W.cell? ⟨D, 0, none⟩ = some (.int .i64 tm) ∧ W.cell? ⟨h, o + im * 5, none⟩ = some (.int .i64 qtm)) (by kernel_rfl) ?_
    have hS0 : WA.drew.cell? ⟨D, 0, none⟩ = some (.int .i64 tm) ∧ WA.drew.cell? ⟨h, o + im * 5, none⟩ = some (.int .i64 qtm) := ⟨x0, q0'⟩
    refine Y_take (i := 0) (v := ?_) rfl (by kernel_rfl) (by kernel_rfl) (by kernel_rfl) (by kernel_rfl) (fun _ _ _ h => h) (by rfl) hS0 ?_ ?_
    rotate_left
    · (intro w' hSw; obtain ⟨p0, p1⟩ := hSw; (try go_simp); (try with_reducible rfl))
    simp only [Act.put, List.setIfInBounds_toArray, List.getElem_toArray, List.getElem_cons_zero, List.set_cons_succ, List.set_cons_zero]
    refine Y_take (i := 1) (v := ?_) rfl (by kernel_rfl) (by kernel_rfl) (by kernel_rfl) (by kernel_rfl) (fun _ _ _ h => h) (by rfl) hS0 ?_ ?_
    rotate_left
    · (intro w' hSw; obtain ⟨p0, p1⟩ := hSw; (try go_simp); (try with_reducible rfl))
    simp only [Act.put, List.setIfInBounds_toArray, List.getElem_toArray, List.getElem_cons_succ, List.getElem_cons_zero, List.set_cons_succ, List.set_cons_zero]
    refine Y_take (i := 2) (v := ?_) rfl (by kernel_rfl) (by kernel_rfl) (by kernel_rfl) (by kernel_rfl) (fun _ _ _ h => h) (by rfl) hS0 ?_ ?_
    rotate_left
    · (intro w' hSw; obtain ⟨p0, p1⟩ := hSw; (try go_simp); (try with_reducible rfl))
    simp only [Act.put, List.setIfInBounds_toArray, List.getElem_toArray, List.getElem_cons_succ, List.getElem_cons_zero, List.set_cons_succ, List.set_cons_zero]
    refine Y_take (i := 3) (v := ?_) rfl (by kernel_rfl) (by kernel_rfl) (by kernel_rfl) (by kernel_rfl) (fun _ _ _ h => h) (by rfl) hS0 ?_ ?_
    rotate_left
    · (intro w' hSw; obtain ⟨p0, p1⟩ := hSw; (try go_simp); (try with_reducible rfl))
    simp only [Act.put, List.setIfInBounds_toArray, List.getElem_toArray, List.getElem_cons_succ, List.getElem_cons_zero, List.set_cons_succ, List.set_cons_zero]
    refine Y_take (i := 4) (v := ?_) rfl (by kernel_rfl) (by kernel_rfl) (by kernel_rfl) (by kernel_rfl) (fun _ _ _ h => h) (by rfl) hS0 ?_ ?_
    rotate_left
    · (intro w' hSw; obtain ⟨p0, p1⟩ := hSw; (try go_simp); (try with_reducible rfl))
    simp only [Act.put, List.setIfInBounds_toArray, List.getElem_toArray, List.getElem_cons_succ, List.getElem_cons_zero, List.set_cons_succ, List.set_cons_zero]
    refine Y_take (i := 5) (v := ?_) rfl (by kernel_rfl) (by kernel_rfl) (by kernel_rfl) (by kernel_rfl) (fun _ _ _ h => h) (by rfl) hS0 ?_ ?_
    rotate_left
    · (intro w' hSw; obtain ⟨p0, p1⟩ := hSw; (try go_simp); (try with_reducible rfl))
    simp only [Act.put, List.setIfInBounds_toArray, List.getElem_toArray, List.getElem_cons_succ, List.getElem_cons_zero, List.set_cons_succ, List.set_cons_zero]
    refine Y_take (i := 6) (v := ?_) rfl (by kernel_rfl) (by kernel_rfl) (by kernel_rfl) (by kernel_rfl) (fun _ _ _ h => h) (by rfl) hS0 ?_ ?_
    rotate_left
    · (intro w' hSw; obtain ⟨p0, p1⟩ := hSw; (try go_simp); (try with_reducible rfl))
    simp only [Act.put, List.setIfInBounds_toArray, List.getElem_toArray, List.getElem_cons_succ, List.getElem_cons_zero, List.set_cons_succ, List.set_cons_zero]
    refine Y_take (i := 7) (v := ?_) rfl (by kernel_rfl) (by kernel_rfl) (by kernel_rfl) (by kernel_rfl) (fun _ _ _ h => h) (by rfl) hS0 ?_ ?_
    rotate_left
    · (intro w' hSw; obtain ⟨p0, p1⟩ := hSw; (try go_simp); (try with_reducible rfl))
    simp only [Act.put, List.setIfInBounds_toArray, List.getElem_toArray, List.getElem_cons_succ, List.getElem_cons_zero, List.set_cons_succ, List.set_cons_zero]
    refine Y_take (i := 8) (v := ?_) rfl (by kernel_rfl) (by kernel_rfl) (by kernel_rfl) (by kernel_rfl) (fun _ _ _ h => h) (by rfl) hS0 ?_ ?_
    rotate_left
    · (intro w' hSw; obtain ⟨p0, p1⟩ := hSw; (try go_simp); (try with_reducible rfl))
    simp only [Act.put, List.setIfInBounds_toArray, List.getElem_toArray, List.getElem_cons_succ, List.getElem_cons_zero, List.set_cons_succ, List.set_cons_zero]
    refine Y_take (i := 9) (v := ?_) rfl (by kernel_rfl) (by kernel_rfl) (by kernel_rfl) (by kernel_rfl) (fun _ _ _ h => h) (by rfl) hS0 ?_ ?_
    rotate_left
    · (intro w' hSw; obtain ⟨p0, p1⟩ := hSw; (try go_simp); (try with_reducible rfl))
    simp only [Act.put, List.setIfInBounds_toArray, List.getElem_toArray, List.getElem_cons_succ, List.getElem_cons_zero, List.set_cons_succ, List.set_cons_zero]
    refine Y_take (i := 10) (v := ?_) rfl (by kernel_rfl) (by kernel_rfl) (by kernel_rfl) (by kernel_rfl) (fun _ _ _ h => h) (by rfl) hS0 ?_ ?_
    rotate_left
    · (intro w' hSw; obtain ⟨p0, p1⟩ := hSw; (try go_simp); (try with_reducible rfl))
    simp only [Act.put, List.setIfInBounds_toArray, List.getElem_toArray, List.getElem_cons_succ, List.getElem_cons_zero, List.set_cons_succ, List.set_cons_zero]
    refine Y_take (i := 11) (v := ?_) rfl (by kernel_rfl) (by kernel_rfl) (by kernel_rfl) (by kernel_rfl) (fun _ _ _ h => h) (by rfl) hS0 ?_ ?_
    rotate_left
    · (intro w' hSw; obtain ⟨p0, p1⟩ := hSw; (try go_simp); (try with_reducible rfl))
    simp only [Act.put, List.setIfInBounds_toArray, List.getElem_toArray, List.getElem_cons_succ, List.getElem_cons_zero, List.set_cons_succ, List.set_cons_zero]
    refine Y_take (i := 12) (v := ?_) rfl (by kernel_rfl) (by kernel_rfl) (by kernel_rfl) (by kernel_rfl) (fun _ _ _ h => h) (by rfl) hS0 ?_ ?_
    rotate_left
    · (intro w' hSw; obtain ⟨p0, p1⟩ := hSw; (try go_simp); (try with_reducible rfl))
    simp only [Act.put, List.setIfInBounds_toArray, List.getElem_toArray, List.getElem_cons_succ, List.getElem_cons_zero, List.set_cons_succ, List.set_cons_zero]
    refine Y_take (i := 13) (v := ?_) rfl (by kernel_rfl) (by kernel_rfl) (by kernel_rfl) (by kernel_rfl) (fun _ _ _ h => h) (by rfl) hS0 ?_ ?_
    rotate_left
    · (intro w' hSw; obtain ⟨p0, p1⟩ := hSw; (try go_simp); (try with_reducible rfl))
    simp only [Act.put, List.setIfInBounds_toArray, List.getElem_toArray, List.getElem_cons_succ, List.getElem_cons_zero, List.set_cons_succ, List.set_cons_zero]
    refine Y_take (i := 14) (v := ?_) rfl (by kernel_rfl) (by kernel_rfl) (by kernel_rfl) (by kernel_rfl) (fun _ _ _ h => h) (by rfl) hS0 ?_ ?_
    rotate_left
    · (intro w' hSw; obtain ⟨p0, p1⟩ := hSw; (try go_simp); (try with_reducible rfl))
    simp only [Act.put, List.setIfInBounds_toArray, List.getElem_toArray, List.getElem_cons_succ, List.getElem_cons_zero, List.set_cons_succ, List.set_cons_zero]
    refine Y_take (i := 15) (v := ?_) rfl (by kernel_rfl) (by kernel_rfl) (by kernel_rfl) (by kernel_rfl) (fun _ _ _ h => h) (by rfl) hS0 ?_ ?_
    rotate_left
    · (intro w' hSw; obtain ⟨p0, p1⟩ := hSw; (try go_simp); (try with_reducible rfl))
    simp only [Act.put, List.setIfInBounds_toArray, List.getElem_toArray, List.getElem_cons_succ, List.getElem_cons_zero, List.set_cons_succ, List.set_cons_zero]
    refine Y_take (i := 16) (v := ?_) rfl (by kernel_rfl) (by kernel_rfl) (by kernel_rfl) (by kernel_rfl) (fun _ _ _ h => h) (by rfl) hS0 ?_ ?_
    rotate_left
    · (intro w' hSw; obtain ⟨p0, p1⟩ := hSw; (try go_simp); (try with_reducible rfl))
    simp only [Act.put, List.setIfInBounds_toArray, List.getElem_toArray, List.getElem_cons_succ, List.getElem_cons_zero, List.set_cons_succ, List.set_cons_zero]
    refine Y_take (i := 17) (v := ?_) rfl (by kernel_rfl) (by kernel_rfl) (by kernel_rfl) (by kernel_rfl) (fun _ _ _ h => h) (by rfl) hS0 ?_ ?_
    rotate_left
    · (intro w' hSw; obtain ⟨p0, p1⟩ := hSw; (try go_simp); (try with_reducible rfl))
    simp only [Act.put, List.setIfInBounds_toArray, List.getElem_toArray, List.getElem_cons_succ, List.getElem_cons_zero, List.set_cons_succ, List.set_cons_zero]
    refine Z_done (by kernel_rfl) ?_ _
    all_goals
      clear q0' dm0 dm1 dm5 dmw hii h2'
      have hfd := fun W hW => HFd.out W hW
      go_upto_region 5 with (go_at_call 33; refine (HFd.out _ (by first | exact Below.refl _ _ | exact below_drew (Below.refl _ _) | exact below_drewN (Below.refl _ _) _)).mono ?_; rintro e w4 ⟨rfl, hb4⟩)
      clear hfd x0 x1 x2 x3 x4
      have rD4 := (hb4.block D (by omega)).trans HA.out.1
      have x0 := cellB rD4 0 _ rfl
      have HB4 : Hid (Below (D + 1) WA w4) := hb4
      have HBX : Hid (Below N w w4) := HA.out.2.1.trans (hb4.mono HND.out)
      clear hb4 rD4
      by_cases k0 : K < 0
      · have HR : Hid (R = false) := by
          have : OK = false := by rw [← HOK.out, decide_eq_false (show ¬ 0 ≤ K by omega)]; simp
          show _ = _
          rw [HR0.out, this]; rfl
        refine region_Z 99 (fun W => W.cell? ⟨D, 0, none⟩ = some (.int .i64 tm) ∧ True) (by kernel_rfl) ?_
        have hS0 : w4.drew.cell? ⟨D, 0, none⟩ = some (.int .i64 tm) ∧ True := ⟨x0, trivial⟩
        refine Y_take (i := 0) (v := ?_) rfl (by kernel_rfl) (by kernel_rfl) (by kernel_rfl) (by kernel_rfl) (fun _ _ _ h => h) (by rfl) hS0 ?_ ?_
        rotate_left
        · (intro w' hSw; obtain ⟨p0, p1⟩ := hSw; (try go_simp); (try with_reducible rfl))
        simp only [Act.put, List.setIfInBounds_toArray, List.getElem_toArray, List.getElem_cons_zero, List.set_cons_succ, List.set_cons_zero]
        refine Y_take (i := 1) (v := ?_) rfl (by kernel_rfl) (by kernel_rfl) (by kernel_rfl) (by kernel_rfl) (fun _ _ _ h => h) (by rfl) hS0 ?_ ?_
        rotate_left
        · (intro w' hSw; obtain ⟨p0, p1⟩ := hSw; (try go_simp); (try with_reducible rfl))
        simp only [Act.put, List.setIfInBounds_toArray, List.getElem_toArray, List.getElem_cons_succ, List.getElem_cons_zero, List.set_cons_succ, List.set_cons_zero]
        refine Y_take (i := 2) (v := ?_) rfl (by kernel_rfl) (by kernel_rfl) (by kernel_rfl) (by kernel_rfl) (fun _ _ _ h => h) (by rfl) hS0 ?_ ?_
        rotate_left
        · (intro w' hSw; obtain ⟨p0, p1⟩ := hSw; (try go_simp); (try with_reducible rfl))
        simp only [Act.put, List.setIfInBounds_toArray, List.getElem_toArray, List.getElem_cons_succ, List.getElem_cons_zero, List.set_cons_succ, List.set_cons_zero]
        refine Y_skip (i := 3) rfl (by kernel_rfl) (by kernel_rfl) (by kernel_rfl) (by kernel_rfl) (fun _ _ _ h => h) (by rfl) hS0 ?_
        simp only [Act.put, List.setIfInBounds_toArray, List.getElem_toArray, List.getElem_cons_succ, List.getElem_cons_zero, List.set_cons_succ, List.set_cons_zero]
        refine Y_skip (i := 4) rfl (by kernel_rfl) (by kernel_rfl) (by kernel_rfl) (by kernel_rfl) (fun _ _ _ h => h) (by rfl) hS0 ?_
        simp only [Act.put, List.setIfInBounds_toArray, List.getElem_toArray, List.getElem_cons_succ, List.getElem_cons_zero, List.set_cons_succ, List.set_cons_zero]
        refine Y_skip (i := 5) rfl (by kernel_rfl) (by kernel_rfl) (by kernel_rfl) (by kernel_rfl) (fun _ _ _ h => h) (by rfl) hS0 ?_
        simp only [Act.put, List.setIfInBounds_toArray, List.getElem_toArray, List.getElem_cons_succ, List.getElem_cons_zero, List.set_cons_succ, List.set_cons_zero]
        refine Y_skip (i := 6) rfl (by kernel_rfl) (by kernel_rfl) (by kernel_rfl) (by kernel_rfl) (fun _ _ _ h => h) (by rfl) hS0 ?_
        simp only [Act.put, List.setIfInBounds_toArray, List.getElem_toArray, List.getElem_cons_succ, List.getElem_cons_zero, List.set_cons_succ, List.set_cons_zero]
        refine Y_skip (i := 7) rfl (by kernel_rfl) (by kernel_rfl) (by kernel_rfl) (by kernel_rfl) (fun _ _ _ h => h) (by rfl) hS0 ?_
        simp only [Act.put, List.setIfInBounds_toArray, List.getElem_toArray, List.getElem_cons_succ, List.getElem_cons_zero, List.set_cons_succ, List.set_cons_zero]
        refine Y_skip (i := 8) rfl (by kernel_rfl) (by kernel_rfl) (by kernel_rfl) (by kernel_rfl) (fun _ _ _ h => h) (by rfl) hS0 ?_
        simp only [Act.put, List.setIfInBounds_toArray, List.getElem_toArray, List.getElem_cons_succ, List.getElem_cons_zero, List.set_cons_succ, List.set_cons_zero]
        refine Y_skip (i := 9) rfl (by kernel_rfl) (by kernel_rfl) (by kernel_rfl) (by kernel_rfl) (fun _ _ _ h => h) (by rfl) hS0 ?_
        simp only [Act.put, List.setIfInBounds_toArray, List.getElem_toArray, List.getElem_cons_succ, List.getElem_cons_zero, List.set_cons_succ, List.set_cons_zero]
        refine Y_skip (i := 10) rfl (by kernel_rfl) (by kernel_rfl) (by kernel_rfl) (by kernel_rfl) (fun _ _ _ h => h) (by rfl) hS0 ?_
        simp only [Act.put, List.setIfInBounds_toArray, List.getElem_toArray, List.getElem_cons_succ, List.getElem_cons_zero, List.set_cons_succ, List.set_cons_zero]
        refine Y_take (i := 11) (v := ?_) rfl (by kernel_rfl) (by kernel_rfl) (by kernel_rfl) (by kernel_rfl) (fun _ _ _ h => h) (by rfl) hS0 ?_ ?_
        rotate_left
        · (intro w' hSw; obtain ⟨p0, p1⟩ := hSw; (try go_simp); (try with_reducible rfl))
        simp only [Act.put, List.setIfInBounds_toArray, List.getElem_toArray, List.getElem_cons_succ, List.getElem_cons_zero, List.set_cons_succ, List.set_cons_zero]
        refine Y_take (i := 12) (v := ?_) rfl (by kernel_rfl) (by kernel_rfl) (by kernel_rfl) (by kernel_rfl) (fun _ _ _ h => h) (by rfl) hS0 ?_ ?_
        rotate_left
        · (intro w' hSw; obtain ⟨p0, p1⟩ := hSw; (try go_simp); (try with_reducible rfl))
        simp only [Act.put, List.setIfInBounds_toArray, List.getElem_toArray, List.getElem_cons_succ, List.getElem_cons_zero, List.set_cons_succ, List.set_cons_zero]
        refine Y_skip (i := 13) rfl (by kernel_rfl) (by kernel_rfl) (by kernel_rfl) (by kernel_rfl) (fun _ _ _ h => h) (by rfl) hS0 ?_
        simp only [Act.put, List.setIfInBounds_toArray, List.getElem_toArray, List.getElem_cons_succ, List.getElem_cons_zero, List.set_cons_succ, List.set_cons_zero]
        refine Y_skip (i := 14) rfl (by kernel_rfl) (by kernel_rfl) (by kernel_rfl) (by kernel_rfl) (fun _ _ _ h => h) (by rfl) hS0 ?_
        simp only [Act.put, List.setIfInBounds_toArray, List.getElem_toArray, List.getElem_cons_succ, List.getElem_cons_zero, List.set_cons_succ, List.set_cons_zero]
        refine Y_skip (i := 15) rfl (by kernel_rfl) (by kernel_rfl) (by kernel_rfl) (by kernel_rfl) (fun _ _ _ h => h) (by rfl) hS0 ?_
        simp only [Act.put, List.setIfInBounds_toArray, List.getElem_toArray, List.getElem_cons_succ, List.getElem_cons_zero, List.set_cons_succ, List.set_cons_zero]
        refine Y_skip (i := 16) rfl (by kernel_rfl) (by kernel_rfl) (by kernel_rfl) (by kernel_rfl) (fun _ _ _ h => h) (by rfl) hS0 ?_
        simp only [Act.put, List.setIfInBounds_toArray, List.getElem_toArray, List.getElem_cons_succ, List.getElem_cons_zero, List.set_cons_succ, List.set_cons_zero]
        refine Y_skip (i := 17) rfl (by kernel_rfl) (by kernel_rfl) (by kernel_rfl) (by kernel_rfl) (fun _ _ _ h => h) (by rfl) hS0 ?_
        simp only [Act.put, List.setIfInBounds_toArray, List.getElem_toArray, List.getElem_cons_succ, List.getElem_cons_zero, List.set_cons_succ, List.set_cons_zero]
        refine Y_skip (i := 18) rfl (by kernel_rfl) (by kernel_rfl) (by kernel_rfl) (by kernel_rfl) (fun _ _ _ h => h) (by rfl) hS0 ?_
        simp only [Act.put, List.setIfInBounds_toArray, List.getElem_toArray, List.getElem_cons_succ, List.getElem_cons_zero, List.set_cons_succ, List.set_cons_zero]
        refine Y_skip (i := 19) rfl (by kernel_rfl) (by kernel_rfl) (by kernel_rfl) (by kernel_rfl) (fun _ _ _ h => h) (by rfl) hS0 ?_
        simp only [Act.put, List.setIfInBounds_toArray, List.getElem_toArray, List.getElem_cons_succ, List.getElem_cons_zero, List.set_cons_succ, List.set_cons_zero]
        refine Y_skip (i := 20) rfl (by kernel_rfl) (by kernel_rfl) (by kernel_rfl) (by kernel_rfl) (fun _ _ _ h => h) (by rfl) hS0 ?_
        simp only [Act.put, List.setIfInBounds_toArray, List.getElem_toArray, List.getElem_cons_succ, List.getElem_cons_zero, List.set_cons_succ, List.set_cons_zero]
        refine Y_skip (i := 21) rfl (by kernel_rfl) (by kernel_rfl) (by kernel_rfl) (by kernel_rfl) (fun _ _ _ h => h) (by rfl) hS0 ?_
        simp only [Act.put, List.setIfInBounds_toArray, List.getElem_toArray, List.getElem_cons_succ, List.getElem_cons_zero, List.set_cons_succ, List.set_cons_zero]
        refine Y_skip (i := 22) rfl (by kernel_rfl) (by kernel_rfl) (by kernel_rfl) (by kernel_rfl) (fun _ _ _ h => h) (by rfl) hS0 ?_
        simp only [Act.put, List.setIfInBounds_toArray, List.getElem_toArray, List.getElem_cons_succ, List.getElem_cons_zero, List.set_cons_succ, List.set_cons_zero]
        refine Y_skip (i := 23) rfl (by kernel_rfl) (by kernel_rfl) (by kernel_rfl) (by kernel_rfl) (fun _ _ _ h => h) (by rfl) hS0 ?_
        simp only [Act.put, List.setIfInBounds_toArray, List.getElem_toArray, List.getElem_cons_succ, List.getElem_cons_zero, List.set_cons_succ, List.set_cons_zero]
        refine Y_skip (i := 24) rfl (by kernel_rfl) (by kernel_rfl) (by kernel_rfl) (by kernel_rfl) (fun _ _ _ h => h) (by rfl) hS0 ?_
        simp only [Act.put, List.setIfInBounds_toArray, List.getElem_toArray, List.getElem_cons_succ, List.getElem_cons_zero, List.set_cons_succ, List.set_cons_zero]
        refine Y_skip (i := 25) rfl (by kernel_rfl) (by kernel_rfl) (by kernel_rfl) (by kernel_rfl) (fun _ _ _ h => h) (by rfl) hS0 ?_
        simp only [Act.put, List.setIfInBounds_toArray, List.getElem_toArray, List.getElem_cons_succ, List.getElem_cons_zero, List.set_cons_succ, List.set_cons_zero]
        refine Y_skip (i := 26) rfl (by kernel_rfl) (by kernel_rfl) (by kernel_rfl) (by kernel_rfl) (fun _ _ _ h => h) (by rfl) hS0 ?_
        simp only [Act.put, List.setIfInBounds_toArray, List.getElem_toArray, List.getElem_cons_succ, List.getElem_cons_zero, List.set_cons_succ, List.set_cons_zero]
        refine Y_skip (i := 27) rfl (by kernel_rfl) (by kernel_rfl) (by kernel_rfl) (by kernel_rfl) (fun _ _ _ h => h) (by rfl) hS0 ?_
        simp only [Act.put, List.setIfInBounds_toArray, List.getElem_toArray, List.getElem_cons_succ, List.getElem_cons_zero, List.set_cons_succ, List.set_cons_zero]
        refine Y_skip (i := 28) rfl (by kernel_rfl) (by kernel_rfl) (by kernel_rfl) (by kernel_rfl) (fun _ _ _ h => h) (by rfl) hS0 ?_
        simp only [Act.put, List.setIfInBounds_toArray, List.getElem_toArray, List.getElem_cons_succ, List.getElem_cons_zero, List.set_cons_succ, List.set_cons_zero]
        refine Y_take (i := 29) (v := ?_) rfl (by kernel_rfl) (by kernel_rfl) (by kernel_rfl) (by kernel_rfl) (fun _ _ _ h => h) (by rfl) hS0 ?_ ?_
        rotate_left
        · (intro w' hSw; obtain ⟨p0, p1⟩ := hSw; (try go_simp); (try with_reducible rfl))
        simp only [Act.put, List.setIfInBounds_toArray, List.getElem_toArray, List.getElem_cons_succ, List.getElem_cons_zero, List.set_cons_succ, List.set_cons_zero]
        refine Z_done (by kernel_rfl) ?_ _
        all_goals
          go_wp2
        all_goals first
          | (go_ret; exact ⟨by rw [HR.out]; first | rfl | simp, by rw [HN.out]; first | exact HBX.out | exact below_drew HBX.out⟩)
          | (exfalso; omega)
      obtain ⟨kn, rfl⟩ : ∃ kn : Nat, K = kn := ⟨K.toNat, by omega⟩
      have hkc := HKc.out kn rfl
      obtain ⟨hk1, c, hck⟩ := hkc
      have hOKc := HOKc.out kn c rfl hck
      obtain ⟨gc, ec, hgc, -, y⟩ := (HV.out _ HBX.out).at hck
      subst hgc
      obtain ⟨cl, no, ⟨kind, k, v, od⟩, fr, tt, T, E⟩ := c
      have HOKc2 : Hid (OK = (decide (fr ≤ tm) && (decide (tt = -1) || decide (tm ≤ tt)))) := hOKc
      have c6 : w4.cell? ⟨gc, ec + kn * 10 + 6, none⟩ = some (.int .i64 fr) := y 6 _ rfl
      have c7 : w4.cell? ⟨gc, ec + kn * 10 + 7, none⟩ = some (.int .i64 tt) := y 7 _ rfl
      have dk0 : (0 : Int) ≤ (kn : Int) := by omega
      have dk1 : (kn : Int) < (calls.length : Int) := by omega
      clear y hOKc hck k0
      by_cases f1 : fr ≤ tm
      rotate_left
      · have HR : Hid (R = false) := by
          have : OK = false := by rw [HOKc2.out, decide_eq_false f1]; rfl
          show _ = _
          rw [HR0.out, this]; rfl
        have f1' : tm < fr := by omega
        refine region_Z 99 (fun W => W.cell? ⟨D, 0, none⟩ = some (.int .i64 tm) ∧ W.cell? ⟨gc, ec + kn * 10 + 6, none⟩ = some (.int .i64 fr) ∧ W.cell? ⟨gc, ec + kn * 10 + 7, none⟩ = some (.int .i64 tt)) (by kernel_rfl) ?_
        have hS0 : w4.drew.cell? ⟨D, 0, none⟩ = some (.int .i64 tm) ∧ w4.drew.cell? ⟨gc, ec + kn * 10 + 6, none⟩ = some (.int .i64 fr) ∧ w4.drew.cell? ⟨gc, ec + kn * 10 + 7, none⟩ = some (.int .i64 tt) := ⟨x0, c6, c7⟩
        refine Y_take (i := 0) (v := ?_) rfl (by kernel_rfl) (by kernel_rfl) (by kernel_rfl) (by kernel_rfl) (fun _ _ _ h => h) (by rfl) hS0 ?_ ?_
        rotate_left
        · (intro w' hSw; obtain ⟨p0, p1, p2⟩ := hSw; (try go_simp); (try with_reducible rfl))
        simp only [Act.put, List.setIfInBounds_toArray, List.getElem_toArray, List.getElem_cons_zero, List.set_cons_succ, List.set_cons_zero]
        refine Y_take (i := 1) (v := ?_) rfl (by kernel_rfl) (by kernel_rfl) (by kernel_rfl) (by kernel_rfl) (fun _ _ _ h => h) (by rfl) hS0 ?_ ?_
        rotate_left
        · (intro w' hSw; obtain ⟨p0, p1, p2⟩ := hSw; (try go_simp); (try with_reducible rfl))
        simp only [Act.put, List.setIfInBounds_toArray, List.getElem_toArray, List.getElem_cons_succ, List.getElem_cons_zero, List.set_cons_succ, List.set_cons_zero]
        refine Y_take (i := 2) (v := ?_) rfl (by kernel_rfl) (by kernel_rfl) (by kernel_rfl) (by kernel_rfl) (fun _ _ _ h => h) (by rfl) hS0 ?_ ?_
        rotate_left
        · (intro w' hSw; obtain ⟨p0, p1, p2⟩ := hSw; (try go_simp); (try with_reducible rfl))
        simp only [Act.put, List.setIfInBounds_toArray, List.getElem_toArray, List.getElem_cons_succ, List.getElem_cons_zero, List.set_cons_succ, List.set_cons_zero]
        refine Y_take (i := 3) (v := ?_) rfl (by kernel_rfl) (by kernel_rfl) (by kernel_rfl) (by kernel_rfl) (fun _ _ _ h => h) (by rfl) hS0 ?_ ?_
        rotate_left
        · (intro w' hSw; obtain ⟨p0, p1, p2⟩ := hSw; (try go_simp); (try with_reducible rfl))
        simp only [Act.put, List.setIfInBounds_toArray, List.getElem_toArray, List.getElem_cons_succ, List.getElem_cons_zero, List.set_cons_succ, List.set_cons_zero]
        refine Y_take (i := 4) (v := ?_) rfl (by kernel_rfl) (by kernel_rfl) (by kernel_rfl) (by kernel_rfl) (fun _ _ _ h => h) (by rfl) hS0 ?_ ?_
        rotate_left
        · (intro w' hSw; obtain ⟨p0, p1, p2⟩ := hSw; (try go_simp); (try with_reducible rfl))
        simp only [Act.put, List.setIfInBounds_toArray, List.getElem_toArray, List.getElem_cons_succ, List.getElem_cons_zero, List.set_cons_succ, List.set_cons_zero]
        refine Y_take (i := 5) (v := ?_) rfl (by kernel_rfl) (by kernel_rfl) (by kernel_rfl) (by kernel_rfl) (fun _ _ _ h => h) (by rfl) hS0 ?_ ?_
        rotate_left
        · (intro w' hSw; obtain ⟨p0, p1, p2⟩ := hSw; (try go_simp); (try with_reducible rfl))
        simp only [Act.put, List.setIfInBounds_toArray, List.getElem_toArray, List.getElem_cons_succ, List.getElem_cons_zero, List.set_cons_succ, List.set_cons_zero]
        refine Y_take (i := 6) (v := ?_) rfl (by kernel_rfl) (by kernel_rfl) (by kernel_rfl) (by kernel_rfl) (fun _ _ _ h => h) (by rfl) hS0 ?_ ?_
        rotate_left
        · (intro w' hSw; obtain ⟨p0, p1, p2⟩ := hSw; (try go_simp); (try with_reducible rfl))
        simp only [Act.put, List.setIfInBounds_toArray, List.getElem_toArray, List.getElem_cons_succ, List.getElem_cons_zero, List.set_cons_succ, List.set_cons_zero]
        refine Y_take (i := 7) (v := ?_) rfl (by kernel_rfl) (by kernel_rfl) (by kernel_rfl) (by kernel_rfl) (fun _ _ _ h => h) (by rfl) hS0 ?_ ?_
        rotate_left
        · (intro w' hSw; obtain ⟨p0, p1, p2⟩ := hSw; (try go_simp); (try with_reducible rfl))
        simp only [Act.put, List.setIfInBounds_toArray, List.getElem_toArray, List.getElem_cons_succ, List.getElem_cons_zero, List.set_cons_succ, List.set_cons_zero]
        refine Y_take (i := 8) (v := ?_) rfl (by kernel_rfl) (by kernel_rfl) (by kernel_rfl) (by kernel_rfl) (fun _ _ _ h => h) (by rfl) hS0 ?_ ?_
        rotate_left
        · (intro w' hSw; obtain ⟨p0, p1, p2⟩ := hSw; (try go_simp); (try with_reducible rfl))
        simp only [Act.put, List.setIfInBounds_toArray, List.getElem_toArray, List.getElem_cons_succ, List.getElem_cons_zero, List.set_cons_succ, List.set_cons_zero]
        refine Y_take (i := 9) (v := ?_) rfl (by kernel_rfl) (by kernel_rfl) (by kernel_rfl) (by kernel_rfl) (fun _ _ _ h => h) (by rfl) hS0 ?_ ?_
        rotate_left
        · (intro w' hSw; obtain ⟨p0, p1, p2⟩ := hSw; (try go_simp); (try with_reducible rfl))
        simp only [Act.put, List.setIfInBounds_toArray, List.getElem_toArray, List.getElem_cons_succ, List.getElem_cons_zero, List.set_cons_succ, List.set_cons_zero]
        refine Y_take (i := 10) (v := ?_) rfl (by kernel_rfl) (by kernel_rfl) (by kernel_rfl) (by kernel_rfl) (fun _ _ _ h => h) (by rfl) hS0 ?_ ?_
        rotate_left
        · (intro w' hSw; obtain ⟨p0, p1, p2⟩ := hSw; (try go_simp); (try with_reducible rfl))
        simp only [Act.put, List.setIfInBounds_toArray, List.getElem_toArray, List.getElem_cons_succ, List.getElem_cons_zero, List.set_cons_succ, List.set_cons_zero]
        refine Y_take (i := 11) (v := ?_) rfl (by kernel_rfl) (by kernel_rfl) (by kernel_rfl) (by kernel_rfl) (fun _ _ _ h => h) (by rfl) hS0 ?_ ?_
        rotate_left
        · (intro w' hSw; obtain ⟨p0, p1, p2⟩ := hSw; (try go_simp); (try with_reducible rfl))
        simp only [Act.put, List.setIfInBounds_toArray, List.getElem_toArray, List.getElem_cons_succ, List.getElem_cons_zero, List.set_cons_succ, List.set_cons_zero]
        refine Y_take (i := 12) (v := ?_) rfl (by kernel_rfl) (by kernel_rfl) (by kernel_rfl) (by kernel_rfl) (fun _ _ _ h => h) (by rfl) hS0 ?_ ?_
        rotate_left
        · (intro w' hSw; obtain ⟨p0, p1, p2⟩ := hSw; (try go_simp); (try with_reducible rfl))
        simp only [Act.put, List.setIfInBounds_toArray, List.getElem_toArray, List.getElem_cons_succ, List.getElem_cons_zero, List.set_cons_succ, List.set_cons_zero]
        refine Y_skip (i := 13) rfl (by kernel_rfl) (by kernel_rfl) (by kernel_rfl) (by kernel_rfl) (fun _ _ _ h => h) (by rfl) hS0 ?_
        simp only [Act.put, List.setIfInBounds_toArray, List.getElem_toArray, List.getElem_cons_succ, List.getElem_cons_zero, List.set_cons_succ, List.set_cons_zero]
        refine Y_skip (i := 14) rfl (by kernel_rfl) (by kernel_rfl) (by kernel_rfl) (by kernel_rfl) (fun _ _ _ h => h) (by rfl) hS0 ?_
        simp only [Act.put, List.setIfInBounds_toArray, List.getElem_toArray, List.getElem_cons_succ, List.getElem_cons_zero, List.set_cons_succ, List.set_cons_zero]
        refine Y_skip (i := 15) rfl (by kernel_rfl) (by kernel_rfl) (by kernel_rfl) (by kernel_rfl) (fun _ _ _ h => h) (by rfl) hS0 ?_
        simp only [Act.put, List.setIfInBounds_toArray, List.getElem_toArray, List.getElem_cons_succ, List.getElem_cons_zero, List.set_cons_succ, List.set_cons_zero]
        refine Y_skip (i := 16) rfl (by kernel_rfl) (by kernel_rfl) (by kernel_rfl) (by kernel_rfl) (fun _ _ _ h => h) (by rfl) hS0 ?_
        simp only [Act.put, List.setIfInBounds_toArray, List.getElem_toArray, List.getElem_cons_succ, List.getElem_cons_zero, List.set_cons_succ, List.set_cons_zero]
        refine Y_skip (i := 17) rfl (by kernel_rfl) (by kernel_rfl) (by kernel_rfl) (by kernel_rfl) (fun _ _ _ h => h) (by rfl) hS0 ?_
        simp only [Act.put, List.setIfInBounds_toArray, List.getElem_toArray, List.getElem_cons_succ, List.getElem_cons_zero, List.set_cons_succ, List.set_cons_zero]
        refine Y_skip (i := 18) rfl (by kernel_rfl) (by kernel_rfl) (by kernel_rfl) (by kernel_rfl) (fun _ _ _ h => h) (by rfl) hS0 ?_
        simp only [Act.put, List.setIfInBounds_toArray, List.getElem_toArray, List.getElem_cons_succ, List.getElem_cons_zero, List.set_cons_succ, List.set_cons_zero]
        refine Y_skip (i := 19) rfl (by kernel_rfl) (by kernel_rfl) (by kernel_rfl) (by kernel_rfl) (fun _ _ _ h => h) (by rfl) hS0 ?_
        simp only [Act.put, List.setIfInBounds_toArray, List.getElem_toArray, List.getElem_cons_succ, List.getElem_cons_zero, List.set_cons_succ, List.set_cons_zero]
        refine Y_skip (i := 20) rfl (by kernel_rfl) (by kernel_rfl) (by kernel_rfl) (by kernel_rfl) (fun _ _ _ h => h) (by rfl) hS0 ?_
        simp only [Act.put, List.setIfInBounds_toArray, List.getElem_toArray, List.getElem_cons_succ, List.getElem_cons_zero, List.set_cons_succ, List.set_cons_zero]
        refine Y_skip (i := 21) rfl (by kernel_rfl) (by kernel_rfl) (by kernel_rfl) (by kernel_rfl) (fun _ _ _ h => h) (by rfl) hS0 ?_
        simp only [Act.put, List.setIfInBounds_toArray, List.getElem_toArray, List.getElem_cons_succ, List.getElem_cons_zero, List.set_cons_succ, List.set_cons_zero]
        refine Y_skip (i := 22) rfl (by kernel_rfl) (by kernel_rfl) (by kernel_rfl) (by kernel_rfl) (fun _ _ _ h => h) (by rfl) hS0 ?_
        simp only [Act.put, List.setIfInBounds_toArray, List.getElem_toArray, List.getElem_cons_succ, List.getElem_cons_zero, List.set_cons_succ, List.set_cons_zero]
        refine Y_skip (i := 23) rfl (by kernel_rfl) (by kernel_rfl) (by kernel_rfl) (by kernel_rfl) (fun _ _ _ h => h) (by rfl) hS0 ?_
        simp only [Act.put, List.setIfInBounds_toArray, List.getElem_toArray, List.getElem_cons_succ, List.getElem_cons_zero, List.set_cons_succ, List.set_cons_zero]
        refine Y_skip (i := 24) rfl (by kernel_rfl) (by kernel_rfl) (by kernel_rfl) (by kernel_rfl) (fun _ _ _ h => h) (by rfl) hS0 ?_
        simp only [Act.put, List.setIfInBounds_toArray, List.getElem_toArray, List.getElem_cons_succ, List.getElem_cons_zero, List.set_cons_succ, List.set_cons_zero]
        refine Y_skip (i := 25) rfl (by kernel_rfl) (by kernel_rfl) (by kernel_rfl) (by kernel_rfl) (fun _ _ _ h => h) (by rfl) hS0 ?_
        simp only [Act.put, List.setIfInBounds_toArray, List.getElem_toArray, List.getElem_cons_succ, List.getElem_cons_zero, List.set_cons_succ, List.set_cons_zero]
        refine Y_skip (i := 26) rfl (by kernel_rfl) (by kernel_rfl) (by kernel_rfl) (by kernel_rfl) (fun _ _ _ h => h) (by rfl) hS0 ?_
        simp only [Act.put, List.setIfInBounds_toArray, List.getElem_toArray, List.getElem_cons_succ, List.getElem_cons_zero, List.set_cons_succ, List.set_cons_zero]
        refine Y_skip (i := 27) rfl (by kernel_rfl) (by kernel_rfl) (by kernel_rfl) (by kernel_rfl) (fun _ _ _ h => h) (by rfl) hS0 ?_
        simp only [Act.put, List.setIfInBounds_toArray, List.getElem_toArray, List.getElem_cons_succ, List.getElem_cons_zero, List.set_cons_succ, List.set_cons_zero]
        refine Y_skip (i := 28) rfl (by kernel_rfl) (by kernel_rfl) (by kernel_rfl) (by kernel_rfl) (fun _ _ _ h => h) (by rfl) hS0 ?_
        simp only [Act.put, List.setIfInBounds_toArray, List.getElem_toArray, List.getElem_cons_succ, List.getElem_cons_zero, List.set_cons_succ, List.set_cons_zero]
        refine Y_take (i := 29) (v := ?_) rfl (by kernel_rfl) (by kernel_rfl) (by kernel_rfl) (by kernel_rfl) (fun _ _ _ h => h) (by rfl) hS0 ?_ ?_
        rotate_left
        · (intro w' hSw; obtain ⟨p0, p1, p2⟩ := hSw; (try go_simp); (try with_reducible rfl))
        simp only [Act.put, List.setIfInBounds_toArray, List.getElem_toArray, List.getElem_cons_succ, List.getElem_cons_zero, List.set_cons_succ, List.set_cons_zero]
        refine Z_done (by kernel_rfl) ?_ _
        all_goals
          go_wp2
        all_goals first
          | (go_ret; exact ⟨by rw [HR.out]; first | rfl | simp, by rw [HN.out]; first | exact HBX.out | exact below_drew HBX.out⟩)
          | (exfalso; omega)
      have f1' : ¬ tm < fr := by omega
      by_cases f2 : tt = -1
      · have b2 : (tt == -1) = true := by rw [f2]; rfl
        have b3 : (tt != -1) = false := by rw [f2]; rfl
        have HOKT : Hid (OK = true) := by
          show _ = _
          rw [HOKc2.out, decide_eq_true f1, decide_eq_true f2]; rfl
        clear f2
        refine region_Z 99 (fun W => W.cell? ⟨D, 0, none⟩ = some (.int .i64 tm) ∧ W.cell? ⟨gc, ec + kn * 10 + 6, none⟩ = some (.int .i64 fr) ∧ W.cell? ⟨gc, ec + kn * 10 + 7, none⟩ = some (.int .i64 tt)) (by kernel_rfl) ?_
        have hS0 : w4.drew.cell? ⟨D, 0, none⟩ = some (.int .i64 tm) ∧ w4.drew.cell? ⟨gc, ec + kn * 10 + 6, none⟩ = some (.int .i64 fr) ∧ w4.drew.cell? ⟨gc, ec + kn * 10 + 7, none⟩ = some (.int .i64 tt) := ⟨x0, c6, c7⟩
        refine Y_take (i := 0) (v := ?_) rfl (by kernel_rfl) (by kernel_rfl) (by kernel_rfl) (by kernel_rfl) (fun _ _ _ h => h) (by rfl) hS0 ?_ ?_
        rotate_left
        · (intro w' hSw; obtain ⟨p0, p1, p2⟩ := hSw; (try go_simp); (try with_reducible rfl))
        simp only [Act.put, List.setIfInBounds_toArray, List.getElem_toArray, List.getElem_cons_zero, List.set_cons_succ, List.set_cons_zero]
        refine Y_take (i := 1) (v := ?_) rfl (by kernel_rfl) (by kernel_rfl) (by kernel_rfl) (by kernel_rfl) (fun _ _ _ h => h) (by rfl) hS0 ?_ ?_
        rotate_left
        · (intro w' hSw; obtain ⟨p0, p1, p2⟩ := hSw; (try go_simp); (try with_reducible rfl))
        simp only [Act.put, List.setIfInBounds_toArray, List.getElem_toArray, List.getElem_cons_succ, List.getElem_cons_zero, List.set_cons_succ, List.set_cons_zero]
        refine Y_take (i := 2) (v := ?_) rfl (by kernel_rfl) (by kernel_rfl) (by kernel_rfl) (by kernel_rfl) (fun _ _ _ h => h) (by rfl) hS0 ?_ ?_
        rotate_left
        · (intro w' hSw; obtain ⟨p0, p1, p2⟩ := hSw; (try go_simp); (try with_reducible rfl))
        simp only [Act.put, List.setIfInBounds_toArray, List.getElem_toArray, List.getElem_cons_succ, List.getElem_cons_zero, List.set_cons_succ, List.set_cons_zero]
        refine Y_take (i := 3) (v := ?_) rfl (by kernel_rfl) (by kernel_rfl) (by kernel_rfl) (by kernel_rfl) (fun _ _ _ h => h) (by rfl) hS0 ?_ ?_
        rotate_left
        · (intro w' hSw; obtain ⟨p0, p1, p2⟩ := hSw; (try go_simp); (try with_reducible rfl))
        simp only [Act.put, List.setIfInBounds_toArray, List.getElem_toArray, List.getElem_cons_succ, List.getElem_cons_zero, List.set_cons_succ, List.set_cons_zero]
        refine Y_take (i := 4) (v := ?_) rfl (by kernel_rfl) (by kernel_rfl) (by kernel_rfl) (by kernel_rfl) (fun _ _ _ h => h) (by rfl) hS0 ?_ ?_
        rotate_left
        · (intro w' hSw; obtain ⟨p0, p1, p2⟩ := hSw; (try go_simp); (try with_reducible rfl))
        simp only [Act.put, List.setIfInBounds_toArray, List.getElem_toArray, List.getElem_cons_succ, List.getElem_cons_zero, List.set_cons_succ, List.set_cons_zero]
        refine Y_take (i := 5) (v := ?_) rfl (by kernel_rfl) (by kernel_rfl) (by kernel_rfl) (by kernel_rfl) (fun _ _ _ h => h) (by rfl) hS0 ?_ ?_
        rotate_left
        · (intro w' hSw; obtain ⟨p0, p1, p2⟩ := hSw; (try go_simp); (try with_reducible rfl))
        simp only [Act.put, List.setIfInBounds_toArray, List.getElem_toArray, List.getElem_cons_succ, List.getElem_cons_zero, List.set_cons_succ, List.set_cons_zero]
        refine Y_take (i := 6) (v := ?_) rfl (by kernel_rfl) (by kernel_rfl) (by kernel_rfl) (by kernel_rfl) (fun _ _ _ h => h) (by rfl) hS0 ?_ ?_
        rotate_left
        · (intro w' hSw; obtain ⟨p0, p1, p2⟩ := hSw; (try go_simp); (try with_reducible rfl))
        simp only [Act.put, List.setIfInBounds_toArray, List.getElem_toArray, List.getElem_cons_succ, List.getElem_cons_zero, List.set_cons_succ, List.set_cons_zero]
        refine Y_take (i := 7) (v := ?_) rfl (by kernel_rfl) (by kernel_rfl) (by kernel_rfl) (by kernel_rfl) (fun _ _ _ h => h) (by rfl) hS0 ?_ ?_
        rotate_left
        · (intro w' hSw; obtain ⟨p0, p1, p2⟩ := hSw; (try go_simp); (try with_reducible rfl))
        simp only [Act.put, List.setIfInBounds_toArray, List.getElem_toArray, List.getElem_cons_succ, List.getElem_cons_zero, List.set_cons_succ, List.set_cons_zero]
        refine Y_take (i := 8) (v := ?_) rfl (by kernel_rfl) (by kernel_rfl) (by kernel_rfl) (by kernel_rfl) (fun _ _ _ h => h) (by rfl) hS0 ?_ ?_
        rotate_left
        · (intro w' hSw; obtain ⟨p0, p1, p2⟩ := hSw; (try go_simp); (try with_reducible rfl))
        simp only [Act.put, List.setIfInBounds_toArray, List.getElem_toArray, List.getElem_cons_succ, List.getElem_cons_zero, List.set_cons_succ, List.set_cons_zero]
        refine Y_take (i := 9) (v := ?_) rfl (by kernel_rfl) (by kernel_rfl) (by kernel_rfl) (by kernel_rfl) (fun _ _ _ h => h) (by rfl) hS0 ?_ ?_
        rotate_left
        · (intro w' hSw; obtain ⟨p0, p1, p2⟩ := hSw; (try go_simp); (try with_reducible rfl))
        simp only [Act.put, List.setIfInBounds_toArray, List.getElem_toArray, List.getElem_cons_succ, List.getElem_cons_zero, List.set_cons_succ, List.set_cons_zero]
        refine Y_take (i := 10) (v := ?_) rfl (by kernel_rfl) (by kernel_rfl) (by kernel_rfl) (by kernel_rfl) (fun _ _ _ h => h) (by rfl) hS0 ?_ ?_
        rotate_left
        · (intro w' hSw; obtain ⟨p0, p1, p2⟩ := hSw; (try go_simp); (try with_reducible rfl))
        simp only [Act.put, List.setIfInBounds_toArray, List.getElem_toArray, List.getElem_cons_succ, List.getElem_cons_zero, List.set_cons_succ, List.set_cons_zero]
        refine Y_take (i := 11) (v := ?_) rfl (by kernel_rfl) (by kernel_rfl) (by kernel_rfl) (by kernel_rfl) (fun _ _ _ h => h) (by rfl) hS0 ?_ ?_
        rotate_left
        · (intro w' hSw; obtain ⟨p0, p1, p2⟩ := hSw; (try go_simp); (try with_reducible rfl))
        simp only [Act.put, List.setIfInBounds_toArray, List.getElem_toArray, List.getElem_cons_succ, List.getElem_cons_zero, List.set_cons_succ, List.set_cons_zero]
        refine Y_take (i := 12) (v := ?_) rfl (by kernel_rfl) (by kernel_rfl) (by kernel_rfl) (by kernel_rfl) (fun _ _ _ h => h) (by rfl) hS0 ?_ ?_
        rotate_left
        · (intro w' hSw; obtain ⟨p0, p1, p2⟩ := hSw; (try go_simp); (try with_reducible rfl))
        simp only [Act.put, List.setIfInBounds_toArray, List.getElem_toArray, List.getElem_cons_succ, List.getElem_cons_zero, List.set_cons_succ, List.set_cons_zero]
        refine Y_take (i := 13) (v := ?_) rfl (by kernel_rfl) (by kernel_rfl) (by kernel_rfl) (by kernel_rfl) (fun _ _ _ h => h) (by rfl) hS0 ?_ ?_
        rotate_left
        · (intro w' hSw; obtain ⟨p0, p1, p2⟩ := hSw; (try go_simp); (try with_reducible rfl))
        simp only [Act.put, List.setIfInBounds_toArray, List.getElem_toArray, List.getElem_cons_succ, List.getElem_cons_zero, List.set_cons_succ, List.set_cons_zero]
        refine Y_take (i := 14) (v := ?_) rfl (by kernel_rfl) (by kernel_rfl) (by kernel_rfl) (by kernel_rfl) (fun _ _ _ h => h) (by rfl) hS0 ?_ ?_
        rotate_left
        · (intro w' hSw; obtain ⟨p0, p1, p2⟩ := hSw; (try go_simp); (try with_reducible rfl))
        simp only [Act.put, List.setIfInBounds_toArray, List.getElem_toArray, List.getElem_cons_succ, List.getElem_cons_zero, List.set_cons_succ, List.set_cons_zero]
        refine Y_take (i := 15) (v := ?_) rfl (by kernel_rfl) (by kernel_rfl) (by kernel_rfl) (by kernel_rfl) (fun _ _ _ h => h) (by rfl) hS0 ?_ ?_
        rotate_left
        · (intro w' hSw; obtain ⟨p0, p1, p2⟩ := hSw; (try go_simp); (try with_reducible rfl))
        simp only [Act.put, List.setIfInBounds_toArray, List.getElem_toArray, List.getElem_cons_succ, List.getElem_cons_zero, List.set_cons_succ, List.set_cons_zero]
        refine Y_take (i := 16) (v := ?_) rfl (by kernel_rfl) (by kernel_rfl) (by kernel_rfl) (by kernel_rfl) (fun _ _ _ h => h) (by rfl) hS0 ?_ ?_
        rotate_left
        · (intro w' hSw; obtain ⟨p0, p1, p2⟩ := hSw; (try go_simp); (try with_reducible rfl))
        simp only [Act.put, List.setIfInBounds_toArray, List.getElem_toArray, List.getElem_cons_succ, List.getElem_cons_zero, List.set_cons_succ, List.set_cons_zero]
        refine Y_take (i := 17) (v := ?_) rfl (by kernel_rfl) (by kernel_rfl) (by kernel_rfl) (by kernel_rfl) (fun _ _ _ h => h) (by rfl) hS0 ?_ ?_
        rotate_left
        · (intro w' hSw; obtain ⟨p0, p1, p2⟩ := hSw; (try go_simp); (try with_reducible rfl))
        simp only [Act.put, List.setIfInBounds_toArray, List.getElem_toArray, List.getElem_cons_succ, List.getElem_cons_zero, List.set_cons_succ, List.set_cons_zero]
        refine Y_take (i := 18) (v := ?_) rfl (by kernel_rfl) (by kernel_rfl) (by kernel_rfl) (by kernel_rfl) (fun _ _ _ h => h) (by rfl) hS0 ?_ ?_
        rotate_left
        · (intro w' hSw; obtain ⟨p0, p1, p2⟩ := hSw; (try go_simp); (try with_reducible rfl))
        simp only [Act.put, List.setIfInBounds_toArray, List.getElem_toArray, List.getElem_cons_succ, List.getElem_cons_zero, List.set_cons_succ, List.set_cons_zero]
        refine Y_take (i := 19) (v := ?_) rfl (by kernel_rfl) (by kernel_rfl) (by kernel_rfl) (by kernel_rfl) (fun _ _ _ h => h) (by rfl) hS0 ?_ ?_
        rotate_left
        · (intro w' hSw; obtain ⟨p0, p1, p2⟩ := hSw; (try go_simp); (try with_reducible rfl))
        simp only [Act.put, List.setIfInBounds_toArray, List.getElem_toArray, List.getElem_cons_succ, List.getElem_cons_zero, List.set_cons_succ, List.set_cons_zero]
        refine Y_skip (i := 20) rfl (by kernel_rfl) (by kernel_rfl) (by kernel_rfl) (by kernel_rfl) (fun _ _ _ h => h) (by rfl) hS0 ?_
        simp only [Act.put, List.setIfInBounds_toArray, List.getElem_toArray, List.getElem_cons_succ, List.getElem_cons_zero, List.set_cons_succ, List.set_cons_zero]
        refine Y_skip (i := 21) rfl (by kernel_rfl) (by kernel_rfl) (by kernel_rfl) (by kernel_rfl) (fun _ _ _ h => h) (by rfl) hS0 ?_
        simp only [Act.put, List.setIfInBounds_toArray, List.getElem_toArray, List.getElem_cons_succ, List.getElem_cons_zero, List.set_cons_succ, List.set_cons_zero]
        refine Y_skip (i := 22) rfl (by kernel_rfl) (by kernel_rfl) (by kernel_rfl) (by kernel_rfl) (fun _ _ _ h => h) (by rfl) hS0 ?_
        simp only [Act.put, List.setIfInBounds_toArray, List.getElem_toArray, List.getElem_cons_succ, List.getElem_cons_zero, List.set_cons_succ, List.set_cons_zero]
        refine Y_skip (i := 23) rfl (by kernel_rfl) (by kernel_rfl) (by kernel_rfl) (by kernel_rfl) (fun _ _ _ h => h) (by rfl) hS0 ?_
        simp only [Act.put, List.setIfInBounds_toArray, List.getElem_toArray, List.getElem_cons_succ, List.getElem_cons_zero, List.set_cons_succ, List.set_cons_zero]
        refine Y_skip (i := 24) rfl (by kernel_rfl) (by kernel_rfl) (by kernel_rfl) (by kernel_rfl) (fun _ _ _ h => h) (by rfl) hS0 ?_
        simp only [Act.put, List.setIfInBounds_toArray, List.getElem_toArray, List.getElem_cons_succ, List.getElem_cons_zero, List.set_cons_succ, List.set_cons_zero]
        refine Y_skip (i := 25) rfl (by kernel_rfl) (by kernel_rfl) (by kernel_rfl) (by kernel_rfl) (fun _ _ _ h => h) (by rfl) hS0 ?_
        simp only [Act.put, List.setIfInBounds_toArray, List.getElem_toArray, List.getElem_cons_succ, List.getElem_cons_zero, List.set_cons_succ, List.set_cons_zero]
        refine Y_skip (i := 26) rfl (by kernel_rfl) (by kernel_rfl) (by kernel_rfl) (by kernel_rfl) (fun _ _ _ h => h) (by rfl) hS0 ?_
        simp only [Act.put, List.setIfInBounds_toArray, List.getElem_toArray, List.getElem_cons_succ, List.getElem_cons_zero, List.set_cons_succ, List.set_cons_zero]
        refine Y_skip (i := 27) rfl (by kernel_rfl) (by kernel_rfl) (by kernel_rfl) (by kernel_rfl) (fun _ _ _ h => h) (by rfl) hS0 ?_
        simp only [Act.put, List.setIfInBounds_toArray, List.getElem_toArray, List.getElem_cons_succ, List.getElem_cons_zero, List.set_cons_succ, List.set_cons_zero]
        refine Y_take (i := 28) (v := ?_) rfl (by kernel_rfl) (by kernel_rfl) (by kernel_rfl) (by kernel_rfl) (fun _ _ _ h => h) (by rfl) hS0 ?_ ?_
        rotate_left
        · (intro w' hSw; obtain ⟨p0, p1, p2⟩ := hSw; (try go_simp); (try with_reducible rfl))
        simp only [Act.put, List.setIfInBounds_toArray, List.getElem_toArray, List.getElem_cons_succ, List.getElem_cons_zero, List.set_cons_succ, List.set_cons_zero]
        refine Y_take (i := 29) (v := ?_) rfl (by kernel_rfl) (by kernel_rfl) (by kernel_rfl) (by kernel_rfl) (fun _ _ _ h => h) (by rfl) hS0 ?_ ?_
        rotate_left
        · (intro w' hSw; obtain ⟨p0, p1, p2⟩ := hSw; (try go_simp); (try with_reducible rfl))
        simp only [Act.put, List.setIfInBounds_toArray, List.getElem_toArray, List.getElem_cons_succ, List.getElem_cons_zero, List.set_cons_succ, List.set_cons_zero]
        refine Z_done (by kernel_rfl) ?_ _
        all_goals
          go_upto_region 7 with fail
          go_wp2_with fail
          go_loopg [9] i (fun gk j wr => ∃ m : Nat, m + gk = i ∧ j = .int .i64 m ∧ (∀ j, j < m → P j = false) ∧ Below (D + 1) WA wr)
          case atStart => exact ⟨0, by omega, rfl, fun j hj => by omega, by first | exact HB4.out | exact below_drew HB4.out⟩
          case round =>
            obtain ⟨m, hm, rfl, hP, hB⟩ := hrel
            have hBN := HA.out.2.1.trans (hB.mono HND.out)
            by_cases hm1 : m < i
            · obtain ⟨b, hb⟩ : ∃ b, pts[m]? = some b := ⟨_, List.getElem?_eq_getElem (by have := HL.out; omega)⟩
              have hPm := HBd.out m b hb
              obtain ⟨g2, e2, hg2, -, y⟩ := (HU.out _ hBN).at hb
              cases hg2
              obtain ⟨tm2, cl2, no2, T2, E2⟩ := b
              have HPm : Hid (P m = (decide (cl2 = pcl) && decide (no2 = pno))) := hPm
              have z1 : wr.cell? ⟨h, o + m * 5 + 1, none⟩ = some (.int .i64 cl2) := y 1 _ rfl
              have z2 : wr.cell? ⟨h, o + m * 5 + 2, none⟩ = some (.int .i64 no2) := y 2 _ rfl
              have rD := (hB.block D (by omega)).trans HA.out.1
              have r1 := cellB rD 1 _ rfl
              have r2 := cellB rD 2 _ rfl
              have d2 : (0 : Int) ≤ (m : Int) := by omega
              have d3 : (m : Int) < (i : Int) := by omega
              have d4 : (m : Int) < (pts.length : Int) := by have := HL.out; omega
              have d5 : i ≤ 100000 := by have := HL.out; omega
              have HBX : Hid (Below N w wr) := hBN
              have HBB : Hid (Below (D + 1) WA wr) := hB
              have HP : Hid (∀ j, j < m → P j = false) := hP
              clear hPm y hB hBN hb rD hP
              by_cases e0 : cl2 = pcl ∧ no2 = pno
              · have b0 : (cl2 == pcl) = true := by simpa using e0.1
                have b1 : (no2 == pno) = true := by simpa using e0.2
                have HR : Hid (R = false) := by
                  have hm9 : m < i := by omega
                  show _ = _
                  rw [HR0.out, fstB_at hm9 (by rw [HPm.out, decide_eq_true e0.1, decide_eq_true e0.2]; rfl) HP.out]
                  have : decide ((m : Int) = -1) = false := decide_eq_false (by omega)
                  rw [this, Bool.and_false]
                clear e0
                go_upto_region 10 with fail
                refine region_Z 99 (fun W => W.cell? ⟨h, o + m * 5 + 1, none⟩ = some (.int .i64 cl2) ∧ W.cell? ⟨h, o + m * 5 + 2, none⟩ = some (.int .i64 no2) ∧ W.cell? ⟨D, 1, none⟩ = some (.int .i64 pcl) ∧ W.cell? ⟨D, 2, none⟩ = some (.int .i64 pno)) (by kernel_rfl) ?_
                have hS0 : wr.drew.cell? ⟨h, o + m * 5 + 1, none⟩ = some (.int .i64 cl2) ∧ wr.drew.cell? ⟨h, o + m * 5 + 2, none⟩ = some (.int .i64 no2) ∧ wr.drew.cell? ⟨D, 1, none⟩ = some (.int .i64 pcl) ∧ wr.drew.cell? ⟨D, 2, none⟩ = some (.int .i64 pno) := ⟨z1, z2, r1, r2⟩
                refine Y_take (i := 0) (v := ?_) rfl (by kernel_rfl) (by kernel_rfl) (by kernel_rfl) (by kernel_rfl) (fun _ _ _ h => h) (by rfl) hS0 ?_ ?_
                rotate_left
                · (intro w' hSw; obtain ⟨p0, p1, p2, p3⟩ := hSw; (try go_simp); (try with_reducible rfl))
                simp only [Act.put, List.setIfInBounds_toArray, List.getElem_toArray, List.getElem_cons_zero, List.set_cons_succ, List.set_cons_zero]
                refine Y_take (i := 1) (v := ?_) rfl (by kernel_rfl) (by kernel_rfl) (by kernel_rfl) (by kernel_rfl) (fun _ _ _ h => h) (by rfl) hS0 ?_ ?_
                rotate_left
                · (intro w' hSw; obtain ⟨p0, p1, p2, p3⟩ := hSw; (try go_simp); (try with_reducible rfl))
                simp only [Act.put, List.setIfInBounds_toArray, List.getElem_toArray, List.getElem_cons_succ, List.getElem_cons_zero, List.set_cons_succ, List.set_cons_zero]
                refine Y_take (i := 2) (v := ?_) rfl (by kernel_rfl) (by kernel_rfl) (by kernel_rfl) (by kernel_rfl) (fun _ _ _ h => h) (by rfl) hS0 ?_ ?_
                rotate_left
                · (intro w' hSw; obtain ⟨p0, p1, p2, p3⟩ := hSw; (try go_simp); (try with_reducible rfl))
                simp only [Act.put, List.setIfInBounds_toArray, List.getElem_toArray, List.getElem_cons_succ, List.getElem_cons_zero, List.set_cons_succ, List.set_cons_zero]
                refine Y_take (i := 3) (v := ?_) rfl (by kernel_rfl) (by kernel_rfl) (by kernel_rfl) (by kernel_rfl) (fun _ _ _ h => h) (by rfl) hS0 ?_ ?_
                rotate_left
                · (intro w' hSw; obtain ⟨p0, p1, p2, p3⟩ := hSw; (try go_simp); (try with_reducible rfl))
                simp only [Act.put, List.setIfInBounds_toArray, List.getElem_toArray, List.getElem_cons_succ, List.getElem_cons_zero, List.set_cons_succ, List.set_cons_zero]
                refine Y_take (i := 4) (v := ?_) rfl (by kernel_rfl) (by kernel_rfl) (by kernel_rfl) (by kernel_rfl) (fun _ _ _ h => h) (by rfl) hS0 ?_ ?_
                rotate_left
                · (intro w' hSw; obtain ⟨p0, p1, p2, p3⟩ := hSw; (try go_simp); (try with_reducible rfl))
                simp only [Act.put, List.setIfInBounds_toArray, List.getElem_toArray, List.getElem_cons_succ, List.getElem_cons_zero, List.set_cons_succ, List.set_cons_zero]
                refine Y_take (i := 5) (v := ?_) rfl (by kernel_rfl) (by kernel_rfl) (by kernel_rfl) (by kernel_rfl) (fun _ _ _ h => h) (by rfl) hS0 ?_ ?_
                rotate_left
                · (intro w' hSw; obtain ⟨p0, p1, p2, p3⟩ := hSw; (try go_simp); (try with_reducible rfl))
                simp only [Act.put, List.setIfInBounds_toArray, List.getElem_toArray, List.getElem_cons_succ, List.getElem_cons_zero, List.set_cons_succ, List.set_cons_zero]
                refine Y_take (i := 6) (v := ?_) rfl (by kernel_rfl) (by kernel_rfl) (by kernel_rfl) (by kernel_rfl) (fun _ _ _ h => h) (by rfl) hS0 ?_ ?_
                rotate_left
                · (intro w' hSw; obtain ⟨p0, p1, p2, p3⟩ := hSw; (try go_simp); (try with_reducible rfl))
                simp only [Act.put, List.setIfInBounds_toArray, List.getElem_toArray, List.getElem_cons_succ, List.getElem_cons_zero, List.set_cons_succ, List.set_cons_zero]
                refine Y_take (i := 7) (v := ?_) rfl (by kernel_rfl) (by kernel_rfl) (by kernel_rfl) (by kernel_rfl) (fun _ _ _ h => h) (by rfl) hS0 ?_ ?_
                rotate_left
                · (intro w' hSw; obtain ⟨p0, p1, p2, p3⟩ := hSw; (try go_simp); (try with_reducible rfl))
                simp only [Act.put, List.setIfInBounds_toArray, List.getElem_toArray, List.getElem_cons_succ, List.getElem_cons_zero, List.set_cons_succ, List.set_cons_zero]
                refine Y_take (i := 8) (v := ?_) rfl (by kernel_rfl) (by kernel_rfl) (by kernel_rfl) (by kernel_rfl) (fun _ _ _ h => h) (by rfl) hS0 ?_ ?_
                rotate_left
                · (intro w' hSw; obtain ⟨p0, p1, p2, p3⟩ := hSw; (try go_simp); (try with_reducible rfl))
                simp only [Act.put, List.setIfInBounds_toArray, List.getElem_toArray, List.getElem_cons_succ, List.getElem_cons_zero, List.set_cons_succ, List.set_cons_zero]
                refine Y_take (i := 9) (v := ?_) rfl (by kernel_rfl) (by kernel_rfl) (by kernel_rfl) (by kernel_rfl) (fun _ _ _ h => h) (by rfl) hS0 ?_ ?_
                rotate_left
                · (intro w' hSw; obtain ⟨p0, p1, p2, p3⟩ := hSw; (try go_simp); (try with_reducible rfl))
                simp only [Act.put, List.setIfInBounds_toArray, List.getElem_toArray, List.getElem_cons_succ, List.getElem_cons_zero, List.set_cons_succ, List.set_cons_zero]
                refine Y_take (i := 10) (v := ?_) rfl (by kernel_rfl) (by kernel_rfl) (by kernel_rfl) (by kernel_rfl) (fun _ _ _ h => h) (by rfl) hS0 ?_ ?_
                rotate_left
                · (intro w' hSw; obtain ⟨p0, p1, p2, p3⟩ := hSw; (try go_simp); (try with_reducible rfl))
                simp only [Act.put, List.setIfInBounds_toArray, List.getElem_toArray, List.getElem_cons_succ, List.getElem_cons_zero, List.set_cons_succ, List.set_cons_zero]
                refine Y_take (i := 11) (v := ?_) rfl (by kernel_rfl) (by kernel_rfl) (by kernel_rfl) (by kernel_rfl) (fun _ _ _ h => h) (by rfl) hS0 ?_ ?_
                rotate_left
                · (intro w' hSw; obtain ⟨p0, p1, p2, p3⟩ := hSw; (try go_simp); (try with_reducible rfl))
                simp only [Act.put, List.setIfInBounds_toArray, List.getElem_toArray, List.getElem_cons_succ, List.getElem_cons_zero, List.set_cons_succ, List.set_cons_zero]
                refine Y_take (i := 12) (v := ?_) rfl (by kernel_rfl) (by kernel_rfl) (by kernel_rfl) (by kernel_rfl) (fun _ _ _ h => h) (by rfl) hS0 ?_ ?_
                rotate_left
                · (intro w' hSw; obtain ⟨p0, p1, p2, p3⟩ := hSw; (try go_simp); (try with_reducible rfl))
                simp only [Act.put, List.setIfInBounds_toArray, List.getElem_toArray, List.getElem_cons_succ, List.getElem_cons_zero, List.set_cons_succ, List.set_cons_zero]
                refine Y_take (i := 13) (v := ?_) rfl (by kernel_rfl) (by kernel_rfl) (by kernel_rfl) (by kernel_rfl) (fun _ _ _ h => h) (by rfl) hS0 ?_ ?_
                rotate_left
                · (intro w' hSw; obtain ⟨p0, p1, p2, p3⟩ := hSw; (try go_simp); (try with_reducible rfl))
                simp only [Act.put, List.setIfInBounds_toArray, List.getElem_toArray, List.getElem_cons_succ, List.getElem_cons_zero, List.set_cons_succ, List.set_cons_zero]
                refine Y_take (i := 14) (v := ?_) rfl (by kernel_rfl) (by kernel_rfl) (by kernel_rfl) (by kernel_rfl) (fun _ _ _ h => h) (by rfl) hS0 ?_ ?_
                rotate_left
                · (intro w' hSw; obtain ⟨p0, p1, p2, p3⟩ := hSw; (try go_simp); (try with_reducible rfl))
                simp only [Act.put, List.setIfInBounds_toArray, List.getElem_toArray, List.getElem_cons_succ, List.getElem_cons_zero, List.set_cons_succ, List.set_cons_zero]
                refine Y_take (i := 15) (v := ?_) rfl (by kernel_rfl) (by kernel_rfl) (by kernel_rfl) (by kernel_rfl) (fun _ _ _ h => h) (by rfl) hS0 ?_ ?_
                rotate_left
                · (intro w' hSw; obtain ⟨p0, p1, p2, p3⟩ := hSw; (try go_simp); (try with_reducible rfl))
                simp only [Act.put, List.setIfInBounds_toArray, List.getElem_toArray, List.getElem_cons_succ, List.getElem_cons_zero, List.set_cons_succ, List.set_cons_zero]
                refine Y_take (i := 16) (v := ?_) rfl (by kernel_rfl) (by kernel_rfl) (by kernel_rfl) (by kernel_rfl) (fun _ _ _ h => h) (by rfl) hS0 ?_ ?_
                rotate_left
                · (intro w' hSw; obtain ⟨p0, p1, p2, p3⟩ := hSw; (try go_simp); (try with_reducible rfl))
                simp only [Act.put, List.setIfInBounds_toArray, List.getElem_toArray, List.getElem_cons_succ, List.getElem_cons_zero, List.set_cons_succ, List.set_cons_zero]
                refine Y_take (i := 17) (v := ?_) rfl (by kernel_rfl) (by kernel_rfl) (by kernel_rfl) (by kernel_rfl) (fun _ _ _ h => h) (by rfl) hS0 ?_ ?_
                rotate_left
                · (intro w' hSw; obtain ⟨p0, p1, p2, p3⟩ := hSw; (try go_simp); (try with_reducible rfl))
                simp only [Act.put, List.setIfInBounds_toArray, List.getElem_toArray, List.getElem_cons_succ, List.getElem_cons_zero, List.set_cons_succ, List.set_cons_zero]
                refine Z_done (by kernel_rfl) ?_ _
                all_goals
                  go_wp2
                all_goals first
                  | (go_ret; exact ⟨by rw [HR.out]; first | rfl | simp, by rw [HN.out]; first | exact HBX.out | exact below_drew HBX.out⟩)
                  | (exfalso; omega)
              · have HG : Hid (∀ j, j < m + 1 → P j = false) := fun j hj => by
                  by_cases ej : j = m
                  · subst ej; rw [HPm.out, ← Bool.decide_and]; exact decide_eq_false e0
                  · exact HP.out j (by omega)
                by_cases e1 : cl2 = pcl
                · have b0 : (cl2 == pcl) = true := by simpa using e1
                  have b1 : (no2 == pno) = false := by simpa using fun h => e0 ⟨e1, h⟩
                  clear e0 e1
                  go_upto_region 10 with fail
                  refine region_Z 99 (fun W => W.cell? ⟨h, o + m * 5 + 1, none⟩ = some (.int .i64 cl2) ∧ W.cell? ⟨h, o + m * 5 + 2, none⟩ = some (.int .i64 no2) ∧ W.cell? ⟨D, 1, none⟩ = some (.int .i64 pcl) ∧ W.cell? ⟨D, 2, none⟩ = some (.int .i64 pno)) (by kernel_rfl) ?_
                  have hS0 : wr.drew.cell? ⟨h, o + m * 5 + 1, none⟩ = some (.int .i64 cl2) ∧ wr.drew.cell? ⟨h, o + m * 5 + 2, none⟩ = some (.int .i64 no2) ∧ wr.drew.cell? ⟨D, 1, none⟩ = some (.int .i64 pcl) ∧ wr.drew.cell? ⟨D, 2, none⟩ = some (.int .i64 pno) := ⟨z1, z2, r1, r2⟩
                  refine Y_take (i := 0) (v := ?_) rfl (by kernel_rfl) (by kernel_rfl) (by kernel_rfl) (by kernel_rfl) (fun _ _ _ h => h) (by rfl) hS0 ?_ ?_
                  rotate_left
                  · (intro w' hSw; obtain ⟨p0, p1, p2, p3⟩ := hSw; (try go_simp); (try with_reducible rfl))
                  simp only [Act.put, List.setIfInBounds_toArray, List.getElem_toArray, List.getElem_cons_zero, List.set_cons_succ, List.set_cons_zero]
                  refine Y_take (i := 1) (v := ?_) rfl (by kernel_rfl) (by kernel_rfl) (by kernel_rfl) (by kernel_rfl) (fun _ _ _ h => h) (by rfl) hS0 ?_ ?_
                  rotate_left
                  · (intro w' hSw; obtain ⟨p0, p1, p2, p3⟩ := hSw; (try go_simp); (try with_reducible rfl))
                  simp only [Act.put, List.setIfInBounds_toArray, List.getElem_toArray, List.getElem_cons_succ, List.getElem_cons_zero, List.set_cons_succ, List.set_cons_zero]
                  refine Y_take (i := 2) (v := ?_) rfl (by kernel_rfl) (by kernel_rfl) (by kernel_rfl) (by kernel_rfl) (fun _ _ _ h => h) (by rfl) hS0 ?_ ?_
                  rotate_left
                  · (intro w' hSw; obtain ⟨p0, p1, p2, p3⟩ := hSw; (try go_simp); (try with_reducible rfl))
                  simp only [Act.put, List.setIfInBounds_toArray, List.getElem_toArray, List.getElem_cons_succ, List.getElem_cons_zero, List.set_cons_succ, List.set_cons_zero]
                  refine Y_take (i := 3) (v := ?_) rfl (by kernel_rfl) (by kernel_rfl) (by kernel_rfl) (by kernel_rfl) (fun _ _ _ h => h) (by rfl) hS0 ?_ ?_
                  rotate_left
                  · (intro w' hSw; obtain ⟨p0, p1, p2, p3⟩ := hSw; (try go_simp); (try with_reducible rfl))
                  simp only [Act.put, List.setIfInBounds_toArray, List.getElem_toArray, List.getElem_cons_succ, List.getElem_cons_zero, List.set_cons_succ, List.set_cons_zero]
                  refine Y_take (i := 4) (v := ?_) rfl (by kernel_rfl) (by kernel_rfl) (by kernel_rfl) (by kernel_rfl) (fun _ _ _ h => h) (by rfl) hS0 ?_ ?_
                  rotate_left
                  · (intro w' hSw; obtain ⟨p0, p1, p2, p3⟩ := hSw; (try go_simp); (try with_reducible rfl))
                  simp only [Act.put, List.setIfInBounds_toArray, List.getElem_toArray, List.getElem_cons_succ, List.getElem_cons_zero, List.set_cons_succ, List.set_cons_zero]
                  refine Y_take (i := 5) (v := ?_) rfl (by kernel_rfl) (by kernel_rfl) (by kernel_rfl) (by kernel_rfl) (fun _ _ _ h => h) (by rfl) hS0 ?_ ?_
                  rotate_left
                  · (intro w' hSw; obtain ⟨p0, p1, p2, p3⟩ := hSw; (try go_simp); (try with_reducible rfl))
                  simp only [Act.put, List.setIfInBounds_toArray, List.getElem_toArray, List.getElem_cons_succ, List.getElem_cons_zero, List.set_cons_succ, List.set_cons_zero]
                  refine Y_take (i := 6) (v := ?_) rfl (by kernel_rfl) (by kernel_rfl) (by kernel_rfl) (by kernel_rfl) (fun _ _ _ h => h) (by rfl) hS0 ?_ ?_
                  rotate_left
                  · (intro w' hSw; obtain ⟨p0, p1, p2, p3⟩ := hSw; (try go_simp); (try with_reducible rfl))
                  simp only [Act.put, List.setIfInBounds_toArray, List.getElem_toArray, List.getElem_cons_succ, List.getElem_cons_zero, List.set_cons_succ, List.set_cons_zero]
                  refine Y_take (i := 7) (v := ?_) rfl (by kernel_rfl) (by kernel_rfl) (by kernel_rfl) (by kernel_rfl) (fun _ _ _ h => h) (by rfl) hS0 ?_ ?_
                  rotate_left
                  · (intro w' hSw; obtain ⟨p0, p1, p2, p3⟩ := hSw; (try go_simp); (try with_reducible rfl))
                  simp only [Act.put, List.setIfInBounds_toArray, List.getElem_toArray, List.getElem_cons_succ, List.getElem_cons_zero, List.set_cons_succ, List.set_cons_zero]
                  refine Y_take (i := 8) (v := ?_) rfl (by kernel_rfl) (by kernel_rfl) (by kernel_rfl) (by kernel_rfl) (fun _ _ _ h => h) (by rfl) hS0 ?_ ?_
                  rotate_left
                  · (intro w' hSw; obtain ⟨p0, p1, p2, p3⟩ := hSw; (try go_simp); (try with_reducible rfl))
                  simp only [Act.put, List.setIfInBounds_toArray, List.getElem_toArray, List.getElem_cons_succ, List.getElem_cons_zero, List.set_cons_succ, List.set_cons_zero]
                  refine Y_take (i := 9) (v := ?_) rfl (by kernel_rfl) (by kernel_rfl) (by kernel_rfl) (by kernel_rfl) (fun _ _ _ h => h) (by rfl) hS0 ?_ ?_
                  rotate_left
                  · (intro w' hSw; obtain ⟨p0, p1, p2, p3⟩ := hSw; (try go_simp); (try with_reducible rfl))
                  simp only [Act.put, List.setIfInBounds_toArray, List.getElem_toArray, List.getElem_cons_succ, List.getElem_cons_zero, List.set_cons_succ, List.set_cons_zero]
                  refine Y_take (i := 10) (v := ?_) rfl (by kernel_rfl) (by kernel_rfl) (by kernel_rfl) (by kernel_rfl) (fun _ _ _ h => h) (by rfl) hS0 ?_ ?_
                  rotate_left
                  · (intro w' hSw; obtain ⟨p0, p1, p2, p3⟩ := hSw; (try go_simp); (try with_reducible rfl))
                  simp only [Act.put, List.setIfInBounds_toArray, List.getElem_toArray, List.getElem_cons_succ, List.getElem_cons_zero, List.set_cons_succ, List.set_cons_zero]
                  refine Y_take (i := 11) (v := ?_) rfl (by kernel_rfl) (by kernel_rfl) (by kernel_rfl) (by kernel_rfl) (fun _ _ _ h => h) (by rfl) hS0 ?_ ?_
                  rotate_left
                  · (intro w' hSw; obtain ⟨p0, p1, p2, p3⟩ := hSw; (try go_simp); (try with_reducible rfl))
                  simp only [Act.put, List.setIfInBounds_toArray, List.getElem_toArray, List.getElem_cons_succ, List.getElem_cons_zero, List.set_cons_succ, List.set_cons_zero]
                  refine Y_take (i := 12) (v := ?_) rfl (by kernel_rfl) (by kernel_rfl) (by kernel_rfl) (by kernel_rfl) (fun _ _ _ h => h) (by rfl) hS0 ?_ ?_
                  rotate_left
                  · (intro w' hSw; obtain ⟨p0, p1, p2, p3⟩ := hSw; (try go_simp); (try with_reducible rfl))
                  simp only [Act.put, List.setIfInBounds_toArray, List.getElem_toArray, List.getElem_cons_succ, List.getElem_cons_zero, List.set_cons_succ, List.set_cons_zero]
                  refine Y_take (i := 13) (v := ?_) rfl (by kernel_rfl) (by kernel_rfl) (by kernel_rfl) (by kernel_rfl) (fun _ _ _ h => h) (by rfl) hS0 ?_ ?_
                  rotate_left
                  · (intro w' hSw; obtain ⟨p0, p1, p2, p3⟩ := hSw; (try go_simp); (try with_reducible rfl))
                  simp only [Act.put, List.setIfInBounds_toArray, List.getElem_toArray, List.getElem_cons_succ, List.getElem_cons_zero, List.set_cons_succ, List.set_cons_zero]
                  refine Y_take (i := 14) (v := ?_) rfl (by kernel_rfl) (by kernel_rfl) (by kernel_rfl) (by kernel_rfl) (fun _ _ _ h => h) (by rfl) hS0 ?_ ?_
                  rotate_left
                  · (intro w' hSw; obtain ⟨p0, p1, p2, p3⟩ := hSw; (try go_simp); (try with_reducible rfl))
                  simp only [Act.put, List.setIfInBounds_toArray, List.getElem_toArray, List.getElem_cons_succ, List.getElem_cons_zero, List.set_cons_succ, List.set_cons_zero]
                  refine Y_take (i := 15) (v := ?_) rfl (by kernel_rfl) (by kernel_rfl) (by kernel_rfl) (by kernel_rfl) (fun _ _ _ h => h) (by rfl) hS0 ?_ ?_
                  rotate_left
                  · (intro w' hSw; obtain ⟨p0, p1, p2, p3⟩ := hSw; (try go_simp); (try with_reducible rfl))
                  simp only [Act.put, List.setIfInBounds_toArray, List.getElem_toArray, List.getElem_cons_succ, List.getElem_cons_zero, List.set_cons_succ, List.set_cons_zero]
                  refine Y_take (i := 16) (v := ?_) rfl (by kernel_rfl) (by kernel_rfl) (by kernel_rfl) (by kernel_rfl) (fun _ _ _ h => h) (by rfl) hS0 ?_ ?_
                  rotate_left
                  · (intro w' hSw; obtain ⟨p0, p1, p2, p3⟩ := hSw; (try go_simp); (try with_reducible rfl))
                  simp only [Act.put, List.setIfInBounds_toArray, List.getElem_toArray, List.getElem_cons_succ, List.getElem_cons_zero, List.set_cons_succ, List.set_cons_zero]
                  refine Y_take (i := 17) (v := ?_) rfl (by kernel_rfl) (by kernel_rfl) (by kernel_rfl) (by kernel_rfl) (fun _ _ _ h => h) (by rfl) hS0 ?_ ?_
                  rotate_left
                  · (intro w' hSw; obtain ⟨p0, p1, p2, p3⟩ := hSw; (try go_simp); (try with_reducible rfl))
                  simp only [Act.put, List.setIfInBounds_toArray, List.getElem_toArray, List.getElem_cons_succ, List.getElem_cons_zero, List.set_cons_succ, List.set_cons_zero]
                  refine Z_done (by kernel_rfl) ?_ _
                  all_goals
                    go_wp2
                    go_roundg (i - (m + 1))
                    case measure => omega
                    case rel => exact ⟨m + 1, by omega, by go_num, HG.out, by first | exact HBB.out | exact below_drew HBB.out⟩
                · have b0 : (cl2 == pcl) = false := by simpa using e1
                  clear e0 e1
                  go_upto_region 10 with fail
                  refine region_Z 99 (fun W => W.cell? ⟨h, o + m * 5 + 1, none⟩ = some (.int .i64 cl2) ∧ W.cell? ⟨h, o + m * 5 + 2, none⟩ = some (.int .i64 no2) ∧ W.cell? ⟨D, 1, none⟩ = some (.int .i64 pcl) ∧ W.cell? ⟨D, 2, none⟩ = some (.int .i64 pno)) (by kernel_rfl) ?_
                  have hS0 : wr.drew.cell? ⟨h, o + m * 5 + 1, none⟩ = some (.int .i64 cl2) ∧ wr.drew.cell? ⟨h, o + m * 5 + 2, none⟩ = some (.int .i64 no2) ∧ wr.drew.cell? ⟨D, 1, none⟩ = some (.int .i64 pcl) ∧ wr.drew.cell? ⟨D, 2, none⟩ = some (.int .i64 pno) := ⟨z1, z2, r1, r2⟩
                  refine Y_take (i := 0) (v := ?_) rfl (by kernel_rfl) (by kernel_rfl) (by kernel_rfl) (by kernel_rfl) (fun _ _ _ h => h) (by rfl) hS0 ?_ ?_
                  rotate_left
                  · (intro w' hSw; obtain ⟨p0, p1, p2, p3⟩ := hSw; (try go_simp); (try with_reducible rfl))
                  simp only [Act.put, List.setIfInBounds_toArray, List.getElem_toArray, List.getElem_cons_zero, List.set_cons_succ, List.set_cons_zero]
                  refine Y_take (i := 1) (v := ?_) rfl (by kernel_rfl) (by kernel_rfl) (by kernel_rfl) (by kernel_rfl) (fun _ _ _ h => h) (by rfl) hS0 ?_ ?_
                  rotate_left
                  · (intro w' hSw; obtain ⟨p0, p1, p2, p3⟩ := hSw; (try go_simp); (try with_reducible rfl))
                  simp only [Act.put, List.setIfInBounds_toArray, List.getElem_toArray, List.getElem_cons_succ, List.getElem_cons_zero, List.set_cons_succ, List.set_cons_zero]
                  refine Y_take (i := 2) (v := ?_) rfl (by kernel_rfl) (by kernel_rfl) (by kernel_rfl) (by kernel_rfl) (fun _ _ _ h => h) (by rfl) hS0 ?_ ?_
                  rotate_left
                  · (intro w' hSw; obtain ⟨p0, p1, p2, p3⟩ := hSw; (try go_simp); (try with_reducible rfl))
                  simp only [Act.put, List.setIfInBounds_toArray, List.getElem_toArray, List.getElem_cons_succ, List.getElem_cons_zero, List.set_cons_succ, List.set_cons_zero]
                  refine Y_take (i := 3) (v := ?_) rfl (by kernel_rfl) (by kernel_rfl) (by kernel_rfl) (by kernel_rfl) (fun _ _ _ h => h) (by rfl) hS0 ?_ ?_
                  rotate_left
                  · (intro w' hSw; obtain ⟨p0, p1, p2, p3⟩ := hSw; (try go_simp); (try with_reducible rfl))
                  simp only [Act.put, List.setIfInBounds_toArray, List.getElem_toArray, List.getElem_cons_succ, List.getElem_cons_zero, List.set_cons_succ, List.set_cons_zero]
                  refine Y_take (i := 4) (v := ?_) rfl (by kernel_rfl) (by kernel_rfl) (by kernel_rfl) (by kernel_rfl) (fun _ _ _ h => h) (by rfl) hS0 ?_ ?_
                  rotate_left
                  · (intro w' hSw; obtain ⟨p0, p1, p2, p3⟩ := hSw; (try go_simp); (try with_reducible rfl))
                  simp only [Act.put, List.setIfInBounds_toArray, List.getElem_toArray, List.getElem_cons_succ, List.getElem_cons_zero, List.set_cons_succ, List.set_cons_zero]
                  refine Y_take (i := 5) (v := ?_) rfl (by kernel_rfl) (by kernel_rfl) (by kernel_rfl) (by kernel_rfl) (fun _ _ _ h => h) (by rfl) hS0 ?_ ?_
                  rotate_left
                  · (intro w' hSw; obtain ⟨p0, p1, p2, p3⟩ := hSw; (try go_simp); (try with_reducible rfl))
                  simp only [Act.put, List.setIfInBounds_toArray, List.getElem_toArray, List.getElem_cons_succ, List.getElem_cons_zero, List.set_cons_succ, List.set_cons_zero]
                  refine Y_take (i := 6) (v := ?_) rfl (by kernel_rfl) (by kernel_rfl) (by kernel_rfl) (by kernel_rfl) (fun _ _ _ h => h) (by rfl) hS0 ?_ ?_
                  rotate_left
                  · (intro w' hSw; obtain ⟨p0, p1, p2, p3⟩ := hSw; (try go_simp); (try with_reducible rfl))
                  simp only [Act.put, List.setIfInBounds_toArray, List.getElem_toArray, List.getElem_cons_succ, List.getElem_cons_zero, List.set_cons_succ, List.set_cons_zero]
                  refine Y_take (i := 7) (v := ?_) rfl (by kernel_rfl) (by kernel_rfl) (by kernel_rfl) (by kernel_rfl) (fun _ _ _ h => h) (by rfl) hS0 ?_ ?_
                  rotate_left
                  · (intro w' hSw; obtain ⟨p0, p1, p2, p3⟩ := hSw; (try go_simp); (try with_reducible rfl))
                  simp only [Act.put, List.setIfInBounds_toArray, List.getElem_toArray, List.getElem_cons_succ, List.getElem_cons_zero, List.set_cons_succ, List.set_cons_zero]
                  refine Y_take (i := 8) (v := ?_) rfl (by kernel_rfl) (by kernel_rfl) (by kernel_rfl) (by kernel_rfl) (fun _ _ _ h => h) (by rfl) hS0 ?_ ?_
                  rotate_left
                  · (intro w' hSw; obtain ⟨p0, p1, p2, p3⟩ := hSw; (try go_simp); (try with_reducible rfl))
                  simp only [Act.put, List.setIfInBounds_toArray, List.getElem_toArray, List.getElem_cons_succ, List.getElem_cons_zero, List.set_cons_succ, List.set_cons_zero]
                  refine Y_skip (i := 9) rfl (by kernel_rfl) (by kernel_rfl) (by kernel_rfl) (by kernel_rfl) (fun _ _ _ h => h) (by rfl) hS0 ?_
                  simp only [Act.put, List.setIfInBounds_toArray, List.getElem_toArray, List.getElem_cons_succ, List.getElem_cons_zero, List.set_cons_succ, List.set_cons_zero]
                  refine Y_skip (i := 10) rfl (by kernel_rfl) (by kernel_rfl) (by kernel_rfl) (by kernel_rfl) (fun _ _ _ h => h) (by rfl) hS0 ?_
                  simp only [Act.put, List.setIfInBounds_toArray, List.getElem_toArray, List.getElem_cons_succ, List.getElem_cons_zero, List.set_cons_succ, List.set_cons_zero]
                  refine Y_skip (i := 11) rfl (by kernel_rfl) (by kernel_rfl) (by kernel_rfl) (by kernel_rfl) (fun _ _ _ h => h) (by rfl) hS0 ?_
                  simp only [Act.put, List.setIfInBounds_toArray, List.getElem_toArray, List.getElem_cons_succ, List.getElem_cons_zero, List.set_cons_succ, List.set_cons_zero]
                  refine Y_skip (i := 12) rfl (by kernel_rfl) (by kernel_rfl) (by kernel_rfl) (by kernel_rfl) (fun _ _ _ h => h) (by rfl) hS0 ?_
                  simp only [Act.put, List.setIfInBounds_toArray, List.getElem_toArray, List.getElem_cons_succ, List.getElem_cons_zero, List.set_cons_succ, List.set_cons_zero]
                  refine Y_skip (i := 13) rfl (by kernel_rfl) (by kernel_rfl) (by kernel_rfl) (by kernel_rfl) (fun _ _ _ h => h) (by rfl) hS0 ?_
                  simp only [Act.put, List.setIfInBounds_toArray, List.getElem_toArray, List.getElem_cons_succ, List.getElem_cons_zero, List.set_cons_succ, List.set_cons_zero]
                  refine Y_skip (i := 14) rfl (by kernel_rfl) (by kernel_rfl) (by kernel_rfl) (by kernel_rfl) (fun _ _ _ h => h) (by rfl) hS0 ?_
                  simp only [Act.put, List.setIfInBounds_toArray, List.getElem_toArray, List.getElem_cons_succ, List.getElem_cons_zero, List.set_cons_succ, List.set_cons_zero]
                  refine Y_skip (i := 15) rfl (by kernel_rfl) (by kernel_rfl) (by kernel_rfl) (by kernel_rfl) (fun _ _ _ h => h) (by rfl) hS0 ?_
                  simp only [Act.put, List.setIfInBounds_toArray, List.getElem_toArray, List.getElem_cons_succ, List.getElem_cons_zero, List.set_cons_succ, List.set_cons_zero]
                  refine Y_skip (i := 16) rfl (by kernel_rfl) (by kernel_rfl) (by kernel_rfl) (by kernel_rfl) (fun _ _ _ h => h) (by rfl) hS0 ?_
                  simp only [Act.put, List.setIfInBounds_toArray, List.getElem_toArray, List.getElem_cons_succ, List.getElem_cons_zero, List.set_cons_succ, List.set_cons_zero]
                  refine Y_take (i := 17) (v := ?_) rfl (by kernel_rfl) (by kernel_rfl) (by kernel_rfl) (by kernel_rfl) (fun _ _ _ h => h) (by rfl) hS0 ?_ ?_
                  rotate_left
                  · (intro w' hSw; obtain ⟨p0, p1, p2, p3⟩ := hSw; (try go_simp); (try with_reducible rfl))
                  simp only [Act.put, List.setIfInBounds_toArray, List.getElem_toArray, List.getElem_cons_succ, List.getElem_cons_zero, List.set_cons_succ, List.set_cons_zero]
                  refine Z_done (by kernel_rfl) ?_ _
                  all_goals
                    go_wp2
                    go_roundg (i - (m + 1))
                    case measure => omega
                    case rel => exact ⟨m + 1, by omega, by go_num, HG.out, by first | exact HBB.out | exact below_drew HBB.out⟩
            obtain rfl : m = i := by omega
            have HR : Hid (R = true) := by
              show _ = _
              rw [HR0.out, fstB_none hP, HOKT.out]
              rfl
            have HBN : Hid (Below N w wr) := hBN
            clear hP hB hBN
            go_wp2
            go_ret
            exact ⟨by rw [HR.out]; first | rfl | simp, by rw [HN.out]; exact HBN.out⟩
      · have b2 : (tt == -1) = false := by simpa using f2
        have b3 : (tt != -1) = true := by simpa using f2
        by_cases f3 : tm ≤ tt
        · have HOKT : Hid (OK = true) := by
            show _ = _
            rw [HOKc2.out, decide_eq_true f1, decide_eq_true f3, Bool.or_true]; rfl
          have f3' : ¬ tt < tm := by omega
          refine region_Z 99 (fun W => W.cell? ⟨D, 0, none⟩ = some (.int .i64 tm) ∧ W.cell? ⟨gc, ec + kn * 10 + 6, none⟩ = some (.int .i64 fr) ∧ W.cell? ⟨gc, ec + kn * 10 + 7, none⟩ = some (.int .i64 tt)) (by kernel_rfl) ?_
          have hS0 : w4.drew.cell? ⟨D, 0, none⟩ = some (.int .i64 tm) ∧ w4.drew.cell? ⟨gc, ec + kn * 10 + 6, none⟩ = some (.int .i64 fr) ∧ w4.drew.cell? ⟨gc, ec + kn * 10 + 7, none⟩ = some (.int .i64 tt) := ⟨x0, c6, c7⟩
          refine Y_take (i := 0) (v := ?_) rfl (by kernel_rfl) (by kernel_rfl) (by kernel_rfl) (by kernel_rfl) (fun _ _ _ h => h) (by rfl) hS0 ?_ ?_
          rotate_left
          · (intro w' hSw; obtain ⟨p0, p1, p2⟩ := hSw; (try go_simp); (try with_reducible rfl))
          simp only [Act.put, List.setIfInBounds_toArray, List.getElem_toArray, List.getElem_cons_zero, List.set_cons_succ, List.set_cons_zero]
          refine Y_take (i := 1) (v := ?_) rfl (by kernel_rfl) (by kernel_rfl) (by kernel_rfl) (by kernel_rfl) (fun _ _ _ h => h) (by rfl) hS0 ?_ ?_
          rotate_left
          · (intro w' hSw; obtain ⟨p0, p1, p2⟩ := hSw; (try go_simp); (try with_reducible rfl))
          simp only [Act.put, List.setIfInBounds_toArray, List.getElem_toArray, List.getElem_cons_succ, List.getElem_cons_zero, List.set_cons_succ, List.set_cons_zero]
          refine Y_take (i := 2) (v := ?_) rfl (by kernel_rfl) (by kernel_rfl) (by kernel_rfl) (by kernel_rfl) (fun _ _ _ h => h) (by rfl) hS0 ?_ ?_
          rotate_left
          · (intro w' hSw; obtain ⟨p0, p1, p2⟩ := hSw; (try go_simp); (try with_reducible rfl))
          simp only [Act.put, List.setIfInBounds_toArray, List.getElem_toArray, List.getElem_cons_succ, List.getElem_cons_zero, List.set_cons_succ, List.set_cons_zero]
          refine Y_take (i := 3) (v := ?_) rfl (by kernel_rfl) (by kernel_rfl) (by kernel_rfl) (by kernel_rfl) (fun _ _ _ h => h) (by rfl) hS0 ?_ ?_
          rotate_left
          · (intro w' hSw; obtain ⟨p0, p1, p2⟩ := hSw; (try go_simp); (try with_reducible rfl))
          simp only [Act.put, List.setIfInBounds_toArray, List.getElem_toArray, List.getElem_cons_succ, List.getElem_cons_zero, List.set_cons_succ, List.set_cons_zero]
          refine Y_take (i := 4) (v := ?_) rfl (by kernel_rfl) (by kernel_rfl) (by kernel_rfl) (by kernel_rfl) (fun _ _ _ h => h) (by rfl) hS0 ?_ ?_
          rotate_left
          · (intro w' hSw; obtain ⟨p0, p1, p2⟩ := hSw; (try go_simp); (try with_reducible rfl))
          simp only [Act.put, List.setIfInBounds_toArray, List.getElem_toArray, List.getElem_cons_succ, List.getElem_cons_zero, List.set_cons_succ, List.set_cons_zero]
          refine Y_take (i := 5) (v := ?_) rfl (by kernel_rfl) (by kernel_rfl) (by kernel_rfl) (by kernel_rfl) (fun _ _ _ h => h) (by rfl) hS0 ?_ ?_
          rotate_left
          · (intro w' hSw; obtain ⟨p0, p1, p2⟩ := hSw; (try go_simp); (try with_reducible rfl))
          simp only [Act.put, List.setIfInBounds_toArray, List.getElem_toArray, List.getElem_cons_succ, List.getElem_cons_zero, List.set_cons_succ, List.set_cons_zero]
          refine Y_take (i := 6) (v := ?_) rfl (by kernel_rfl) (by kernel_rfl) (by kernel_rfl) (by kernel_rfl) (fun _ _ _ h => h) (by rfl) hS0 ?_ ?_
          rotate_left
          · (intro w' hSw; obtain ⟨p0, p1, p2⟩ := hSw; (try go_simp); (try with_reducible rfl))
          simp only [Act.put, List.setIfInBounds_toArray, List.getElem_toArray, List.getElem_cons_succ, List.getElem_cons_zero, List.set_cons_succ, List.set_cons_zero]
          refine Y_take (i := 7) (v := ?_) rfl (by kernel_rfl) (by kernel_rfl) (by kernel_rfl) (by kernel_rfl) (fun _ _ _ h => h) (by rfl) hS0 ?_ ?_
          rotate_left
          · (intro w' hSw; obtain ⟨p0, p1, p2⟩ := hSw; (try go_simp); (try with_reducible rfl))
          simp only [Act.put, List.setIfInBounds_toArray, List.getElem_toArray, List.getElem_cons_succ, List.getElem_cons_zero, List.set_cons_succ, List.set_cons_zero]
          refine Y_take (i := 8) (v := ?_) rfl (by kernel_rfl) (by kernel_rfl) (by kernel_rfl) (by kernel_rfl) (fun _ _ _ h => h) (by rfl) hS0 ?_ ?_
          rotate_left
          · (intro w' hSw; obtain ⟨p0, p1, p2⟩ := hSw; (try go_simp); (try with_reducible rfl))
          simp only [Act.put, List.setIfInBounds_toArray, List.getElem_toArray, List.getElem_cons_succ, List.getElem_cons_zero, List.set_cons_succ, List.set_cons_zero]
          refine Y_take (i := 9) (v := ?_) rfl (by kernel_rfl) (by kernel_rfl) (by kernel_rfl) (by kernel_rfl) (fun _ _ _ h => h) (by rfl) hS0 ?_ ?_
          rotate_left
          · (intro w' hSw; obtain ⟨p0, p1, p2⟩ := hSw; (try go_simp); (try with_reducible rfl))
          simp only [Act.put, List.setIfInBounds_toArray, List.getElem_toArray, List.getElem_cons_succ, List.getElem_cons_zero, List.set_cons_succ, List.set_cons_zero]
          refine Y_take (i := 10) (v := ?_) rfl (by kernel_rfl) (by kernel_rfl) (by kernel_rfl) (by kernel_rfl) (fun _ _ _ h => h) (by rfl) hS0 ?_ ?_
          rotate_left
          · (intro w' hSw; obtain ⟨p0, p1, p2⟩ := hSw; (try go_simp); (try with_reducible rfl))
          simp only [Act.put, List.setIfInBounds_toArray, List.getElem_toArray, List.getElem_cons_succ, List.getElem_cons_zero, List.set_cons_succ, List.set_cons_zero]
          refine Y_take (i := 11) (v := ?_) rfl (by kernel_rfl) (by kernel_rfl) (by kernel_rfl) (by kernel_rfl) (fun _ _ _ h => h) (by rfl) hS0 ?_ ?_
          rotate_left
          · (intro w' hSw; obtain ⟨p0, p1, p2⟩ := hSw; (try go_simp); (try with_reducible rfl))
          simp only [Act.put, List.setIfInBounds_toArray, List.getElem_toArray, List.getElem_cons_succ, List.getElem_cons_zero, List.set_cons_succ, List.set_cons_zero]
          refine Y_take (i := 12) (v := ?_) rfl (by kernel_rfl) (by kernel_rfl) (by kernel_rfl) (by kernel_rfl) (fun _ _ _ h => h) (by rfl) hS0 ?_ ?_
          rotate_left
          · (intro w' hSw; obtain ⟨p0, p1, p2⟩ := hSw; (try go_simp); (try with_reducible rfl))
          simp only [Act.put, List.setIfInBounds_toArray, List.getElem_toArray, List.getElem_cons_succ, List.getElem_cons_zero, List.set_cons_succ, List.set_cons_zero]
          refine Y_take (i := 13) (v := ?_) rfl (by kernel_rfl) (by kernel_rfl) (by kernel_rfl) (by kernel_rfl) (fun _ _ _ h => h) (by rfl) hS0 ?_ ?_
          rotate_left
          · (intro w' hSw; obtain ⟨p0, p1, p2⟩ := hSw; (try go_simp); (try with_reducible rfl))
          simp only [Act.put, List.setIfInBounds_toArray, List.getElem_toArray, List.getElem_cons_succ, List.getElem_cons_zero, List.set_cons_succ, List.set_cons_zero]
          refine Y_take (i := 14) (v := ?_) rfl (by kernel_rfl) (by kernel_rfl) (by kernel_rfl) (by kernel_rfl) (fun _ _ _ h => h) (by rfl) hS0 ?_ ?_
          rotate_left
          · (intro w' hSw; obtain ⟨p0, p1, p2⟩ := hSw; (try go_simp); (try with_reducible rfl))
          simp only [Act.put, List.setIfInBounds_toArray, List.getElem_toArray, List.getElem_cons_succ, List.getElem_cons_zero, List.set_cons_succ, List.set_cons_zero]
          refine Y_take (i := 15) (v := ?_) rfl (by kernel_rfl) (by kernel_rfl) (by kernel_rfl) (by kernel_rfl) (fun _ _ _ h => h) (by rfl) hS0 ?_ ?_
          rotate_left
          · (intro w' hSw; obtain ⟨p0, p1, p2⟩ := hSw; (try go_simp); (try with_reducible rfl))
          simp only [Act.put, List.setIfInBounds_toArray, List.getElem_toArray, List.getElem_cons_succ, List.getElem_cons_zero, List.set_cons_succ, List.set_cons_zero]
          refine Y_take (i := 16) (v := ?_) rfl (by kernel_rfl) (by kernel_rfl) (by kernel_rfl) (by kernel_rfl) (fun _ _ _ h => h) (by rfl) hS0 ?_ ?_
          rotate_left
          · (intro w' hSw; obtain ⟨p0, p1, p2⟩ := hSw; (try go_simp); (try with_reducible rfl))
          simp only [Act.put, List.setIfInBounds_toArray, List.getElem_toArray, List.getElem_cons_succ, List.getElem_cons_zero, List.set_cons_succ, List.set_cons_zero]
          refine Y_take (i := 17) (v := ?_) rfl (by kernel_rfl) (by kernel_rfl) (by kernel_rfl) (by kernel_rfl) (fun _ _ _ h => h) (by rfl) hS0 ?_ ?_
          rotate_left
          · (intro w' hSw; obtain ⟨p0, p1, p2⟩ := hSw; (try go_simp); (try with_reducible rfl))
          simp only [Act.put, List.setIfInBounds_toArray, List.getElem_toArray, List.getElem_cons_succ, List.getElem_cons_zero, List.set_cons_succ, List.set_cons_zero]
          refine Y_take (i := 18) (v := ?_) rfl (by kernel_rfl) (by kernel_rfl) (by kernel_rfl) (by kernel_rfl) (fun _ _ _ h => h) (by rfl) hS0 ?_ ?_
          rotate_left
          · (intro w' hSw; obtain ⟨p0, p1, p2⟩ := hSw; (try go_simp); (try with_reducible rfl))
          simp only [Act.put, List.setIfInBounds_toArray, List.getElem_toArray, List.getElem_cons_succ, List.getElem_cons_zero, List.set_cons_succ, List.set_cons_zero]
          refine Y_take (i := 19) (v := ?_) rfl (by kernel_rfl) (by kernel_rfl) (by kernel_rfl) (by kernel_rfl) (fun _ _ _ h => h) (by rfl) hS0 ?_ ?_
          rotate_left
          · (intro w' hSw; obtain ⟨p0, p1, p2⟩ := hSw; (try go_simp); (try with_reducible rfl))
          simp only [Act.put, List.setIfInBounds_toArray, List.getElem_toArray, List.getElem_cons_succ, List.getElem_cons_zero, List.set_cons_succ, List.set_cons_zero]
          refine Y_take (i := 20) (v := ?_) rfl (by kernel_rfl) (by kernel_rfl) (by kernel_rfl) (by kernel_rfl) (fun _ _ _ h => h) (by rfl) hS0 ?_ ?_
          rotate_left
          · (intro w' hSw; obtain ⟨p0, p1, p2⟩ := hSw; (try go_simp); (try with_reducible rfl))
          simp only [Act.put, List.setIfInBounds_toArray, List.getElem_toArray, List.getElem_cons_succ, List.getElem_cons_zero, List.set_cons_succ, List.set_cons_zero]
          refine Y_take (i := 21) (v := ?_) rfl (by kernel_rfl) (by kernel_rfl) (by kernel_rfl) (by kernel_rfl) (fun _ _ _ h => h) (by rfl) hS0 ?_ ?_
          rotate_left
          · (intro w' hSw; obtain ⟨p0, p1, p2⟩ := hSw; (try go_simp); (try with_reducible rfl))
          simp only [Act.put, List.setIfInBounds_toArray, List.getElem_toArray, List.getElem_cons_succ, List.getElem_cons_zero, List.set_cons_succ, List.set_cons_zero]
          refine Y_take (i := 22) (v := ?_) rfl (by kernel_rfl) (by kernel_rfl) (by kernel_rfl) (by kernel_rfl) (fun _ _ _ h => h) (by rfl) hS0 ?_ ?_
          rotate_left
          · (intro w' hSw; obtain ⟨p0, p1, p2⟩ := hSw; (try go_simp); (try with_reducible rfl))
          simp only [Act.put, List.setIfInBounds_toArray, List.getElem_toArray, List.getElem_cons_succ, List.getElem_cons_zero, List.set_cons_succ, List.set_cons_zero]
          refine Y_take (i := 23) (v := ?_) rfl (by kernel_rfl) (by kernel_rfl) (by kernel_rfl) (by kernel_rfl) (fun _ _ _ h => h) (by rfl) hS0 ?_ ?_
          rotate_left
          · (intro w' hSw; obtain ⟨p0, p1, p2⟩ := hSw; (try go_simp); (try with_reducible rfl))
          simp only [Act.put, List.setIfInBounds_toArray, List.getElem_toArray, List.getElem_cons_succ, List.getElem_cons_zero, List.set_cons_succ, List.set_cons_zero]
          refine Y_take (i := 24) (v := ?_) rfl (by kernel_rfl) (by kernel_rfl) (by kernel_rfl) (by kernel_rfl) (fun _ _ _ h => h) (by rfl) hS0 ?_ ?_
          rotate_left
          · (intro w' hSw; obtain ⟨p0, p1, p2⟩ := hSw; (try go_simp); (try with_reducible rfl))
          simp only [Act.put, List.setIfInBounds_toArray, List.getElem_toArray, List.getElem_cons_succ, List.getElem_cons_zero, List.set_cons_succ, List.set_cons_zero]
          refine Y_take (i := 25) (v := ?_) rfl (by kernel_rfl) (by kernel_rfl) (by kernel_rfl) (by kernel_rfl) (fun _ _ _ h => h) (by rfl) hS0 ?_ ?_
          rotate_left
          · (intro w' hSw; obtain ⟨p0, p1, p2⟩ := hSw; (try go_simp); (try with_reducible rfl))
          simp only [Act.put, List.setIfInBounds_toArray, List.getElem_toArray, List.getElem_cons_succ, List.getElem_cons_zero, List.set_cons_succ, List.set_cons_zero]
          refine Y_take (i := 26) (v := ?_) rfl (by kernel_rfl) (by kernel_rfl) (by kernel_rfl) (by kernel_rfl) (fun _ _ _ h => h) (by rfl) hS0 ?_ ?_
          rotate_left
          · (intro w' hSw; obtain ⟨p0, p1, p2⟩ := hSw; (try go_simp); (try with_reducible rfl))
          simp only [Act.put, List.setIfInBounds_toArray, List.getElem_toArray, List.getElem_cons_succ, List.getElem_cons_zero, List.set_cons_succ, List.set_cons_zero]
          refine Y_take (i := 27) (v := ?_) rfl (by kernel_rfl) (by kernel_rfl) (by kernel_rfl) (by kernel_rfl) (fun _ _ _ h => h) (by rfl) hS0 ?_ ?_
          rotate_left
          · (intro w' hSw; obtain ⟨p0, p1, p2⟩ := hSw; (try go_simp); (try with_reducible rfl))
          simp only [Act.put, List.setIfInBounds_toArray, List.getElem_toArray, List.getElem_cons_succ, List.getElem_cons_zero, List.set_cons_succ, List.set_cons_zero]
          refine Y_take (i := 28) (v := ?_) rfl (by kernel_rfl) (by kernel_rfl) (by kernel_rfl) (by kernel_rfl) (fun _ _ _ h => h) (by rfl) hS0 ?_ ?_
          rotate_left
          · (intro w' hSw; obtain ⟨p0, p1, p2⟩ := hSw; (try go_simp); (try with_reducible rfl))
          simp only [Act.put, List.setIfInBounds_toArray, List.getElem_toArray, List.getElem_cons_succ, List.getElem_cons_zero, List.set_cons_succ, List.set_cons_zero]
          refine Y_take (i := 29) (v := ?_) rfl (by kernel_rfl) (by kernel_rfl) (by kernel_rfl) (by kernel_rfl) (fun _ _ _ h => h) (by rfl) hS0 ?_ ?_
          rotate_left
          · (intro w' hSw; obtain ⟨p0, p1, p2⟩ := hSw; (try go_simp); (try with_reducible rfl))
          simp only [Act.put, List.setIfInBounds_toArray, List.getElem_toArray, List.getElem_cons_succ, List.getElem_cons_zero, List.set_cons_succ, List.set_cons_zero]
          refine Z_done (by kernel_rfl) ?_ _
          all_goals
            go_upto_region 7 with fail
            go_wp2_with fail
            go_loopg [9] i (fun gk j wr => ∃ m : Nat, m + gk = i ∧ j = .int .i64 m ∧ (∀ j, j < m → P j = false) ∧ Below (D + 1) WA wr)
            case atStart => exact ⟨0, by omega, rfl, fun j hj => by omega, by first | exact HB4.out | exact below_drew HB4.out⟩
            case round =>
              obtain ⟨m, hm, rfl, hP, hB⟩ := hrel
              have hBN := HA.out.2.1.trans (hB.mono HND.out)
              by_cases hm1 : m < i
              · obtain ⟨b, hb⟩ : ∃ b, pts[m]? = some b := ⟨_, List.getElem?_eq_getElem (by have := HL.out; omega)⟩
                have hPm := HBd.out m b hb
                obtain ⟨g2, e2, hg2, -, y⟩ := (HU.out _ hBN).at hb
                cases hg2
                obtain ⟨tm2, cl2, no2, T2, E2⟩ := b
                have HPm : Hid (P m = (decide (cl2 = pcl) && decide (no2 = pno))) := hPm
                have z1 : wr.cell? ⟨h, o + m * 5 + 1, none⟩ = some (.int .i64 cl2) := y 1 _ rfl
                have z2 : wr.cell? ⟨h, o + m * 5 + 2, none⟩ = some (.int .i64 no2) := y 2 _ rfl
                have rD := (hB.block D (by omega)).trans HA.out.1
                have r1 := cellB rD 1 _ rfl
                have r2 := cellB rD 2 _ rfl
                have d2 : (0 : Int) ≤ (m : Int) := by omega
                have d3 : (m : Int) < (i : Int) := by omega
                have d4 : (m : Int) < (pts.length : Int) := by have := HL.out; omega
                have d5 : i ≤ 100000 := by have := HL.out; omega
                have HBX : Hid (Below N w wr) := hBN
                have HBB : Hid (Below (D + 1) WA wr) := hB
                have HP : Hid (∀ j, j < m → P j = false) := hP
                clear hPm y hB hBN hb rD hP
                by_cases e0 : cl2 = pcl ∧ no2 = pno
                · have b0 : (cl2 == pcl) = true := by simpa using e0.1
                  have b1 : (no2 == pno) = true := by simpa using e0.2
                  have HR : Hid (R = false) := by
                    have hm9 : m < i := by omega
                    show _ = _
                    rw [HR0.out, fstB_at hm9 (by rw [HPm.out, decide_eq_true e0.1, decide_eq_true e0.2]; rfl) HP.out]
                    have : decide ((m : Int) = -1) = false := decide_eq_false (by omega)
                    rw [this, Bool.and_false]
                  clear e0
                  go_upto_region 10 with fail
                  refine region_Z 99 (fun W => W.cell? ⟨h, o + m * 5 + 1, none⟩ = some (.int .i64 cl2) ∧ W.cell? ⟨h, o + m * 5 + 2, none⟩ = some (.int .i64 no2) ∧ W.cell? ⟨D, 1, none⟩ = some (.int .i64 pcl) ∧ W.cell? ⟨D, 2, none⟩ = some (.int .i64 pno)) (by kernel_rfl) ?_
                  have hS0 : wr.drew.cell? ⟨h, o + m * 5 + 1, none⟩ = some (.int .i64 cl2) ∧ wr.drew.cell? ⟨h, o + m * 5 + 2, none⟩ = some (.int .i64 no2) ∧ wr.drew.cell? ⟨D, 1, none⟩ = some (.int .i64 pcl) ∧ wr.drew.cell? ⟨D, 2, none⟩ = some (.int .i64 pno) := ⟨z1, z2, r1, r2⟩
                  refine Y_take (i := 0) (v := ?_) rfl (by kernel_rfl) (by kernel_rfl) (by kernel_rfl) (by kernel_rfl) (fun _ _ _ h => h) (by rfl) hS0 ?_ ?_
                  rotate_left
                  · (intro w' hSw; obtain ⟨p0, p1, p2, p3⟩ := hSw; (try go_simp); (try with_reducible rfl))
                  simp only [Act.put, List.setIfInBounds_toArray, List.getElem_toArray, List.getElem_cons_zero, List.set_cons_succ, List.set_cons_zero]
                  refine Y_take (i := 1) (v := ?_) rfl (by kernel_rfl) (by kernel_rfl) (by kernel_rfl) (by kernel_rfl) (fun _ _ _ h => h) (by rfl) hS0 ?_ ?_
                  rotate_left
                  · (intro w' hSw; obtain ⟨p0, p1, p2, p3⟩ := hSw; (try go_simp); (try with_reducible rfl))
                  simp only [Act.put, List.setIfInBounds_toArray, List.getElem_toArray, List.getElem_cons_succ, List.getElem_cons_zero, List.set_cons_succ, List.set_cons_zero]
                  refine Y_take (i := 2) (v := ?_) rfl (by kernel_rfl) (by kernel_rfl) (by kernel_rfl) (by kernel_rfl) (fun _ _ _ h => h) (by rfl) hS0 ?_ ?_
                  rotate_left
                  · (intro w' hSw; obtain ⟨p0, p1, p2, p3⟩ := hSw; (try go_simp); (try with_reducible rfl))
                  simp only [Act.put, List.setIfInBounds_toArray, List.getElem_toArray, List.getElem_cons_succ, List.getElem_cons_zero, List.set_cons_succ, List.set_cons_zero]
                  refine Y_take (i := 3) (v := ?_) rfl (by kernel_rfl) (by kernel_rfl) (by kernel_rfl) (by kernel_rfl) (fun _ _ _ h => h) (by rfl) hS0 ?_ ?_
                  rotate_left
                  · (intro w' hSw; obtain ⟨p0, p1, p2, p3⟩ := hSw; (try go_simp); (try with_reducible rfl))
                  simp only [Act.put, List.setIfInBounds_toArray, List.getElem_toArray, List.getElem_cons_succ, List.getElem_cons_zero, List.set_cons_succ, List.set_cons_zero]
                  refine Y_take (i := 4) (v := ?_) rfl (by kernel_rfl) (by kernel_rfl) (by kernel_rfl) (by kernel_rfl) (fun _ _ _ h => h) (by rfl) hS0 ?_ ?_
                  rotate_left
                  · (intro w' hSw; obtain ⟨p0, p1, p2, p3⟩ := hSw; (try go_simp); (try with_reducible rfl))
                  simp only [Act.put, List.setIfInBounds_toArray, List.getElem_toArray, List.getElem_cons_succ, List.getElem_cons_zero, List.set_cons_succ, List.set_cons_zero]
                  refine Y_take (i := 5) (v := ?_) rfl (by kernel_rfl) (by kernel_rfl) (by kernel_rfl) (by kernel_rfl) (fun _ _ _ h => h) (by rfl) hS0 ?_ ?_
                  rotate_left
                  · (intro w' hSw; obtain ⟨p0, p1, p2, p3⟩ := hSw; (try go_simp); (try with_reducible rfl))
                  simp only [Act.put, List.setIfInBounds_toArray, List.getElem_toArray, List.getElem_cons_succ, List.getElem_cons_zero, List.set_cons_succ, List.set_cons_zero]
                  refine Y_take (i := 6) (v := ?_) rfl (by kernel_rfl) (by kernel_rfl) (by kernel_rfl) (by kernel_rfl) (fun _ _ _ h => h) (by rfl) hS0 ?_ ?_
                  rotate_left
                  · (intro w' hSw; obtain ⟨p0, p1, p2, p3⟩ := hSw; (try go_simp); (try with_reducible rfl))
                  simp only [Act.put, List.setIfInBounds_toArray, List.getElem_toArray, List.getElem_cons_succ, List.getElem_cons_zero, List.set_cons_succ, List.set_cons_zero]
                  refine Y_take (i := 7) (v := ?_) rfl (by kernel_rfl) (by kernel_rfl) (by kernel_rfl) (by kernel_rfl) (fun _ _ _ h => h) (by rfl) hS0 ?_ ?_
                  rotate_left
                  · (intro w' hSw; obtain ⟨p0, p1, p2, p3⟩ := hSw; (try go_simp); (try with_reducible rfl))
                  simp only [Act.put, List.setIfInBounds_toArray, List.getElem_toArray, List.getElem_cons_succ, List.getElem_cons_zero, List.set_cons_succ, List.set_cons_zero]
                  refine Y_take (i := 8) (v := ?_) rfl (by kernel_rfl) (by kernel_rfl) (by kernel_rfl) (by kernel_rfl) (fun _ _ _ h => h) (by rfl) hS0 ?_ ?_
                  rotate_left
                  · (intro w' hSw; obtain ⟨p0, p1, p2, p3⟩ := hSw; (try go_simp); (try with_reducible rfl))
                  simp only [Act.put, List.setIfInBounds_toArray, List.getElem_toArray, List.getElem_cons_succ, List.getElem_cons_zero, List.set_cons_succ, List.set_cons_zero]
                  refine Y_take (i := 9) (v := ?_) rfl (by kernel_rfl) (by kernel_rfl) (by kernel_rfl) (by kernel_rfl) (fun _ _ _ h => h) (by rfl) hS0 ?_ ?_
                  rotate_left
                  · (intro w' hSw; obtain ⟨p0, p1, p2, p3⟩ := hSw; (try go_simp); (try with_reducible rfl))
                  simp only [Act.put, List.setIfInBounds_toArray, List.getElem_toArray, List.getElem_cons_succ, List.getElem_cons_zero, List.set_cons_succ, List.set_cons_zero]
                  refine Y_take (i := 10) (v := ?_) rfl (by kernel_rfl) (by kernel_rfl) (by kernel_rfl) (by kernel_rfl) (fun _ _ _ h => h) (by rfl) hS0 ?_ ?_
                  rotate_left
                  · (intro w' hSw; obtain ⟨p0, p1, p2, p3⟩ := hSw; (try go_simp); (try with_reducible rfl))
                  simp only [Act.put, List.setIfInBounds_toArray, List.getElem_toArray, List.getElem_cons_succ, List.getElem_cons_zero, List.set_cons_succ, List.set_cons_zero]
                  refine Y_take (i := 11) (v := ?_) rfl (by kernel_rfl) (by kernel_rfl) (by kernel_rfl) (by kernel_rfl) (fun _ _ _ h => h) (by rfl) hS0 ?_ ?_
                  rotate_left
                  · (intro w' hSw; obtain ⟨p0, p1, p2, p3⟩ := hSw; (try go_simp); (try with_reducible rfl))
                  simp only [Act.put, List.setIfInBounds_toArray, List.getElem_toArray, List.getElem_cons_succ, List.getElem_cons_zero, List.set_cons_succ, List.set_cons_zero]
                  refine Y_take (i := 12) (v := ?_) rfl (by kernel_rfl) (by kernel_rfl) (by kernel_rfl) (by kernel_rfl) (fun _ _ _ h => h) (by rfl) hS0 ?_ ?_
                  rotate_left
                  · (intro w' hSw; obtain ⟨p0, p1, p2, p3⟩ := hSw; (try go_simp); (try with_reducible rfl))
                  simp only [Act.put, List.setIfInBounds_toArray, List.getElem_toArray, List.getElem_cons_succ, List.getElem_cons_zero, List.set_cons_succ, List.set_cons_zero]
                  refine Y_take (i := 13) (v := ?_) rfl (by kernel_rfl) (by kernel_rfl) (by kernel_rfl) (by kernel_rfl) (fun _ _ _ h => h) (by rfl) hS0 ?_ ?_
                  rotate_left
                  · (intro w' hSw; obtain ⟨p0, p1, p2, p3⟩ := hSw; (try go_simp); (try with_reducible rfl))
                  simp only [Act.put, List.setIfInBounds_toArray, List.getElem_toArray, List.getElem_cons_succ, List.getElem_cons_zero, List.set_cons_succ, List.set_cons_zero]
                  refine Y_take (i := 14) (v := ?_) rfl (by kernel_rfl) (by kernel_rfl) (by kernel_rfl) (by kernel_rfl) (fun _ _ _ h => h) (by rfl) hS0 ?_ ?_
                  rotate_left
                  · (intro w' hSw; obtain ⟨p0, p1, p2, p3⟩ := hSw; (try go_simp); (try with_reducible rfl))
                  simp only [Act.put, List.setIfInBounds_toArray, List.getElem_toArray, List.getElem_cons_succ, List.getElem_cons_zero, List.set_cons_succ, List.set_cons_zero]
                  refine Y_take (i := 15) (v := ?_) rfl (by kernel_rfl) (by kernel_rfl) (by kernel_rfl) (by kernel_rfl) (fun _ _ _ h => h) (by rfl) hS0 ?_ ?_
                  rotate_left
                  · (intro w' hSw; obtain ⟨p0, p1, p2, p3⟩ := hSw; (try go_simp); (try with_reducible rfl))
                  simp only [Act.put, List.setIfInBounds_toArray, List.getElem_toArray, List.getElem_cons_succ, List.getElem_cons_zero, List.set_cons_succ, List.set_cons_zero]
                  refine Y_take (i := 16) (v := ?_) rfl (by kernel_rfl) (by kernel_rfl) (by kernel_rfl) (by kernel_rfl) (fun _ _ _ h => h) (by rfl) hS0 ?_ ?_
                  rotate_left
                  · (intro w' hSw; obtain ⟨p0, p1, p2, p3⟩ := hSw; (try go_simp); (try with_reducible rfl))
                  simp only [Act.put, List.setIfInBounds_toArray, List.getElem_toArray, List.getElem_cons_succ, List.getElem_cons_zero, List.set_cons_succ, List.set_cons_zero]
                  refine Y_take (i := 17) (v := ?_) rfl (by kernel_rfl) (by kernel_rfl) (by kernel_rfl) (by kernel_rfl) (fun _ _ _ h => h) (by rfl) hS0 ?_ ?_
                  rotate_left
                  · (intro w' hSw; obtain ⟨p0, p1, p2, p3⟩ := hSw; (try go_simp); (try with_reducible rfl))
                  simp only [Act.put, List.setIfInBounds_toArray, List.getElem_toArray, List.getElem_cons_succ, List.getElem_cons_zero, List.set_cons_succ, List.set_cons_zero]
                  refine Z_done (by kernel_rfl) ?_ _
                  all_goals
                    go_wp2
                  all_goals first
                    | (go_ret; exact ⟨by rw [HR.out]; first | rfl | simp, by rw [HN.out]; first | exact HBX.out | exact below_drew HBX.out⟩)
                    | (exfalso; omega)
                · have HG : Hid (∀ j, j < m + 1 → P j = false) := fun j hj => by
                    by_cases ej : j = m
                    · subst ej; rw [HPm.out, ← Bool.decide_and]; exact decide_eq_false e0
                    · exact HP.out j (by omega)
                  by_cases e1 : cl2 = pcl
                  · have b0 : (cl2 == pcl) = true := by simpa using e1
                    have b1 : (no2 == pno) = false := by simpa using fun h => e0 ⟨e1, h⟩
                    clear e0 e1
                    go_upto_region 10 with fail
                    refine region_Z 99 (fun W => W.cell? ⟨h, o + m * 5 + 1, none⟩ = some (.int .i64 cl2) ∧ W.cell? ⟨h, o + m * 5 + 2, none⟩ = some (.int .i64 no2) ∧ W.cell? ⟨D, 1, none⟩ = some (.int .i64 pcl) ∧ W.cell? ⟨D, 2, none⟩ = some (.int .i64 pno)) (by kernel_rfl) ?_
                    have hS0 : wr.drew.cell? ⟨h, o + m * 5 + 1, none⟩ = some (.int .i64 cl2) ∧ wr.drew.cell? ⟨h, o + m * 5 + 2, none⟩ = some (.int .i64 no2) ∧ wr.drew.cell? ⟨D, 1, none⟩ = some (.int .i64 pcl) ∧ wr.drew.cell? ⟨D, 2, none⟩ = some (.int .i64 pno) := ⟨z1, z2, r1, r2⟩
                    refine Y_take (i := 0) (v := ?_) rfl (by kernel_rfl) (by kernel_rfl) (by kernel_rfl) (by kernel_rfl) (fun _ _ _ h => h) (by rfl) hS0 ?_ ?_
                    rotate_left
                    · (intro w' hSw; obtain ⟨p0, p1, p2, p3⟩ := hSw; (try go_simp); (try with_reducible rfl))
                    simp only [Act.put, List.setIfInBounds_toArray, List.getElem_toArray, List.getElem_cons_zero, List.set_cons_succ, List.set_cons_zero]
                    refine Y_take (i := 1) (v := ?_) rfl (by kernel_rfl) (by kernel_rfl) (by kernel_rfl) (by kernel_rfl) (fun _ _ _ h => h) (by rfl) hS0 ?_ ?_
                    rotate_left
                    · (intro w' hSw; obtain ⟨p0, p1, p2, p3⟩ := hSw; (try go_simp); (try with_reducible rfl))
                    simp only [Act.put, List.setIfInBounds_toArray, List.getElem_toArray, List.getElem_cons_succ, List.getElem_cons_zero, List.set_cons_succ, List.set_cons_zero]
                    refine Y_take (i := 2) (v := ?_) rfl (by kernel_rfl) (by kernel_rfl) (by kernel_rfl) (by kernel_rfl) (fun _ _ _ h => h) (by rfl) hS0 ?_ ?_
                    rotate_left
                    · (intro w' hSw; obtain ⟨p0, p1, p2, p3⟩ := hSw; (try go_simp); (try with_reducible rfl))
                    simp only [Act.put, List.setIfInBounds_toArray, List.getElem_toArray, List.getElem_cons_succ, List.getElem_cons_zero, List.set_cons_succ, List.set_cons_zero]
                    refine Y_take (i := 3) (v := ?_) rfl (by kernel_rfl) (by kernel_rfl) (by kernel_rfl) (by kernel_rfl) (fun _ _ _ h => h) (by rfl) hS0 ?_ ?_
                    rotate_left
                    · (intro w' hSw; obtain ⟨p0, p1, p2, p3⟩ := hSw; (try go_simp); (try with_reducible rfl))
                    simp only [Act.put, List.setIfInBounds_toArray, List.getElem_toArray, List.getElem_cons_succ, List.getElem_cons_zero, List.set_cons_succ, List.set_cons_zero]
                    refine Y_take (i := 4) (v := ?_) rfl (by kernel_rfl) (by kernel_rfl) (by kernel_rfl) (by kernel_rfl) (fun _ _ _ h => h) (by rfl) hS0 ?_ ?_
                    rotate_left
                    · (intro w' hSw; obtain ⟨p0, p1, p2, p3⟩ := hSw; (try go_simp); (try with_reducible rfl))
                    simp only [Act.put, List.setIfInBounds_toArray, List.getElem_toArray, List.getElem_cons_succ, List.getElem_cons_zero, List.set_cons_succ, List.set_cons_zero]
                    refine Y_take (i := 5) (v := ?_) rfl (by kernel_rfl) (by kernel_rfl) (by kernel_rfl) (by kernel_rfl) (fun _ _ _ h => h) (by rfl) hS0 ?_ ?_
                    rotate_left
                    · (intro w' hSw; obtain ⟨p0, p1, p2, p3⟩ := hSw; (try go_simp); (try with_reducible rfl))
                    simp only [Act.put, List.setIfInBounds_toArray, List.getElem_toArray, List.getElem_cons_succ, List.getElem_cons_zero, List.set_cons_succ, List.set_cons_zero]
                    refine Y_take (i := 6) (v := ?_) rfl (by kernel_rfl) (by kernel_rfl) (by kernel_rfl) (by kernel_rfl) (fun _ _ _ h => h) (by rfl) hS0 ?_ ?_
                    rotate_left
                    · (intro w' hSw; obtain ⟨p0, p1, p2, p3⟩ := hSw; (try go_simp); (try with_reducible rfl))
                    simp only [Act.put, List.setIfInBounds_toArray, List.getElem_toArray, List.getElem_cons_succ, List.getElem_cons_zero, List.set_cons_succ, List.set_cons_zero]
                    refine Y_take (i := 7) (v := ?_) rfl (by kernel_rfl) (by kernel_rfl) (by kernel_rfl) (by kernel_rfl) (fun _ _ _ h => h) (by rfl) hS0 ?_ ?_
                    rotate_left
                    · (intro w' hSw; obtain ⟨p0, p1, p2, p3⟩ := hSw; (try go_simp); (try with_reducible rfl))
                    simp only [Act.put, List.setIfInBounds_toArray, List.getElem_toArray, List.getElem_cons_succ, List.getElem_cons_zero, List.set_cons_succ, List.set_cons_zero]
                    refine Y_take (i := 8) (v := ?_) rfl (by kernel_rfl) (by kernel_rfl) (by kernel_rfl) (by kernel_rfl) (fun _ _ _ h => h) (by rfl) hS0 ?_ ?_
                    rotate_left
                    · (intro w' hSw; obtain ⟨p0, p1, p2, p3⟩ := hSw; (try go_simp); (try with_reducible rfl))
                    simp only [Act.put, List.setIfInBounds_toArray, List.getElem_toArray, List.getElem_cons_succ, List.getElem_cons_zero, List.set_cons_succ, List.set_cons_zero]
                    refine Y_take (i := 9) (v := ?_) rfl (by kernel_rfl) (by kernel_rfl) (by kernel_rfl) (by kernel_rfl) (fun _ _ _ h => h) (by rfl) hS0 ?_ ?_
                    rotate_left
                    · (intro w' hSw; obtain ⟨p0, p1, p2, p3⟩ := hSw; (try go_simp); (try with_reducible rfl))
                    simp only [Act.put, List.setIfInBounds_toArray, List.getElem_toArray, List.getElem_cons_succ, List.getElem_cons_zero, List.set_cons_succ, List.set_cons_zero]
                    refine Y_take (i := 10) (v := ?_) rfl (by kernel_rfl) (by kernel_rfl) (by kernel_rfl) (by kernel_rfl) (fun _ _ _ h => h) (by rfl) hS0 ?_ ?_
                    rotate_left
                    · (intro w' hSw; obtain ⟨p0, p1, p2, p3⟩ := hSw; (try go_simp); (try with_reducible rfl))
                    simp only [Act.put, List.setIfInBounds_toArray, List.getElem_toArray, List.getElem_cons_succ, List.getElem_cons_zero, List.set_cons_succ, List.set_cons_zero]
                    refine Y_take (i := 11) (v := ?_) rfl (by kernel_rfl) (by kernel_rfl) (by kernel_rfl) (by kernel_rfl) (fun _ _ _ h => h) (by rfl) hS0 ?_ ?_
                    rotate_left
                    · (intro w' hSw; obtain ⟨p0, p1, p2, p3⟩ := hSw; (try go_simp); (try with_reducible rfl))
                    simp only [Act.put, List.setIfInBounds_toArray, List.getElem_toArray, List.getElem_cons_succ, List.getElem_cons_zero, List.set_cons_succ, List.set_cons_zero]
                    refine Y_take (i := 12) (v := ?_) rfl (by kernel_rfl) (by kernel_rfl) (by kernel_rfl) (by kernel_rfl) (fun _ _ _ h => h) (by rfl) hS0 ?_ ?_
                    rotate_left
                    · (intro w' hSw; obtain ⟨p0, p1, p2, p3⟩ := hSw; (try go_simp); (try with_reducible rfl))
                    simp only [Act.put, List.setIfInBounds_toArray, List.getElem_toArray, List.getElem_cons_succ, List.getElem_cons_zero, List.set_cons_succ, List.set_cons_zero]
                    refine Y_take (i := 13) (v := ?_) rfl (by kernel_rfl) (by kernel_rfl) (by kernel_rfl) (by kernel_rfl) (fun _ _ _ h => h) (by rfl) hS0 ?_ ?_
                    rotate_left
                    · (intro w' hSw; obtain ⟨p0, p1, p2, p3⟩ := hSw; (try go_simp); (try with_reducible rfl))
                    simp only [Act.put, List.setIfInBounds_toArray, List.getElem_toArray, List.getElem_cons_succ, List.getElem_cons_zero, List.set_cons_succ, List.set_cons_zero]
                    refine Y_take (i := 14) (v := ?_) rfl (by kernel_rfl) (by kernel_rfl) (by kernel_rfl) (by kernel_rfl) (fun _ _ _ h => h) (by rfl) hS0 ?_ ?_
                    rotate_left
                    · (intro w' hSw; obtain ⟨p0, p1, p2, p3⟩ := hSw; (try go_simp); (try with_reducible rfl))
                    simp only [Act.put, List.setIfInBounds_toArray, List.getElem_toArray, List.getElem_cons_succ, List.getElem_cons_zero, List.set_cons_succ, List.set_cons_zero]
                    refine Y_take (i := 15) (v := ?_) rfl (by kernel_rfl) (by kernel_rfl) (by kernel_rfl) (by kernel_rfl) (fun _ _ _ h => h) (by rfl) hS0 ?_ ?_
                    rotate_left
                    · (intro w' hSw; obtain ⟨p0, p1, p2, p3⟩ := hSw; (try go_simp); (try with_reducible rfl))
                    simp only [Act.put, List.setIfInBounds_toArray, List.getElem_toArray, List.getElem_cons_succ, List.getElem_cons_zero, List.set_cons_succ, List.set_cons_zero]
                    refine Y_take (i := 16) (v := ?_) rfl (by kernel_rfl) (by kernel_rfl) (by kernel_rfl) (by kernel_rfl) (fun _ _ _ h => h) (by rfl) hS0 ?_ ?_
                    rotate_left
                    · (intro w' hSw; obtain ⟨p0, p1, p2, p3⟩ := hSw; (try go_simp); (try with_reducible rfl))
                    simp only [Act.put, List.setIfInBounds_toArray, List.getElem_toArray, List.getElem_cons_succ, List.getElem_cons_zero, List.set_cons_succ, List.set_cons_zero]
                    refine Y_take (i := 17) (v := ?_) rfl (by kernel_rfl) (by kernel_rfl) (by kernel_rfl) (by kernel_rfl) (fun _ _ _ h => h) (by rfl) hS0 ?_ ?_
                    rotate_left
                    · (intro w' hSw; obtain ⟨p0, p1, p2, p3⟩ := hSw; (try go_simp); (try with_reducible rfl))
                    simp only [Act.put, List.setIfInBounds_toArray, List.getElem_toArray, List.getElem_cons_succ, List.getElem_cons_zero, List.set_cons_succ, List.set_cons_zero]
                    refine Z_done (by kernel_rfl) ?_ _
                    all_goals
                      go_wp2
                      go_roundg (i - (m + 1))
                      case measure => omega
                      case rel => exact ⟨m + 1, by omega, by go_num, HG.out, by first | exact HBB.out | exact below_drew HBB.out⟩
                  · have b0 : (cl2 == pcl) = false := by simpa using e1
                    clear e0 e1
                    go_upto_region 10 with fail
                    refine region_Z 99 (fun W => W.cell? ⟨h, o + m * 5 + 1, none⟩ = some (.int .i64 cl2) ∧ W.cell? ⟨h, o + m * 5 + 2, none⟩ = some (.int .i64 no2) ∧ W.cell? ⟨D, 1, none⟩ = some (.int .i64 pcl) ∧ W.cell? ⟨D, 2, none⟩ = some (.int .i64 pno)) (by kernel_rfl) ?_
                    have hS0 : wr.drew.cell? ⟨h, o + m * 5 + 1, none⟩ = some (.int .i64 cl2) ∧ wr.drew.cell? ⟨h, o + m * 5 + 2, none⟩ = some (.int .i64 no2) ∧ wr.drew.cell? ⟨D, 1, none⟩ = some (.int .i64 pcl) ∧ wr.drew.cell? ⟨D, 2, none⟩ = some (.int .i64 pno) := ⟨z1, z2, r1, r2⟩
                    refine Y_take (i := 0) (v := ?_) rfl (by kernel_rfl) (by kernel_rfl) (by kernel_rfl) (by kernel_rfl) (fun _ _ _ h => h) (by rfl) hS0 ?_ ?_
                    rotate_left
                    · (intro w' hSw; obtain ⟨p0, p1, p2, p3⟩ := hSw; (try go_simp); (try with_reducible rfl))
                    simp only [Act.put, List.setIfInBounds_toArray, List.getElem_toArray, List.getElem_cons_zero, List.set_cons_succ, List.set_cons_zero]
                    refine Y_take (i := 1) (v := ?_) rfl (by kernel_rfl) (by kernel_rfl) (by kernel_rfl) (by kernel_rfl) (fun _ _ _ h => h) (by rfl) hS0 ?_ ?_
                    rotate_left
                    · (intro w' hSw; obtain ⟨p0, p1, p2, p3⟩ := hSw; (try go_simp); (try with_reducible rfl))
                    simp only [Act.put, List.setIfInBounds_toArray, List.getElem_toArray, List.getElem_cons_succ, List.getElem_cons_zero, List.set_cons_succ, List.set_cons_zero]
                    refine Y_take (i := 2) (v := ?_) rfl (by kernel_rfl) (by kernel_rfl) (by kernel_rfl) (by kernel_rfl) (fun _ _ _ h => h) (by rfl) hS0 ?_ ?_
                    rotate_left
                    · (intro w' hSw; obtain ⟨p0, p1, p2, p3⟩ := hSw; (try go_simp); (try with_reducible rfl))
                    simp only [Act.put, List.setIfInBounds_toArray, List.getElem_toArray, List.getElem_cons_succ, List.getElem_cons_zero, List.set_cons_succ, List.set_cons_zero]
                    refine Y_take (i := 3) (v := ?_) rfl (by kernel_rfl) (by kernel_rfl) (by kernel_rfl) (by kernel_rfl) (fun _ _ _ h => h) (by rfl) hS0 ?_ ?_
                    rotate_left
                    · (intro w' hSw; obtain ⟨p0, p1, p2, p3⟩ := hSw; (try go_simp); (try with_reducible rfl))
                    simp only [Act.put, List.setIfInBounds_toArray, List.getElem_toArray, List.getElem_cons_succ, List.getElem_cons_zero, List.set_cons_succ, List.set_cons_zero]
                    refine Y_take (i := 4) (v := ?_) rfl (by kernel_rfl) (by kernel_rfl) (by kernel_rfl) (by kernel_rfl) (fun _ _ _ h => h) (by rfl) hS0 ?_ ?_
                    rotate_left
                    · (intro w' hSw; obtain ⟨p0, p1, p2, p3⟩ := hSw; (try go_simp); (try with_reducible rfl))
                    simp only [Act.put, List.setIfInBounds_toArray, List.getElem_toArray, List.getElem_cons_succ, List.getElem_cons_zero, List.set_cons_succ, List.set_cons_zero]
                    refine Y_take (i := 5) (v := ?_) rfl (by kernel_rfl) (by kernel_rfl) (by kernel_rfl) (by kernel_rfl) (fun _ _ _ h => h) (by rfl) hS0 ?_ ?_
                    rotate_left
                    · (intro w' hSw; obtain ⟨p0, p1, p2, p3⟩ := hSw; (try go_simp); (try with_reducible rfl))
                    simp only [Act.put, List.setIfInBounds_toArray, List.getElem_toArray, List.getElem_cons_succ, List.getElem_cons_zero, List.set_cons_succ, List.set_cons_zero]
                    refine Y_take (i := 6) (v := ?_) rfl (by kernel_rfl) (by kernel_rfl) (by kernel_rfl) (by kernel_rfl) (fun _ _ _ h => h) (by rfl) hS0 ?_ ?_
                    rotate_left
                    · (intro w' hSw; obtain ⟨p0, p1, p2, p3⟩ := hSw; (try go_simp); (try with_reducible rfl))
                    simp only [Act.put, List.setIfInBounds_toArray, List.getElem_toArray, List.getElem_cons_succ, List.getElem_cons_zero, List.set_cons_succ, List.set_cons_zero]
                    refine Y_take (i := 7) (v := ?_) rfl (by kernel_rfl) (by kernel_rfl) (by kernel_rfl) (by kernel_rfl) (fun _ _ _ h => h) (by rfl) hS0 ?_ ?_
                    rotate_left
                    · (intro w' hSw; obtain ⟨p0, p1, p2, p3⟩ := hSw; (try go_simp); (try with_reducible rfl))
                    simp only [Act.put, List.setIfInBounds_toArray, List.getElem_toArray, List.getElem_cons_succ, List.getElem_cons_zero, List.set_cons_succ, List.set_cons_zero]
                    refine Y_take (i := 8) (v := ?_) rfl (by kernel_rfl) (by kernel_rfl) (by kernel_rfl) (by kernel_rfl) (fun _ _ _ h => h) (by rfl) hS0 ?_ ?_
                    rotate_left
                    · (intro w' hSw; obtain ⟨p0, p1, p2, p3⟩ := hSw; (try go_simp); (try with_reducible rfl))
                    simp only [Act.put, List.setIfInBounds_toArray, List.getElem_toArray, List.getElem_cons_succ, List.getElem_cons_zero, List.set_cons_succ, List.set_cons_zero]
                    refine Y_skip (i := 9) rfl (by kernel_rfl) (by kernel_rfl) (by kernel_rfl) (by kernel_rfl) (fun _ _ _ h => h) (by rfl) hS0 ?_
                    simp only [Act.put, List.setIfInBounds_toArray, List.getElem_toArray, List.getElem_cons_succ, List.getElem_cons_zero, List.set_cons_succ, List.set_cons_zero]
                    refine Y_skip (i := 10) rfl (by kernel_rfl) (by kernel_rfl) (by kernel_rfl) (by kernel_rfl) (fun _ _ _ h => h) (by rfl) hS0 ?_
                    simp only [Act.put, List.setIfInBounds_toArray, List.getElem_toArray, List.getElem_cons_succ, List.getElem_cons_zero, List.set_cons_succ, List.set_cons_zero]
                    refine Y_skip (i := 11) rfl (by kernel_rfl) (by kernel_rfl) (by kernel_rfl) (by kernel_rfl) (fun _ _ _ h => h) (by rfl) hS0 ?_
                    simp only [Act.put, List.setIfInBounds_toArray, List.getElem_toArray, List.getElem_cons_succ, List.getElem_cons_zero, List.set_cons_succ, List.set_cons_zero]
                    refine Y_skip (i := 12) rfl (by kernel_rfl) (by kernel_rfl) (by kernel_rfl) (by kernel_rfl) (fun _ _ _ h => h) (by rfl) hS0 ?_
                    simp only [Act.put, List.setIfInBounds_toArray, List.getElem_toArray, List.getElem_cons_succ, List.getElem_cons_zero, List.set_cons_succ, List.set_cons_zero]
                    refine Y_skip (i := 13) rfl (by kernel_rfl) (by kernel_rfl) (by kernel_rfl) (by kernel_rfl) (fun _ _ _ h => h) (by rfl) hS0 ?_
                    simp only [Act.put, List.setIfInBounds_toArray, List.getElem_toArray, List.getElem_cons_succ, List.getElem_cons_zero, List.set_cons_succ, List.set_cons_zero]
                    refine Y_skip (i := 14) rfl (by kernel_rfl) (by kernel_rfl) (by kernel_rfl) (by kernel_rfl) (fun _ _ _ h => h) (by rfl) hS0 ?_
                    simp only [Act.put, List.setIfInBounds_toArray, List.getElem_toArray, List.getElem_cons_succ, List.getElem_cons_zero, List.set_cons_succ, List.set_cons_zero]
                    refine Y_skip (i := 15) rfl (by kernel_rfl) (by kernel_rfl) (by kernel_rfl) (by kernel_rfl) (fun _ _ _ h => h) (by rfl) hS0 ?_
                    simp only [Act.put, List.setIfInBounds_toArray, List.getElem_toArray, List.getElem_cons_succ, List.getElem_cons_zero, List.set_cons_succ, List.set_cons_zero]
                    refine Y_skip (i := 16) rfl (by kernel_rfl) (by kernel_rfl) (by kernel_rfl) (by kernel_rfl) (fun _ _ _ h => h) (by rfl) hS0 ?_
                    simp only [Act.put, List.setIfInBounds_toArray, List.getElem_toArray, List.getElem_cons_succ, List.getElem_cons_zero, List.set_cons_succ, List.set_cons_zero]
                    refine Y_take (i := 17) (v := ?_) rfl (by kernel_rfl) (by kernel_rfl) (by kernel_rfl) (by kernel_rfl) (fun _ _ _ h => h) (by rfl) hS0 ?_ ?_
                    rotate_left
                    · (intro w' hSw; obtain ⟨p0, p1, p2, p3⟩ := hSw; (try go_simp); (try with_reducible rfl))
                    simp only [Act.put, List.setIfInBounds_toArray, List.getElem_toArray, List.getElem_cons_succ, List.getElem_cons_zero, List.set_cons_succ, List.set_cons_zero]
                    refine Z_done (by kernel_rfl) ?_ _
                    all_goals
                      go_wp2
                      go_roundg (i - (m + 1))
                      case measure => omega
                      case rel => exact ⟨m + 1, by omega, by go_num, HG.out, by first | exact HBB.out | exact below_drew HBB.out⟩
              obtain rfl : m = i := by omega
              have HR : Hid (R = true) := by
                show _ = _
                rw [HR0.out, fstB_none hP, HOKT.out]
                rfl
              have HBN : Hid (Below N w wr) := hBN
              clear hP hB hBN
              go_wp2
              go_ret
              exact ⟨by rw [HR.out]; first | rfl | simp, by rw [HN.out]; exact HBN.out⟩
        · have HR : Hid (R = false) := by
            have : OK = false := by rw [HOKc2.out, decide_eq_false f2, decide_eq_false f3, Bool.or_false, Bool.and_false]
            show _ = _
            rw [HR0.out, this]; rfl
          have f3' : tt < tm := by omega
          refine region_Z 99 (fun W => W.cell? ⟨D, 0, none⟩ = some (.int .i64 tm) ∧ W.cell? ⟨gc, ec + kn * 10 + 6, none⟩ = some (.int .i64 fr) ∧ W.cell? ⟨gc, ec + kn * 10 + 7, none⟩ = some (.int .i64 tt)) (by kernel_rfl) ?_
          have hS0 : w4.drew.cell? ⟨D, 0, none⟩ = some (.int .i64 tm) ∧ w4.drew.cell? ⟨gc, ec + kn * 10 + 6, none⟩ = some (.int .i64 fr) ∧ w4.drew.cell? ⟨gc, ec + kn * 10 + 7, none⟩ = some (.int .i64 tt) := ⟨x0, c6, c7⟩
          refine Y_take (i := 0) (v := ?_) rfl (by kernel_rfl) (by kernel_rfl) (by kernel_rfl) (by kernel_rfl) (fun _ _ _ h => h) (by rfl) hS0 ?_ ?_
          rotate_left
          · (intro w' hSw; obtain ⟨p0, p1, p2⟩ := hSw; (try go_simp); (try with_reducible rfl))
          simp only [Act.put, List.setIfInBounds_toArray, List.getElem_toArray, List.getElem_cons_zero, List.set_cons_succ, List.set_cons_zero]
          refine Y_take (i := 1) (v := ?_) rfl (by kernel_rfl) (by kernel_rfl) (by kernel_rfl) (by kernel_rfl) (fun _ _ _ h => h) (by rfl) hS0 ?_ ?_
          rotate_left
          · (intro w' hSw; obtain ⟨p0, p1, p2⟩ := hSw; (try go_simp); (try with_reducible rfl))
          simp only [Act.put, List.setIfInBounds_toArray, List.getElem_toArray, List.getElem_cons_succ, List.getElem_cons_zero, List.set_cons_succ, List.set_cons_zero]
          refine Y_take (i := 2) (v := ?_) rfl (by kernel_rfl) (by kernel_rfl) (by kernel_rfl) (by kernel_rfl) (fun _ _ _ h => h) (by rfl) hS0 ?_ ?_
          rotate_left
          · (intro w' hSw; obtain ⟨p0, p1, p2⟩ := hSw; (try go_simp); (try with_reducible rfl))
          simp only [Act.put, List.setIfInBounds_toArray, List.getElem_toArray, List.getElem_cons_succ, List.getElem_cons_zero, List.set_cons_succ, List.set_cons_zero]
          refine Y_take (i := 3) (v := ?_) rfl (by kernel_rfl) (by kernel_rfl) (by kernel_rfl) (by kernel_rfl) (fun _ _ _ h => h) (by rfl) hS0 ?_ ?_
          rotate_left
          · (intro w' hSw; obtain ⟨p0, p1, p2⟩ := hSw; (try go_simp); (try with_reducible rfl))
          simp only [Act.put, List.setIfInBounds_toArray, List.getElem_toArray, List.getElem_cons_succ, List.getElem_cons_zero, List.set_cons_succ, List.set_cons_zero]
          refine Y_take (i := 4) (v := ?_) rfl (by kernel_rfl) (by kernel_rfl) (by kernel_rfl) (by kernel_rfl) (fun _ _ _ h => h) (by rfl) hS0 ?_ ?_
          rotate_left
          · (intro w' hSw; obtain ⟨p0, p1, p2⟩ := hSw; (try go_simp); (try with_reducible rfl))
          simp only [Act.put, List.setIfInBounds_toArray, List.getElem_toArray, List.getElem_cons_succ, List.getElem_cons_zero, List.set_cons_succ, List.set_cons_zero]
          refine Y_take (i := 5) (v := ?_) rfl (by kernel_rfl) (by kernel_rfl) (by kernel_rfl) (by kernel_rfl) (fun _ _ _ h => h) (by rfl) hS0 ?_ ?_
          rotate_left
          · (intro w' hSw; obtain ⟨p0, p1, p2⟩ := hSw; (try go_simp); (try with_reducible rfl))
          simp only [Act.put, List.setIfInBounds_toArray, List.getElem_toArray, List.getElem_cons_succ, List.getElem_cons_zero, List.set_cons_succ, List.set_cons_zero]
          refine Y_take (i := 6) (v := ?_) rfl (by kernel_rfl) (by kernel_rfl) (by kernel_rfl) (by kernel_rfl) (fun _ _ _ h => h) (by rfl) hS0 ?_ ?_
          rotate_left
          · (intro w' hSw; obtain ⟨p0, p1, p2⟩ := hSw; (try go_simp); (try with_reducible rfl))
          simp only [Act.put, List.setIfInBounds_toArray, List.getElem_toArray, List.getElem_cons_succ, List.getElem_cons_zero, List.set_cons_succ, List.set_cons_zero]
          refine Y_take (i := 7) (v := ?_) rfl (by kernel_rfl) (by kernel_rfl) (by kernel_rfl) (by kernel_rfl) (fun _ _ _ h => h) (by rfl) hS0 ?_ ?_
          rotate_left
          · (intro w' hSw; obtain ⟨p0, p1, p2⟩ := hSw; (try go_simp); (try with_reducible rfl))
          simp only [Act.put, List.setIfInBounds_toArray, List.getElem_toArray, List.getElem_cons_succ, List.getElem_cons_zero, List.set_cons_succ, List.set_cons_zero]
          refine Y_take (i := 8) (v := ?_) rfl (by kernel_rfl) (by kernel_rfl) (by kernel_rfl) (by kernel_rfl) (fun _ _ _ h => h) (by rfl) hS0 ?_ ?_
          rotate_left
          · (intro w' hSw; obtain ⟨p0, p1, p2⟩ := hSw; (try go_simp); (try with_reducible rfl))
          simp only [Act.put, List.setIfInBounds_toArray, List.getElem_toArray, List.getElem_cons_succ, List.getElem_cons_zero, List.set_cons_succ, List.set_cons_zero]
          refine Y_take (i := 9) (v := ?_) rfl (by kernel_rfl) (by kernel_rfl) (by kernel_rfl) (by kernel_rfl) (fun _ _ _ h => h) (by rfl) hS0 ?_ ?_
          rotate_left
          · (intro w' hSw; obtain ⟨p0, p1, p2⟩ := hSw; (try go_simp); (try with_reducible rfl))
          simp only [Act.put, List.setIfInBounds_toArray, List.getElem_toArray, List.getElem_cons_succ, List.getElem_cons_zero, List.set_cons_succ, List.set_cons_zero]
          refine Y_take (i := 10) (v := ?_) rfl (by kernel_rfl) (by kernel_rfl) (by kernel_rfl) (by kernel_rfl) (fun _ _ _ h => h) (by rfl) hS0 ?_ ?_
          rotate_left
          · (intro w' hSw; obtain ⟨p0, p1, p2⟩ := hSw; (try go_simp); (try with_reducible rfl))
          simp only [Act.put, List.setIfInBounds_toArray, List.getElem_toArray, List.getElem_cons_succ, List.getElem_cons_zero, List.set_cons_succ, List.set_cons_zero]
          refine Y_take (i := 11) (v := ?_) rfl (by kernel_rfl) (by kernel_rfl) (by kernel_rfl) (by kernel_rfl) (fun _ _ _ h => h) (by rfl) hS0 ?_ ?_
          rotate_left
          · (intro w' hSw; obtain ⟨p0, p1, p2⟩ := hSw; (try go_simp); (try with_reducible rfl))
          simp only [Act.put, List.setIfInBounds_toArray, List.getElem_toArray, List.getElem_cons_succ, List.getElem_cons_zero, List.set_cons_succ, List.set_cons_zero]
          refine Y_take (i := 12) (v := ?_) rfl (by kernel_rfl) (by kernel_rfl) (by kernel_rfl) (by kernel_rfl) (fun _ _ _ h => h) (by rfl) hS0 ?_ ?_
          rotate_left
          · (intro w' hSw; obtain ⟨p0, p1, p2⟩ := hSw; (try go_simp); (try with_reducible rfl))
          simp only [Act.put, List.setIfInBounds_toArray, List.getElem_toArray, List.getElem_cons_succ, List.getElem_cons_zero, List.set_cons_succ, List.set_cons_zero]
          refine Y_take (i := 13) (v := ?_) rfl (by kernel_rfl) (by kernel_rfl) (by kernel_rfl) (by kernel_rfl) (fun _ _ _ h => h) (by rfl) hS0 ?_ ?_
          rotate_left
          · (intro w' hSw; obtain ⟨p0, p1, p2⟩ := hSw; (try go_simp); (try with_reducible rfl))
          simp only [Act.put, List.setIfInBounds_toArray, List.getElem_toArray, List.getElem_cons_succ, List.getElem_cons_zero, List.set_cons_succ, List.set_cons_zero]
          refine Y_take (i := 14) (v := ?_) rfl (by kernel_rfl) (by kernel_rfl) (by kernel_rfl) (by kernel_rfl) (fun _ _ _ h => h) (by rfl) hS0 ?_ ?_
          rotate_left
          · (intro w' hSw; obtain ⟨p0, p1, p2⟩ := hSw; (try go_simp); (try with_reducible rfl))
          simp only [Act.put, List.setIfInBounds_toArray, List.getElem_toArray, List.getElem_cons_succ, List.getElem_cons_zero, List.set_cons_succ, List.set_cons_zero]
          refine Y_take (i := 15) (v := ?_) rfl (by kernel_rfl) (by kernel_rfl) (by kernel_rfl) (by kernel_rfl) (fun _ _ _ h => h) (by rfl) hS0 ?_ ?_
          rotate_left
          · (intro w' hSw; obtain ⟨p0, p1, p2⟩ := hSw; (try go_simp); (try with_reducible rfl))
          simp only [Act.put, List.setIfInBounds_toArray, List.getElem_toArray, List.getElem_cons_succ, List.getElem_cons_zero, List.set_cons_succ, List.set_cons_zero]
          refine Y_take (i := 16) (v := ?_) rfl (by kernel_rfl) (by kernel_rfl) (by kernel_rfl) (by kernel_rfl) (fun _ _ _ h => h) (by rfl) hS0 ?_ ?_
          rotate_left
          · (intro w' hSw; obtain ⟨p0, p1, p2⟩ := hSw; (try go_simp); (try with_reducible rfl))
          simp only [Act.put, List.setIfInBounds_toArray, List.getElem_toArray, List.getElem_cons_succ, List.getElem_cons_zero, List.set_cons_succ, List.set_cons_zero]
          refine Y_take (i := 17) (v := ?_) rfl (by kernel_rfl) (by kernel_rfl) (by kernel_rfl) (by kernel_rfl) (fun _ _ _ h => h) (by rfl) hS0 ?_ ?_
          rotate_left
          · (intro w' hSw; obtain ⟨p0, p1, p2⟩ := hSw; (try go_simp); (try with_reducible rfl))
          simp only [Act.put, List.setIfInBounds_toArray, List.getElem_toArray, List.getElem_cons_succ, List.getElem_cons_zero, List.set_cons_succ, List.set_cons_zero]
          refine Y_take (i := 18) (v := ?_) rfl (by kernel_rfl) (by kernel_rfl) (by kernel_rfl) (by kernel_rfl) (fun _ _ _ h => h) (by rfl) hS0 ?_ ?_
          rotate_left
          · (intro w' hSw; obtain ⟨p0, p1, p2⟩ := hSw; (try go_simp); (try with_reducible rfl))
          simp only [Act.put, List.setIfInBounds_toArray, List.getElem_toArray, List.getElem_cons_succ, List.getElem_cons_zero, List.set_cons_succ, List.set_cons_zero]
          refine Y_take (i := 19) (v := ?_) rfl (by kernel_rfl) (by kernel_rfl) (by kernel_rfl) (by kernel_rfl) (fun _ _ _ h => h) (by rfl) hS0 ?_ ?_
          rotate_left
          · (intro w' hSw; obtain ⟨p0, p1, p2⟩ := hSw; (try go_simp); (try with_reducible rfl))
          simp only [Act.put, List.setIfInBounds_toArray, List.getElem_toArray, List.getElem_cons_succ, List.getElem_cons_zero, List.set_cons_succ, List.set_cons_zero]
          refine Y_take (i := 20) (v := ?_) rfl (by kernel_rfl) (by kernel_rfl) (by kernel_rfl) (by kernel_rfl) (fun _ _ _ h => h) (by rfl) hS0 ?_ ?_
          rotate_left
          · (intro w' hSw; obtain ⟨p0, p1, p2⟩ := hSw; (try go_simp); (try with_reducible rfl))
          simp only [Act.put, List.setIfInBounds_toArray, List.getElem_toArray, List.getElem_cons_succ, List.getElem_cons_zero, List.set_cons_succ, List.set_cons_zero]
          refine Y_take (i := 21) (v := ?_) rfl (by kernel_rfl) (by kernel_rfl) (by kernel_rfl) (by kernel_rfl) (fun _ _ _ h => h) (by rfl) hS0 ?_ ?_
          rotate_left
          · (intro w' hSw; obtain ⟨p0, p1, p2⟩ := hSw; (try go_simp); (try with_reducible rfl))
          simp only [Act.put, List.setIfInBounds_toArray, List.getElem_toArray, List.getElem_cons_succ, List.getElem_cons_zero, List.set_cons_succ, List.set_cons_zero]
          refine Y_take (i := 22) (v := ?_) rfl (by kernel_rfl) (by kernel_rfl) (by kernel_rfl) (by kernel_rfl) (fun _ _ _ h => h) (by rfl) hS0 ?_ ?_
          rotate_left
          · (intro w' hSw; obtain ⟨p0, p1, p2⟩ := hSw; (try go_simp); (try with_reducible rfl))
          simp only [Act.put, List.setIfInBounds_toArray, List.getElem_toArray, List.getElem_cons_succ, List.getElem_cons_zero, List.set_cons_succ, List.set_cons_zero]
          refine Y_take (i := 23) (v := ?_) rfl (by kernel_rfl) (by kernel_rfl) (by kernel_rfl) (by kernel_rfl) (fun _ _ _ h => h) (by rfl) hS0 ?_ ?_
          rotate_left
          · (intro w' hSw; obtain ⟨p0, p1, p2⟩ := hSw; (try go_simp); (try with_reducible rfl))
          simp only [Act.put, List.setIfInBounds_toArray, List.getElem_toArray, List.getElem_cons_succ, List.getElem_cons_zero, List.set_cons_succ, List.set_cons_zero]
          refine Y_take (i := 24) (v := ?_) rfl (by kernel_rfl) (by kernel_rfl) (by kernel_rfl) (by kernel_rfl) (fun _ _ _ h => h) (by rfl) hS0 ?_ ?_
          rotate_left
          · (intro w' hSw; obtain ⟨p0, p1, p2⟩ := hSw; (try go_simp); (try with_reducible rfl))
          simp only [Act.put, List.setIfInBounds_toArray, List.getElem_toArray, List.getElem_cons_succ, List.getElem_cons_zero, List.set_cons_succ, List.set_cons_zero]
          refine Y_take (i := 25) (v := ?_) rfl (by kernel_rfl) (by kernel_rfl) (by kernel_rfl) (by kernel_rfl) (fun _ _ _ h => h) (by rfl) hS0 ?_ ?_
          rotate_left
          · (intro w' hSw; obtain ⟨p0, p1, p2⟩ := hSw; (try go_simp); (try with_reducible rfl))
          simp only [Act.put, List.setIfInBounds_toArray, List.getElem_toArray, List.getElem_cons_succ, List.getElem_cons_zero, List.set_cons_succ, List.set_cons_zero]
          refine Y_take (i := 26) (v := ?_) rfl (by kernel_rfl) (by kernel_rfl) (by kernel_rfl) (by kernel_rfl) (fun _ _ _ h => h) (by rfl) hS0 ?_ ?_
          rotate_left
          · (intro w' hSw; obtain ⟨p0, p1, p2⟩ := hSw; (try go_simp); (try with_reducible rfl))
          simp only [Act.put, List.setIfInBounds_toArray, List.getElem_toArray, List.getElem_cons_succ, List.getElem_cons_zero, List.set_cons_succ, List.set_cons_zero]
          refine Y_take (i := 27) (v := ?_) rfl (by kernel_rfl) (by kernel_rfl) (by kernel_rfl) (by kernel_rfl) (fun _ _ _ h => h) (by rfl) hS0 ?_ ?_
          rotate_left
          · (intro w' hSw; obtain ⟨p0, p1, p2⟩ := hSw; (try go_simp); (try with_reducible rfl))
          simp only [Act.put, List.setIfInBounds_toArray, List.getElem_toArray, List.getElem_cons_succ, List.getElem_cons_zero, List.set_cons_succ, List.set_cons_zero]
          refine Y_take (i := 28) (v := ?_) rfl (by kernel_rfl) (by kernel_rfl) (by kernel_rfl) (by kernel_rfl) (fun _ _ _ h => h) (by rfl) hS0 ?_ ?_
          rotate_left
          · (intro w' hSw; obtain ⟨p0, p1, p2⟩ := hSw; (try go_simp); (try with_reducible rfl))
          simp only [Act.put, List.setIfInBounds_toArray, List.getElem_toArray, List.getElem_cons_succ, List.getElem_cons_zero, List.set_cons_succ, List.set_cons_zero]
          refine Y_take (i := 29) (v := ?_) rfl (by kernel_rfl) (by kernel_rfl) (by kernel_rfl) (by kernel_rfl) (fun _ _ _ h => h) (by rfl) hS0 ?_ ?_
          rotate_left
          · (intro w' hSw; obtain ⟨p0, p1, p2⟩ := hSw; (try go_simp); (try with_reducible rfl))
          simp only [Act.put, List.setIfInBounds_toArray, List.getElem_toArray, List.getElem_cons_succ, List.getElem_cons_zero, List.set_cons_succ, List.set_cons_zero]
          refine Z_done (by kernel_rfl) ?_ _
          all_goals
            go_wp2
          all_goals first
            | (go_ret; exact ⟨by rw [HR.out]; first | rfl | simp, by rw [HN.out]; first | exact HBX.out | exact below_drew HBX.out⟩)
            | (exfalso; omega)
end
section
section
open Go.RowKit Go.Maps
section
variable {calls : List Cl} {pts : List Pt}
theorem lt_uniq1 (h : ∀ i, i < calls.length → P1 calls i = false) {i j : Nat} {x y : Cl} (hx : calls[i]? = some x) (hy : calls[j]? = some y) (hk : ck x = ck y) (hij : i < j) : False := by
  have hj := (List.getElem?_eq_some_iff.1 hy).1
  obtain ⟨_, g⟩ := chain1 j (by omega) (fun m hm => h m (by omega)) i x hij hx
  have hb := (good_at hy (h j hj)).2
  have e1 : x.cl = y.cl := congrArg Prod.fst hk
  have e2 : x.no = y.no := congrArg Prod.snd hk
  rw [← e1] at hb
  have b1 := (beh_iff.1 hb).1
  rcases g with g | g
  · rw [← g] at b1; omega
  · have := g.1; omega
theorem uniq1 (h : ∀ i, i < calls.length → P1 calls i = false) {i j : Nat} {x y : Cl} (hx : calls[i]? = some x) (hy : calls[j]? = some y) (hk : ck x = ck y) : i = j := by
  rcases Nat.lt_trichotomy i j with e | e | e
  · exact (lt_uniq1 h hx hy hk e).elim
  · exact e
  · exact (lt_uniq1 h hy hx hk.symm e).elim
theorem fn_of (h : ∀ i, i < calls.length → P1 calls i = false) (p : Pt) : (∃ (j : Nat) (c : Cl), calls[j]? = some c ∧ callOf calls p = some c ∧ fnI calls p = j ∧ callF calls p = c) ∨ (callOf calls p = none ∧ fnI calls p = -1) := by
  cases e : lastI (calls.map ck) p.cl p.no calls.length with
  | some j =>
    left
    obtain ⟨c, hc, hj, hco⟩ := callOf_lt e
    obtain ⟨_, hk⟩ := lastI_some e
    have hf : fnI calls p = j := fstB_at hj (decide_eq_true hk) fun m hm => decide_eq_false fun hm2 => by
      obtain ⟨y, hy⟩ : ∃ y, calls[m]? = some y := ⟨_, List.getElem?_eq_getElem (by omega)⟩
      rw [List.getElem?_map, hy] at hm2
      rw [List.getElem?_map, hc] at hk
      have := uniq1 h hy hc ((Option.some.inj hm2).trans (Option.some.inj hk).symm)
      omega
    refine ⟨j, c, hc, hco, hf, ?_⟩
    rw [callF, hf]
    show (calls[j]?).getD clZ = c
    rw [hc]; rfl
  | none =>
    right
    refine ⟨by rw [callOf, e]; rfl, fstB_none fun m hm => decide_eq_false fun h2 => lastI_none e m hm h2⟩
theorem last_first (p : Pt) (i : Nat) : (lastI (pts.map pk2) p.cl p.no i).isSome = !decide (fstB (sameB pts p) i = -1) := by
  cases e : lastI (pts.map pk2) p.cl p.no i with
  | some j =>
    obtain ⟨hj, hk⟩ := lastI_some e
    rw [decide_eq_false fun h => ?_]
    · rfl
    · have := fstB_inv h j hj
      exact of_decide_eq_false this hk
  | none =>
    rw [show fstB (sameB pts p) i = -1 from fstB_none fun m hm => decide_eq_false fun h2 => lastI_none e m hm h2]
    rfl
theorem prev_nn : ∀ i, i ≤ pts.length → (∀ j, j < i → P2 calls pts j = false) → 0 ≤ prevT pts i
  | 0, _, _ => Int.le_refl _
  | i + 1, hi, h => by
    obtain ⟨p, hp⟩ : ∃ p, pts[i]? = some p := ⟨_, List.getElem?_eq_getElem (by omega)⟩
    have h0 := prev_nn i (by omega) fun j hj => h j (by omega)
    have h2 := h i (by omega)
    rw [P2_at hp] at h2
    simp only [Bool.or_eq_false_iff, decide_eq_false_iff_not] at h2
    rw [prevT_succ hp]
    have := h2.1.1.1
    omega
/-- Where rule 1 is kept and no point ahead breaks rule 2, the document's and the program's answers are the same. -/
theorem rTwo_P2 (h1 : ∀ i, i < calls.length → P1 calls i = false) (i : Nat) (hi : i < pts.length) (hP : ∀ j, j < i → P2 calls pts j = false) : (!rTwo calls pts i) = P2 calls pts i := by
  obtain ⟨p, hp⟩ : ∃ p, pts[i]? = some p := ⟨_, List.getElem?_eq_getElem hi⟩
  have h0 := prev_nn i (by omega) hP
  rw [rTwo_at hp, P2_at hp, last_first, okT]
  obtain ⟨X, hX⟩ : ∃ X, decide (fstB (sameB pts p) i = -1) = X := ⟨_, rfl⟩
  rw [hX]
  by_cases ht : prevT pts i ≤ p.tm
  · rw [decide_eq_true ht, decide_eq_true (show 0 ≤ p.tm by omega), decide_eq_false (show ¬ p.tm < prevT pts i by omega)]
    rcases fn_of h1 p with ⟨j, c, _, hco, hf, hF⟩ | ⟨hco, hf⟩
    · rw [hco, hf, hF, decide_eq_true (show (0 : Int) ≤ (j : Int) by omega)]
      show (!(true && true && true && hasM c p.tm && X)) = (false || !true || !hasM c p.tm || !X)
      cases hasM c p.tm <;> cases X <;> rfl
    · rw [hco, hf]
      simp
  · rw [decide_eq_false ht, decide_eq_true (show p.tm < prevT pts i by omega)]
    simp
theorem rTwo_first (h1 : ∀ i, i < calls.length → P1 calls i = false) : fstB (fun i => !rTwo calls pts i) pts.length = Rl calls pts 1 := fstB_same fun i hi h => rTwo_P2 h1 i hi h
end
end
section
open Go.RowKit Go.Maps
attribute [local go_sem ↓] Go.wp_at_zero Go.wp_at_succ

theorem alike_fin : ∀ {L S : Ms} (_ : Alike L S) (l : List Opr), Alike (rfin L l) (fin S l)
  | _, _, h, [] => h
  | _, _, h, o :: l => alike_fin (alike_step h o).2 l
theorem beq_dec (a b : Int) : (a == b) = decide (a = b) := by
  by_cases e : a = b
  · subst e; simp
  · rw [decide_eq_false e]; simpa using e
theorem last_any (ks : List (Int × Int)) (c m : Int) (n : Nat) : (lastI ks c m n).isSome = (List.range n).any fun j => decide (ks[j]? = some (c, m)) := by
  induction n with
  | zero => rfl
  | succ n ih =>
    rw [lastI_succ, List.range_succ, List.any_append]
    by_cases e : ks[n]? = some (c, m)
    · rw [if_pos e]; simp [e]
    · rw [if_neg e, ih]; simp [e]
set_option maxRecDepth 20000 in
set_option maxHeartbeats 4000000 in
theorem rCheck24_any (calls : List Cl) (pts : List Pt) (vc vp : Value) (w : World) (hc : SlF ccs 10 w vc calls) (hp : SlF pks 5 w vp pts) (lc : calls.length ≤ 150) (lp : pts.length ≤ 150) : Calls Tryd.prog 20 #[vc, vp] w fun e W' => e = .returned (.tuple #[.agg #[.int .i64 (chkG calls pts).1, .int .i64 (chkG calls pts).2], .int .i64 0]) ∧ Below w.heap.size w W' := by
  obtain ⟨va, vcap, rfl⟩ := hc.slice
  obtain ⟨pa, pcap, rfl⟩ := hp.slice
  have d1 : ¬ (2000 : Int) < (calls.length : Int) := by omega
  have d2 : ¬ (2000 : Int) < (pts.length : Int) := by omega
  obtain ⟨N, hN⟩ : ∃ N, w.heap.size = N := ⟨_, rfl⟩
  have HV : Hid (∀ W, Below N w W → SlF ccs 10 W (.slice va calls.length vcap) calls) := fun W hW => hc.on hW (by omega)
  have HU : Hid (∀ W, Below N w W → SlF pks 5 W (.slice pa pts.length pcap) pts) := fun W hW => hp.on hW (by omega)
  have HR1 : Hid (∀ i W, i < calls.length → Below N w W → Calls Tryd.prog 31 #[.slice va calls.length vcap, .int .i64 i] W fun e W' => e = .returned (.bool (rOne calls i)) ∧ Below W.heap.size W W') := fun i W hi hW => rone_any calls i _ W (hc.on hW (by omega)) hi (by omega)
  have HR2 : Hid (∀ i W, i < pts.length → Below N w W → Calls Tryd.prog 32 #[.slice va calls.length vcap, .slice pa pts.length pcap, .int .i64 i] W fun e W' => e = .returned (.bool (rTwo calls pts i)) ∧ Below W.heap.size W W') := fun i W hi hW => rtwo_any calls pts i _ _ W (hc.on hW (by omega)) (hp.on hW (by omega)) hi (by omega) (by omega)
  have HL : Hid (calls.length ≤ 150 ∧ pts.length ≤ 150) := And.intro lc lp
  obtain ⟨G, hG⟩ : ∃ x, chkG calls pts = x := ⟨_, rfl⟩
  rw [hG]
  have HG : Hid (chkG calls pts = G) := hG
  obtain ⟨W2, hW2⟩ : ∃ W, w.alloc (.cells #[.int .i64 0, .int .i64 0] 60) = W := ⟨_, rfl⟩
  have hb1 : Below N w W2 := by rw [← hW2, ← hN]; exact (Below.refl _ w).alloc (Nat.le_refl _) _
  have z0 := heap_alloc_new w (.cells #[.int .i64 0, .int .i64 0] 60)
  rw [hW2, hN] at z0
  have HW : Hid (w.alloc (.cells #[.int .i64 0, .int .i64 0] 60) = W2) := hW2
  have HN : Hid (w.heap.size = N) := hN
  have HZ : Hid (W2.heap[N]? = some (.cells #[.int .i64 0, .int .i64 0] 60) ∧ Below N w W2 ∧ N + 1 ≤ W2.heap.size) := ⟨z0, hb1, by rw [← hW2, ← hN, World.size_alloc]; omega⟩
  clear hc hp lc lp hG hb1 z0 hW2 hN
  obtain ⟨G1, G2⟩ := G
  go_enter Tryd.func20, Tryd.ntmps20
  go_upto_region 1 with fail
  rw [HW.out]
  try rw [HN.out]
  clear HW
  go_upto_region 3 with fail
  go_wp2_with fail
  go_loopg [29] calls.length (fun gk j wr => ∃ n : Nat, n + gk = calls.length ∧ j = .int .i64 n ∧ (∀ m, m < n → (!rOne calls m) = false) ∧ Below (N + 1) W2 wr)
  case atStart => exact ⟨0, by omega, rfl, fun m hm => by omega, Below.refl _ _⟩
  case round =>
    obtain ⟨n, hnn, rfl, hP, hB⟩ := hrel
    have hBN := HZ.out.2.1.trans (hB.mono (by omega))
    by_cases hn1 : n < calls.length
    · have hcal := HR1.out n wr hn1 hBN
      obtain ⟨Y, hY⟩ : ∃ Y, rOne calls n = Y := ⟨_, rfl⟩
      rw [hY] at hcal
      have HB : Hid (Below (N + 1) W2 wr) := hB
      have HC : Hid (Calls Tryd.prog 31 #[.slice va calls.length vcap, .int .i64 n] wr fun e W' => e = .returned (.bool Y) ∧ Below (N + 1) W2 W') := hcal.mono fun e W' hh => ⟨hh.1, hB.trans (hh.2.mono (by have := hB.size; have := HZ.out.2.2; omega))⟩
      have HP : Hid (∀ m, m < n → (!rOne calls m) = false) := hP
      have HY : Hid (rOne calls n = Y) := hY
      have d3 : n ≤ 150 := by have := HL.out.1; omega
      clear hcal hY hB hBN hP
      cases Y with
      | true =>
        go_wp2_with (go_at_call 31; refine HC.out.mono ?_; rintro e w4 ⟨rfl, hb4⟩)
        go_roundg (calls.length - (n + 1))
        case measure => omega
        case rel => exact ⟨n + 1, by omega, by go_num, fun m hm => by
            by_cases e : m = n
            · subst e; rw [HY.out]; rfl
            · exact HP.out m (by omega), hb4⟩
      | false =>
        have HGG : Hid (((1, (n : Int)) : Int × Int) = (G1, G2)) := by
          have h1 : Rl calls [] 0 = n := by rw [← rOne_first]; exact fstB_at hn1 (by rw [HY.out]; rfl) HP.out
          have h2 : Rl calls pts 0 = n := h1
          show _ = _
          rw [← HG.out, chkG_at (k := 0) (by decide) (fun r hr => by omega) (by rw [h2]; omega), h2]
          rfl
        go_upto_region 7 with (go_at_call 31; refine HC.out.mono ?_; rintro e w4 ⟨rfl, hb4⟩)
        have rN := (hb4.block N (by omega)).trans HZ.out.1
        have q0 := cellB rN 0 _ rfl
        have q1 := cellB rN 1 _ rfl
        have f0 := frozenB rN 0
        have f1 := frozenB rN 1
        have hg1 := congrArg Prod.fst HGG.out
        have hg2 := congrArg Prod.snd HGG.out
        have hsw := set2h rN (.int .i64 G1) (.int .i64 G2)
        have HF : Hid (Below N w ((w4.setCell ⟨N, 0, none⟩ (.int .i64 G1)).setCell ⟨N, 1, none⟩ (.int .i64 G2))) := ((HZ.out.2.1.trans (hb4.mono (by omega))).setCell (p := ⟨N, 0, none⟩) (Nat.le_refl _) _).setCell (p := ⟨N, 1, none⟩) (Nat.le_refl _) _
        have r0 := cellB hsw 0 _ rfl
        have r1 := cellB hsw 1 _ rfl
        simp only at hg1 hg2
        subst hg1
        subst hg2
        clear rN hsw hb4 HGG
        go_wp2
        exact bodyPost_ret (v := .tuple #[.agg #[.int .i64 _, .int .i64 _], .int .i64 0]) (by simp [results, Tryd.f20, go_sem, r0, r1]) rfl ⟨rfl, by rw [HN.out]; exact HF.out⟩
    obtain rfl : n = calls.length := by omega
    have h1 : ∀ i, i < calls.length → P1 calls i = false := by
      have e := rOne_first (calls := calls)
      rw [fstB_none hP] at e
      exact fstB_inv e.symm
    have HP1 : Hid (∀ i, i < calls.length → P1 calls i = false) := h1
    have HB : Hid (Below (N + 1) W2 wr) := hB
    clear h1 hP hB hBN hn1 HR1
    go_upto_region 9 with fail
    go_wp2_with fail
    go_loopg [41] pts.length (fun gk j wr => ∃ n : Nat, n + gk = pts.length ∧ j = .int .i64 n ∧ (∀ m, m < n → (!rTwo calls pts m) = false) ∧ Below (N + 1) W2 wr)
    case atStart => exact ⟨0, by omega, rfl, fun m hm => by omega, HB.out⟩
    case round =>
      obtain ⟨n, hnn, rfl, hP, hB⟩ := hrel
      have hBN := HZ.out.2.1.trans (hB.mono (by omega))
      by_cases hn1 : n < pts.length
      · have hcal := HR2.out n wr hn1 hBN
        obtain ⟨Y, hY⟩ : ∃ Y, rTwo calls pts n = Y := ⟨_, rfl⟩
        rw [hY] at hcal
        have HC : Hid (Calls Tryd.prog 32 #[.slice va calls.length vcap, .slice pa pts.length pcap, .int .i64 n] wr fun e W' => e = .returned (.bool Y) ∧ Below (N + 1) W2 W') := hcal.mono fun e W' hh => ⟨hh.1, hB.trans (hh.2.mono (by have := hB.size; have := HZ.out.2.2; omega))⟩
        have HP : Hid (∀ m, m < n → (!rTwo calls pts m) = false) := hP
        have HY : Hid (rTwo calls pts n = Y) := hY
        have d3 : n ≤ 150 := by have := HL.out.2; omega
        clear hcal hY hB hBN hP
        cases Y with
        | true =>
          go_wp2_with (go_at_call 32; refine HC.out.mono ?_; rintro e w4 ⟨rfl, hb4⟩)
          go_roundg (pts.length - (n + 1))
          case measure => omega
          case rel => exact ⟨n + 1, by omega, by go_num, fun m hm => by
              by_cases e : m = n
              · subst e; rw [HY.out]; rfl
              · exact HP.out m (by omega), hb4⟩
        | false =>
          have HGG : Hid (((2, (n : Int)) : Int × Int) = (G1, G2)) := by
            have h0 : Rl calls pts 0 = -1 := fstB_none HP1.out
            have h2 : Rl calls pts 1 = n := by rw [← rTwo_first HP1.out]; exact fstB_at hn1 (by rw [HY.out]; rfl) HP.out
            show _ = _
            rw [← HG.out, chkG_at (k := 1) (by decide) (fun r hr => by have : r = 0 := by omega
                                                                       subst this; exact h0) (by rw [h2]; omega), h2]
            rfl
          go_upto_region 13 with (go_at_call 32; refine HC.out.mono ?_; rintro e w4 ⟨rfl, hb4⟩)
          have rN := (hb4.block N (by omega)).trans HZ.out.1
          have q0 := cellB rN 0 _ rfl
          have q1 := cellB rN 1 _ rfl
          have f0 := frozenB rN 0
          have f1 := frozenB rN 1
          have hg1 := congrArg Prod.fst HGG.out
          have hg2 := congrArg Prod.snd HGG.out
          have hsw := set2h rN (.int .i64 G1) (.int .i64 G2)
          have HF : Hid (Below N w ((w4.setCell ⟨N, 0, none⟩ (.int .i64 G1)).setCell ⟨N, 1, none⟩ (.int .i64 G2))) := ((HZ.out.2.1.trans (hb4.mono (by omega))).setCell (p := ⟨N, 0, none⟩) (Nat.le_refl _) _).setCell (p := ⟨N, 1, none⟩) (Nat.le_refl _) _
          have r0 := cellB hsw 0 _ rfl
          have r1 := cellB hsw 1 _ rfl
          simp only at hg1 hg2
          subst hg1
          subst hg2
          clear rN hsw hb4 HGG
          go_wp2
          exact bodyPost_ret (v := .tuple #[.agg #[.int .i64 _, .int .i64 _], .int .i64 0]) (by simp [results, Tryd.f20, go_sem, r0, r1]) rfl ⟨rfl, by rw [HN.out]; exact HF.out⟩
      obtain rfl : n = pts.length := by omega
      have h2 : ∀ i, i < pts.length → P2 calls pts i = false := by
        have e := rTwo_first (calls := calls) (pts := pts) HP1.out
        rw [fstB_none hP] at e
        exact fstB_inv e.symm
      have HP2 : Hid (∀ i, i < pts.length → P2 calls pts i = false) := h2
      have HB : Hid (Below (N + 1) W2 wr) := hB
      clear h2 hP hB hBN hn1 HR2
      go_upto_region 15 with fail
      obtain ⟨QQ, hQQ⟩ : ∃ Q : Nat, Q = 0 := ⟨_, rfl⟩
      clear hQQ QQ
      go_wp2_with fail
      go_loopg [54] calls.length (fun gk j wr => ∃ n : Nat, n + gk = calls.length ∧ j = .int .i64 n ∧ (∀ m, m < n → P3 calls pts m = false) ∧ Below (N + 1) W2 wr)
      case atStart => exact ⟨0, by omega, rfl, fun m hm => by omega, HB.out⟩
      case round =>
        obtain ⟨n, hnn, rfl, hP, hB⟩ := hrel
        have hBN := HZ.out.2.1.trans (hB.mono (by omega))
        by_cases hn1 : n < calls.length
        · obtain ⟨c, ho⟩ : ∃ c, calls[n]? = some c := ⟨_, List.getElem?_eq_getElem hn1⟩
          have hP3 := P3_at (pts := pts) ho
          rw [last_any] at hP3
          obtain ⟨g, e', hg', -, y⟩ := (HV.out _ hBN).at ho
          subst hg'
          obtain ⟨cl, no, ⟨kind, k, v, od⟩, fr, tt, T, E⟩ := c
          have hP3' : P3 calls pts n = (!((List.range pts.length).any fun j => decide ((pts.map pk2)[j]? = some (cl, no))) && decide (tt ≠ -1)) := hP3
          obtain ⟨K, hK⟩ : ∃ K : Nat → Bool, (fun j => decide ((pts.map pk2)[j]? = some (cl, no))) = K := ⟨_, rfl⟩
          rw [hK] at hP3'
          have hKi : ∀ j p, pts[j]? = some p → K j = (decide (p.cl = cl) && decide (p.no = no)) := fun j p h => by
            rw [← hK]
            show decide ((pts.map pk2)[j]? = some (cl, no)) = _
            rw [List.getElem?_map, h]
            show decide (some (p.cl, p.no) = some (cl, no)) = _
            rw [Bool.eq_iff_iff]
            simp
          have HK : Hid (∀ j p, pts[j]? = some p → K j = (decide (p.cl = cl) && decide (p.no = no))) := hKi
          have HP3 : Hid (_) := hP3'
          have HP : Hid (∀ m, m < n → P3 calls pts m = false) := hP
          have y0 : wr.cell? ⟨g, e' + n * 10, none⟩ = some (.int .i64 cl) := y 0 _ rfl
          have y1 : wr.cell? ⟨g, e' + n * 10 + 1, none⟩ = some (.int .i64 no) := y 1 _ rfl
          have y2 : wr.cell? ⟨g, e' + n * 10 + 2, none⟩ = some (.int .i64 kind) := y 2 _ rfl
          have y3 : wr.cell? ⟨g, e' + n * 10 + 3, none⟩ = some (.string (bs k)) := y 3 _ rfl
          have y4 : wr.cell? ⟨g, e' + n * 10 + 4, none⟩ = some (.string (bs v)) := y 4 _ rfl
          have y5 : wr.cell? ⟨g, e' + n * 10 + 5, none⟩ = some (.string (bs od)) := y 5 _ rfl
          have y6 : wr.cell? ⟨g, e' + n * 10 + 6, none⟩ = some (.int .i64 fr) := y 6 _ rfl
          have y7 : wr.cell? ⟨g, e' + n * 10 + 7, none⟩ = some (.int .i64 tt) := y 7 _ rfl
          have y8 : wr.cell? ⟨g, e' + n * 10 + 8, none⟩ = some (.int .i64 E) := y 8 _ rfl
          have y9 : wr.cell? ⟨g, e' + n * 10 + 9, none⟩ = some (.string (bs T)) := y 9 _ rfl
          have d3 : (0 : Int) ≤ (n : Int) := by omega
          have d4 : (n : Int) < (calls.length : Int) := by omega
          have d5 : n ≤ 150 := by have := HL.out.1; omega
          obtain ⟨D, hD⟩ : ∃ D, wr.heap.size = D := ⟨_, rfl⟩
          have hND : N + 1 ≤ D := by have := hB.size; have := HZ.out.2.2; omega
          have rD := heap_alloc_new wr (.cells #[.int .i64 cl, .int .i64 no, .int .i64 kind, .string (bs k), .string (bs v), .string (bs od), .int .i64 fr, .int .i64 tt, .int .i64 E, .string (bs T)] 45)
          have hbA := (Below.refl wr.heap.size wr).alloc (Nat.le_refl _) (.cells #[.int .i64 cl, .int .i64 no, .int .i64 kind, .string (bs k), .string (bs v), .string (bs od), .int .i64 fr, .int .i64 tt, .int .i64 E, .string (bs T)] 45)
          obtain ⟨WA, hWA⟩ : ∃ W, wr.alloc (.cells #[.int .i64 cl, .int .i64 no, .int .i64 kind, .string (bs k), .string (bs v), .string (bs od), .int .i64 fr, .int .i64 tt, .int .i64 E, .string (bs T)] 45) = W := ⟨_, rfl⟩
          have hzA : WA.heap.size = D + 1 := by rw [← hWA, World.size_alloc, hD]
          rw [hWA] at rD hbA
          rw [hD] at rD hbA
          have x7 := cellB rD 7 _ rfl
          have HA : Hid (WA.heap[D]? = some (.cells #[.int .i64 cl, .int .i64 no, .int .i64 kind, .string (bs k), .string (bs v), .string (bs od), .int .i64 fr, .int .i64 tt, .int .i64 E, .string (bs T)] 45) ∧ Below (N + 1) W2 WA ∧ WA.heap.size = D + 1 ∧ N + 1 ≤ D) := ⟨rD, hB.trans (hbA.mono hND), hzA, hND⟩
          have HWA : Hid (wr.alloc (.cells #[.int .i64 cl, .int .i64 no, .int .i64 kind, .string (bs k), .string (bs v), .string (bs od), .int .i64 fr, .int .i64 tt, .int .i64 E, .string (bs T)] 45) = WA) := hWA
          have HD : Hid (wr.heap.size = D) := hD
          clear hP3 hP3' hK hKi hP y rD hbA hWA hzA hD hND hB hBN ho
          go_upto_region 18 with fail
          rw [HWA.out]
          try rw [HD.out]
          clear y0 y1 y2 y3 y4 y5 y6 y7 y8 y9 HWA HD
          go_wp2_with fail
          go_loopg [10, 64] pts.length (fun gk x j wr => ∃ m : Nat, m + gk = pts.length ∧ j = .int .i64 m ∧ x = .bool (decide (tt = -1) || (List.range m).any K) ∧ Below (D + 1) WA wr)
          case atStart => exact ⟨0, by omega, rfl, by simp; exact beq_dec _ _, Below.refl _ _⟩
          case round =>
            obtain ⟨m, hm, rfl, rfl, hB⟩ := hrel
            have hBN := HZ.out.2.1.trans ((HA.out.2.1.trans (hB.mono (by have := HA.out.2.2.2; omega))).mono (by omega))
            obtain ⟨TH, hTH⟩ : ∃ x, (decide (tt = -1) || (List.range m).any K) = x := ⟨_, rfl⟩
            rw [hTH]
            by_cases hm1 : m < pts.length
            · obtain ⟨p, hp⟩ : ∃ p, pts[m]? = some p := ⟨_, List.getElem?_eq_getElem hm1⟩
              have hKm := HK.out m p hp
              obtain ⟨h, o, hgp, -, y⟩ := (HU.out _ hBN).at hp
              cases hgp
              obtain ⟨tm, pcl, pno, pT, pE⟩ := p
              have hKm' : K m = (decide (pcl = cl) && decide (pno = no)) := hKm
              have hnx : (decide (tt = -1) || (List.range (m + 1)).any K) = (TH || (decide (pcl = cl) && decide (pno = no))) := by
                rw [List.range_succ, List.any_append, ← Bool.or_assoc, hTH]
                simp [hKm']
              have HNX : Hid (_) := hnx
              have z0 : wr.cell? ⟨h, o + m * 5, none⟩ = some (.int .i64 tm) := y 0 _ rfl
              have z1 : wr.cell? ⟨h, o + m * 5 + 1, none⟩ = some (.int .i64 pcl) := y 1 _ rfl
              have z2 : wr.cell? ⟨h, o + m * 5 + 2, none⟩ = some (.int .i64 pno) := y 2 _ rfl
              have z3 : wr.cell? ⟨h, o + m * 5 + 3, none⟩ = some (.int .i64 pE) := y 3 _ rfl
              have z4 : wr.cell? ⟨h, o + m * 5 + 4, none⟩ = some (.string (bs pT)) := y 4 _ rfl
              have d6 : (0 : Int) ≤ (m : Int) := by omega
              have d7 : (m : Int) < (pts.length : Int) := by omega
              have d8 : m ≤ 150 := by have := HL.out.2; omega
              obtain ⟨D2, hD2⟩ : ∃ D2, wr.heap.size = D2 := ⟨_, rfl⟩
              have hDD : D + 1 ≤ D2 := by have := hB.size; have := HA.out.2.2.1; omega
              have rD2 := heap_alloc_new wr (.cells #[.int .i64 tm, .int .i64 pcl, .int .i64 pno, .int .i64 pE, .string (bs pT)] 53)
              have hbB := (Below.refl wr.heap.size wr).alloc (Nat.le_refl _) (.cells #[.int .i64 tm, .int .i64 pcl, .int .i64 pno, .int .i64 pE, .string (bs pT)] 53)
              obtain ⟨WB, hWB⟩ : ∃ W, wr.alloc (.cells #[.int .i64 tm, .int .i64 pcl, .int .i64 pno, .int .i64 pE, .string (bs pT)] 53) = W := ⟨_, rfl⟩
              rw [hWB] at rD2 hbB
              rw [hD2] at rD2 hbB
              have hBB := hB.trans (hbB.mono hDD)
              have rD := (hBB.block D (by omega)).trans HA.out.1
              have r0 := cellB rD 0 _ rfl
              have r1 := cellB rD 1 _ rfl
              have s1 := cellB rD2 1 _ rfl
              have s2 := cellB rD2 2 _ rfl
              have HWB : Hid (wr.alloc (.cells #[.int .i64 tm, .int .i64 pcl, .int .i64 pno, .int .i64 pE, .string (bs pT)] 53) = WB) := hWB
              have HD2 : Hid (wr.heap.size = D2) := hD2
              have HBB : Hid (Below (D + 1) WA WB) := hBB
              clear hKm hKm' hnx y rD2 hbB hWB hD2 hDD hBB hB hBN rD hp hTH x7
              go_upto_region 22 with fail
              rw [HWB.out]
              try rw [HD2.out]
              clear z0 z1 z2 z3 z4 HWB HD2
              cases TH with
              | true =>
                go_wp2
                go_roundg (pts.length - (m + 1))
                case measure => omega
                case rel => exact ⟨m + 1, by omega, by go_num, by rw [HNX.out]; simp, HBB.out⟩
              | false =>
                by_cases e1 : pcl = cl
                · have b1 : (pcl == cl) = true := by simpa using e1
                  by_cases e2 : pno = no
                  · have b2 : (pno == no) = true := by simpa using e2
                    have HNY : Hid (_) := HNX.out.trans (show (false || (decide (pcl = cl) && decide (pno = no))) = true by rw [decide_eq_true e1, decide_eq_true e2]; rfl)
                    clear e1 e2 HNX
                    go_wp2
                    go_roundg (pts.length - (m + 1))
                    case measure => omega
                    case rel => exact ⟨m + 1, by omega, by go_num, by rw [HNY.out], HBB.out⟩
                  · have b2 : (pno == no) = false := by simpa using e2
                    have HNY : Hid (_) := HNX.out.trans (show (false || (decide (pcl = cl) && decide (pno = no))) = false by rw [decide_eq_true e1, decide_eq_false e2]; rfl)
                    clear e1 e2 HNX
                    go_wp2
                    go_roundg (pts.length - (m + 1))
                    case measure => omega
                    case rel => exact ⟨m + 1, by omega, by go_num, by rw [HNY.out], HBB.out⟩
                · have b1 : (pcl == cl) = false := by simpa using e1
                  have HNY : Hid (_) := HNX.out.trans (show (false || (decide (pcl = cl) && decide (pno = no))) = false by rw [decide_eq_false e1]; rfl)
                  clear e1 HNX
                  go_wp2
                  go_roundg (pts.length - (m + 1))
                  case measure => omega
                  case rel => exact ⟨m + 1, by omega, by go_num, by rw [HNY.out], HBB.out⟩
            obtain rfl : m = pts.length := by omega
            have hP3n : P3 calls pts n = !TH := by
              rw [HP3.out, ← hTH]
              by_cases e : tt = -1
              · rw [decide_eq_true e, decide_eq_false (fun h => h e)]; simp
              · rw [decide_eq_false e, decide_eq_true e]; simp
            have HP3n : Hid (P3 calls pts n = !TH) := hP3n
            have hb4 := HA.out.2.1.trans (hB.mono (by have := HA.out.2.2.2; omega))
            clear hP3n hTH hB hBN x7
            cases TH with
            | true =>
              have HB4 : Hid (Below (N + 1) W2 wr) := hb4
              have HPN : Hid (∀ m, m < n + 1 → P3 calls pts m = false) := fun m hm => by
                by_cases e : m = n
                · subst e; rw [HP3n.out]; rfl
                · exact HP.out m (by omega)
              clear hb4
              go_wp2
              go_roundg (calls.length - (n + 1))
              case measure => omega
              case rel => exact ⟨n + 1, by omega, by go_num, HPN.out, HB4.out⟩
            | false =>
              have HGG : Hid (((3, (n : Int)) : Int × Int) = (G1, G2)) := by
                have h0 : Rl calls pts 0 = -1 := fstB_none HP1.out
                have h1 : Rl calls pts 1 = -1 := fstB_none HP2.out
                have h2 : Rl calls pts 2 = n := fstB_at hn1 (by rw [HP3n.out]; rfl) HP.out
                show _ = _
                rw [← HG.out, chkG_at (k := 2) (by decide) (fun r hr => by
                  rcases r with _ | _ | r
                  · exact h0
                  · exact h1
                  · omega) (by rw [h2]; omega), h2]
                rfl
              have rN := (hb4.block N (by omega)).trans HZ.out.1
              have q0 := cellB rN 0 _ rfl
              have q1 := cellB rN 1 _ rfl
              have f0 := frozenB rN 0
              have f1 := frozenB rN 1
              have hg1 := congrArg Prod.fst HGG.out
              have hg2 := congrArg Prod.snd HGG.out
              have hsw := set2h rN (.int .i64 G1) (.int .i64 G2)
              have HF : Hid (Below N w ((wr.setCell ⟨N, 0, none⟩ (.int .i64 G1)).setCell ⟨N, 1, none⟩ (.int .i64 G2))) := ((HZ.out.2.1.trans (hb4.mono (by omega))).setCell (p := ⟨N, 0, none⟩) (Nat.le_refl _) _).setCell (p := ⟨N, 1, none⟩) (Nat.le_refl _) _
              have r0 := cellB hsw 0 _ rfl
              have r1 := cellB hsw 1 _ rfl
              simp only at hg1 hg2
              subst hg1
              subst hg2
              clear rN hsw hb4 HGG
              go_wp2
              exact bodyPost_ret (v := .tuple #[.agg #[.int .i64 _, .int .i64 _], .int .i64 0]) (by simp [results, Tryd.f20, go_sem, r0, r1]) rfl ⟨rfl, by rw [HN.out]; exact HF.out⟩
        obtain rfl : n = calls.length := by omega
        have HP3 : Hid (∀ i, i < calls.length → P3 calls pts i = false) := hP
        have HB : Hid (Below (N + 1) W2 wr) := hB
        clear hP hB hBN hn1
        go_upto_region 27 with fail
        have hop := opsOf_len calls pts
        obtain ⟨O, hO⟩ : ∃ O, opsOf calls pts = O := ⟨_, rfl⟩
        rw [hO] at hop
        have HO : Hid (opsOf calls pts = O ∧ O.length = pts.length) := ⟨hO, hop⟩
        clear hO hop
        obtain ⟨X, hX⟩ : ∃ X, wr.heap.size = X := ⟨_, rfl⟩
        have hNX : N + 1 ≤ X := by have := HB.out.size; have := HZ.out.2.2; omega
        have rX := heap_alloc_new wr (.cells #[.slice none 0 0, .slice none 0 0, .slice none 0 0, .slice none 0 0] 95)
        have hbX := (Below.refl wr.heap.size wr).alloc (Nat.le_refl _) (.cells #[.slice none 0 0, .slice none 0 0, .slice none 0 0, .slice none 0 0] 95)
        obtain ⟨WX, hWX⟩ : ∃ W, wr.alloc (.cells #[.slice none 0 0, .slice none 0 0, .slice none 0 0, .slice none 0 0] 95) = W := ⟨_, rfl⟩
        rw [hWX] at rX hbX
        rw [hX] at rX hbX
        have HRM : Hid (RM (N + 1) WX X (fun _ => []) (fun _ => .slice none 0 0) ∧ Below (N + 1) W2 WX) := ⟨RM.new rX hNX, HB.out.trans (hbX.mono hNX)⟩
        have HWX : Hid (wr.alloc (.cells #[.slice none 0 0, .slice none 0 0, .slice none 0 0, .slice none 0 0] 95) = WX) := hWX
        have HX : Hid (wr.heap.size = X) := hX
        clear rX hbX hWX hX hNX HB
        go_upto_region 28 with fail
        rw [HWX.out]
        try rw [HX.out]
        clear HWX HX
        go_wp2_with fail
        go_loopg [93] pts.length (fun gk j wr => ∃ (n : Nat) (U : Nat → Value), n + gk = pts.length ∧ j = .int .i64 n ∧ RM (N + 1) wr X (rfin (fun _ => []) (O.take n)) U ∧ (∀ m, m < n → P4 calls pts m = false) ∧ Below (N + 1) W2 wr)
        case atStart => exact ⟨0, _, by omega, rfl, HRM.out.1, fun m hm => by omega, HRM.out.2⟩
        case round =>
          obtain ⟨n, U, hnn, rfl, hRM, hP, hB⟩ := hrel
          have hBN := HZ.out.2.1.trans (hB.mono (by omega))
          by_cases hn1 : n < pts.length
          · obtain ⟨p, hp⟩ : ∃ p, pts[n]? = some p := ⟨_, List.getElem?_eq_getElem hn1⟩
            have h2n := HP2.out n hn1
            rw [P2_at hp] at h2n
            obtain ⟨jn, c, hc, hco, hfn, -⟩ : ∃ (j : Nat) (c : Cl), calls[j]? = some c ∧ callOf calls p = some c ∧ fnI calls p = j ∧ callF calls p = c := by
              rcases fn_of HP1.out p with h | ⟨h, _⟩
              · exact h
              · rw [h] at h2n; simp at h2n
            have hca : callAt calls p = c := by rw [callAt, hco]; rfl
            have h4 := P4_at (calls := calls) hp
            rw [hca, HO.out.1] at h4
            have hOn : O[n]? = some c.op := by rw [← HO.out.1, opsOf, List.getElem?_map, hp]; show some (callAt calls p).op = _; rw [hca]
            have htk : rfin (fun _ => []) (O.take (n + 1)) = rnext (rfin (fun _ => []) (O.take n)) c.op := by rw [take_snoc hOn, rfin_snoc]
            have hte := (alike_step (alike_fin alike_nil (O.take n)) c.op).1
            have hko : c.op.k.length ≤ 140737488351232 := key_short (show Rl calls [] 0 = -1 from fstB_none HP1.out) c (List.mem_of_getElem? hc)
            obtain ⟨LM, hLM⟩ : ∃ L, rfin (fun _ => []) (O.take n) = L := ⟨_, rfl⟩
            rw [hLM] at htk hte hRM
            obtain ⟨AA, hAA⟩ : ∃ a, tell (fin (fun _ => []) (O.take n)) c.op = a := ⟨_, rfl⟩
            rw [hAA] at h4 hte
            obtain ⟨AT, AE⟩ := AA
            obtain ⟨gp, op, hgp, -, yp⟩ := (HU.out _ hBN).at hp
            subst hgp
            obtain ⟨gc, ec, hgc, -, -⟩ := (HV.out _ hBN).at hc
            subst hgc
            have hCc : ∀ W, Below N w W → ∀ k u, (ccs c)[k]? = some u → W.cell? ⟨gc, ec + jn * 10 + k, none⟩ = some u := fun W hW k u hu => by
              obtain ⟨g', e', hg', -, y⟩ := (HV.out _ hW).at hc
              cases hg'
              exact y k u hu
            have hjl := (List.getElem?_eq_some_iff.1 hc).1
            obtain ⟨D, hD⟩ : ∃ D, wr.heap.size = D := ⟨_, rfl⟩
            have hND : N + 1 ≤ D := by have := hB.size; have := HZ.out.2.2; omega
            have hfa := fun W (hW : Below N w W) => find_any calls p _ W (HV.out _ hW) (by have := HL.out.1; omega)
            rw [hfn] at hfa
            obtain ⟨tm, pcl, pno, pT, pE⟩ := p
            obtain ⟨cl, no, ⟨kind, k, v, od⟩, fr, tt, T, E⟩ := c
            have h4' : P4 calls pts n = (decide (((pT, pE) : An) ≠ (AT, AE)) || (decide (tt ≠ -1) && decide (((pT, pE) : An) ≠ (T, E)))) := h4
            have hfa' : ∀ W, Below N w W → Calls Tryd.prog 33 #[.slice (some ⟨gc, ec, none⟩) calls.length vcap, .agg #[.int .i64 tm, .int .i64 pcl, .int .i64 pno, .int .i64 pE, .string (bs pT)]] W fun e W' => e = .returned (.int .i64 (jn : Int)) ∧ Below W.heap.size W W' := hfa
            have z0 : wr.cell? ⟨gp, op + n * 5, none⟩ = some (.int .i64 tm) := yp 0 _ rfl
            have z1 : wr.cell? ⟨gp, op + n * 5 + 1, none⟩ = some (.int .i64 pcl) := yp 1 _ rfl
            have z2 : wr.cell? ⟨gp, op + n * 5 + 2, none⟩ = some (.int .i64 pno) := yp 2 _ rfl
            have z3 : wr.cell? ⟨gp, op + n * 5 + 3, none⟩ = some (.int .i64 pE) := yp 3 _ rfl
            have z4 : wr.cell? ⟨gp, op + n * 5 + 4, none⟩ = some (.string (bs pT)) := yp 4 _ rfl
            have rD := heap_alloc_new wr (.cells #[.int .i64 tm, .int .i64 pcl, .int .i64 pno, .int .i64 pE, .string (bs pT)] 53)
            have hbA := (Below.refl wr.heap.size wr).alloc (Nat.le_refl _) (.cells #[.int .i64 tm, .int .i64 pcl, .int .i64 pno, .int .i64 pE, .string (bs pT)] 53)
            obtain ⟨WA, hWA⟩ : ∃ W, wr.alloc (.cells #[.int .i64 tm, .int .i64 pcl, .int .i64 pno, .int .i64 pE, .string (bs pT)] 53) = W := ⟨_, rfl⟩
            have hzA : WA.heap.size = D + 1 := by rw [← hWA, World.size_alloc, hD]
            rw [hWA] at rD hbA
            have hRMA := hRM.on hbA
            have hXD : X < D := by rw [← hD]; exact hRM.lt
            have hUD : ∀ i, i < 4 → ∀ q, (U i).ownBlock = some q → q < D := fun i hi q hq => by rw [← hD]; exact (hRM.own i hi q hq).2.1
            rw [hD] at rD hbA
            have x0 := cellB rD 0 _ rfl
            have x1 := cellB rD 1 _ rfl
            have x2 := cellB rD 2 _ rfl
            have x3 := cellB rD 3 _ rfl
            have x4 := cellB rD 4 _ rfl
            have HC22 : Hid (Calls Tryd.prog 33 #[.slice (some ⟨gc, ec, none⟩) calls.length vcap, .agg #[.int .i64 tm, .int .i64 pcl, .int .i64 pno, .int .i64 pE, .string (bs pT)]] WA fun e W' => e = .returned (.int .i64 (jn : Int)) ∧ Below (D + 1) WA W') := (hfa' WA (hBN.trans (hbA.mono (by omega)))).mono fun e W' hh => ⟨hh.1, by rw [← hzA]; exact hh.2⟩
            have HA : Hid (WA.heap[D]? = some (.cells #[.int .i64 tm, .int .i64 pcl, .int .i64 pno, .int .i64 pE, .string (bs pT)] 53) ∧ Below (N + 1) W2 WA ∧ WA.heap.size = D + 1 ∧ N + 1 ≤ D ∧ RM (N + 1) WA X LM U) := ⟨rD, hB.trans (hbA.mono hND), hzA, hND, hRMA⟩
            have HWA : Hid (wr.alloc (.cells #[.int .i64 tm, .int .i64 pcl, .int .i64 pno, .int .i64 pE, .string (bs pT)] 53) = WA) := hWA
            have HD : Hid (wr.heap.size = D) := hD
            have HE : Hid (calls[jn]? = some ⟨cl, no, ⟨kind, k, v, od⟩, fr, tt, (T, E)⟩ ∧ rfin (fun _ => []) (O.take (n + 1)) = rnext LM ⟨kind, k, v, od⟩ ∧ rtell LM ⟨kind, k, v, od⟩ = (AT, AE) ∧ k.length ≤ 140737488351232) := ⟨hc, htk, by rw [← hLM]; rw [hLM]; exact hte, hko⟩
            have H4 : Hid (_) := h4'
            have HCc : Hid (_) := hCc
            have HXU : Hid (_ ∧ _) := And.intro hXD hUD
            have HP : Hid (∀ m, m < n → P4 calls pts m = false) := hP
            have d3 : (0 : Int) ≤ (n : Int) := by omega
            have d4 : (n : Int) < (pts.length : Int) := by omega
            have d5 : n ≤ 150 := by have := HL.out.2; omega
            have d6 : (0 : Int) ≤ (jn : Int) := by omega
            have d7 : (jn : Int) < (calls.length : Int) := by omega
            clear h4' hCc hXD hUD h2n hc hco hfn hca h4 hOn htk hte hko hLM hAA yp hjl hfa hfa' rD hbA hWA hzA hRMA hD hND hRM hP hB hBN hp
            go_upto_region 31 with fail
            rw [HWA.out]
            try rw [HD.out]
            clear z0 z1 z2 z3 z4 HWA HD
            go_upto_region 32 with (go_at_call 33; refine HC22.out.mono ?_; rintro e w4 ⟨rfl, hb4⟩; have hbw := HZ.out.2.1.trans ((HA.out.2.1.trans (hb4.mono (by have := HA.out.2.2.2.1; omega))).mono (by omega)); have y0 : w4.cell? ⟨gc, ec + jn * 10, none⟩ = some (.int .i64 cl) := HCc.out w4 hbw 0 _ rfl; have y1 : w4.cell? ⟨gc, ec + jn * 10 + 1, none⟩ = some (.int .i64 no) := HCc.out w4 hbw 1 _ rfl; have y2 : w4.cell? ⟨gc, ec + jn * 10 + 2, none⟩ = some (.int .i64 kind) := HCc.out w4 hbw 2 _ rfl; have y3 : w4.cell? ⟨gc, ec + jn * 10 + 3, none⟩ = some (.string (bs k)) := HCc.out w4 hbw 3 _ rfl; have y4 : w4.cell? ⟨gc, ec + jn * 10 + 4, none⟩ = some (.string (bs v)) := HCc.out w4 hbw 4 _ rfl; have y5 : w4.cell? ⟨gc, ec + jn * 10 + 5, none⟩ = some (.string (bs od)) := HCc.out w4 hbw 5 _ rfl; have y6 : w4.cell? ⟨gc, ec + jn * 10 + 6, none⟩ = some (.int .i64 fr) := HCc.out w4 hbw 6 _ rfl; have y7 : w4.cell? ⟨gc, ec + jn * 10 + 7, none⟩ = some (.int .i64 tt) := HCc.out w4 hbw 7 _ rfl; have y8 : w4.cell? ⟨gc, ec + jn * 10 + 8, none⟩ = some (.int .i64 E) := HCc.out w4 hbw 8 _ rfl; have y9 : w4.cell? ⟨gc, ec + jn * 10 + 9, none⟩ = some (.string (bs T)) := HCc.out w4 hbw 9 _ rfl; have HB4 : Hid (Below (D + 1) WA w4) := hb4; clear hb4 hbw x0 x1 x2 x3 x4)
            obtain ⟨D2, hD2⟩ : ∃ D2, w4.heap.size = D2 := ⟨_, rfl⟩
            have hDD : D + 1 ≤ D2 := by have := HB4.out.size; have := HA.out.2.2.1; omega
            have rD2 := heap_alloc_new w4 (.cells #[.int .i64 cl, .int .i64 no, .int .i64 kind, .string (bs k), .string (bs v), .string (bs od), .int .i64 fr, .int .i64 tt, .int .i64 E, .string (bs T)] 45)
            have hbB := (Below.refl w4.heap.size w4).alloc (Nat.le_refl _) (.cells #[.int .i64 cl, .int .i64 no, .int .i64 kind, .string (bs k), .string (bs v), .string (bs od), .int .i64 fr, .int .i64 tt, .int .i64 E, .string (bs T)] 45)
            obtain ⟨WB, hWB⟩ : ∃ W, w4.alloc (.cells #[.int .i64 cl, .int .i64 no, .int .i64 kind, .string (bs k), .string (bs v), .string (bs od), .int .i64 fr, .int .i64 tt, .int .i64 E, .string (bs T)] 45) = W := ⟨_, rfl⟩
            have hzB : WB.heap.size = D2 + 1 := by rw [← hWB, World.size_alloc, hD2]
            rw [hWB] at rD2 hbB ⊢
            rw [hD2] at rD2 hbB
            try rw [hD2]
            have hBB := HB4.out.trans (hbB.mono hDD)
            have x2 := cellB rD2 2 _ rfl
            have x3 := cellB rD2 3 _ rfl
            have x4 := cellB rD2 4 _ rfl
            have x5 := cellB rD2 5 _ rfl
            have hT := Tell_any (HA.out.2.2.2.2.on (by rw [HA.out.2.2.1]; exact hBB)) ⟨kind, k, v, od⟩ HE.out.2.2.2
            rw [HE.out.2.2.1] at hT
            have HT : Hid (Calls Tryd.prog 34 #[.pointer (some ⟨X, 0, none⟩), .agg #[.int .i64 kind, .string (bs k), .string (bs v), .string (bs od)]] WB fun e W' => e = .returned (.agg #[.int .i64 AE, .string (bs AT)]) ∧ ∃ U', RM (N + 1) W' X (rnext LM ⟨kind, k, v, od⟩) U' ∧ MvR X U WB W') := hT.mono fun e W' hh => by
              obtain ⟨h1, U', h2, h3, _⟩ := hh
              exact ⟨h1, U', h2, h3⟩
            have HBB : Hid (WB.heap[D2]? = some (.cells #[.int .i64 cl, .int .i64 no, .int .i64 kind, .string (bs k), .string (bs v), .string (bs od), .int .i64 fr, .int .i64 tt, .int .i64 E, .string (bs T)] 45) ∧ Below (D + 1) WA WB ∧ D + 1 ≤ D2 ∧ WB.heap.size = D2 + 1) := ⟨rD2, hBB, hDD, hzB⟩
            clear y0 y1 y2 y3 y4 y5 y6 y7 y8 y9 rD2 hbB hWB hBB hD2 hDD hzB hT
            go_upto_region 33 with (go_at_call 34; refine HT.out.mono ?_; rintro e w6 ⟨rfl, U', hRM6, hM6⟩)
            obtain ⟨D3, hD3⟩ : ∃ D3, w6.heap.size = D3 := ⟨_, rfl⟩
            have hs6 : D2 + 1 ≤ D3 := by have := hM6.size; have := HBB.out.2.2.2; omega
            have rDB := (HBB.out.2.1.block D (by omega)).trans HA.out.1
            have rD6 := (hM6.block D (by have := HBB.out.2.2; omega) (by have := HXU.out.1; omega) (fun i hi e => by have := HXU.out.2 i hi D e; omega)).trans rDB
            have rE6 := (hM6.block D2 (by have := HBB.out.2.2; omega) (by have := HXU.out.1; have := HBB.out.2.2; omega) (fun i hi e => by have := HXU.out.2 i hi D2 e; have := HBB.out.2.2; omega)).trans HBB.out.1
            have rD3 := heap_alloc_new w6 (.cells #[.int .i64 AE, .string (bs AT)] 43)
            have hbC := (Below.refl w6.heap.size w6).alloc (Nat.le_refl _) (.cells #[.int .i64 AE, .string (bs AT)] 43)
            obtain ⟨W7, hW7⟩ : ∃ W, w6.alloc (.cells #[.int .i64 AE, .string (bs AT)] 43) = W := ⟨_, rfl⟩
            rw [hW7] at rD3 hbC
            try rw [hW7]
            have hRM7 := hRM6.on hbC
            rw [hD3] at rD3 hbC
            try rw [hD3]
            have rD7 := (hbC.block D (by have := HBB.out.2.2; omega)).trans rD6
            have rE7 := (hbC.block D2 (by omega)).trans rE6
            have s0 := cellB rD3 0 _ rfl
            have s1 := cellB rD3 1 _ rfl
            have p3 := cellB rD7 3 _ rfl
            have p4 := cellB rD7 4 _ rfl
            have e7 := cellB rE7 7 _ rfl
            have e8 := cellB rE7 8 _ rfl
            have e9 := cellB rE7 9 _ rfl
            have hRMB := HA.out.2.2.2.2.on (w' := WB) (by rw [HA.out.2.2.1]; exact HBB.out.2.1)
            have hBB7 : Below (N + 1) W2 W7 := (HA.out.2.1.trans (HBB.out.2.1.mono (by have := HA.out.2.2.2.1; omega))).trans ((hRMB.below hM6).trans (hbC.mono (by have := HA.out.2.2.2.1; have := HBB.out.2.2; omega)))
            have HB7 : Hid (Below (N + 1) W2 W7) := hBB7
            have HRM7 : Hid (_) := hRM7
            clear hs6 rDB rD6 rE6 rD3 hbC hW7 hRM7 hD3 rD7 rE7 hRMB hBB7 hRM6 hM6 x2 x3 x4 x5
            by_cases a1 : AE = pE
            rotate_left
            · have HBAD : Hid (P4 calls pts n = true) := by
                show _ = _
                rw [H4.out, decide_eq_true (show ((pT, pE) : An) ≠ (AT, AE) from fun h => a1 (congrArg Prod.snd h).symm)]; rfl
              have HGG : Hid (((4, (n : Int)) : Int × Int) = (G1, G2)) := by
                have h0 : Rl calls pts 0 = -1 := fstB_none HP1.out
                have h1 : Rl calls pts 1 = -1 := fstB_none HP2.out
                have h2 : Rl calls pts 2 = -1 := fstB_none HP3.out
                have h3 : Rl calls pts 3 = n := fstB_at hn1 HBAD.out HP.out
                show _ = _
                rw [← HG.out, chkG_at (k := 3) (by decide) (fun r hr => by
                  rcases r with _ | _ | _ | r
                  · exact h0
                  · exact h1
                  · exact h2
                  · omega) (by rw [h3]; omega), h3]
                rfl
              have hb4 := HB7.out
              have rN := (hb4.block N (by omega)).trans HZ.out.1
              have q0 := cellB rN 0 _ rfl
              have q1 := cellB rN 1 _ rfl
              have f0 := frozenB rN 0
              have f1 := frozenB rN 1
              have hg1 := congrArg Prod.fst HGG.out
              have hg2 := congrArg Prod.snd HGG.out
              have hsw := set2h rN (.int .i64 G1) (.int .i64 G2)
              have HF : Hid (Below N w ((W7.setCell ⟨N, 0, none⟩ (.int .i64 G1)).setCell ⟨N, 1, none⟩ (.int .i64 G2))) := ((HZ.out.2.1.trans (hb4.mono (by omega))).setCell (p := ⟨N, 0, none⟩) (Nat.le_refl _) _).setCell (p := ⟨N, 1, none⟩) (Nat.le_refl _) _
              have r0 := cellB hsw 0 _ rfl
              have r1 := cellB hsw 1 _ rfl
              simp only at hg1 hg2
              subst hg1
              subst hg2
              clear rN hsw hb4 HGG
              go_wp2
              exact bodyPost_ret (v := .tuple #[.agg #[.int .i64 _, .int .i64 _], .int .i64 0]) (by simp [results, Tryd.f20, go_sem, r0, r1]) rfl ⟨rfl, by rw [HN.out]; exact HF.out⟩
            by_cases a2 : AT = pT
            rotate_left
            · have HBAD : Hid (P4 calls pts n = true) := by
                show _ = _
                rw [H4.out, decide_eq_true (show ((pT, pE) : An) ≠ (AT, AE) from fun h => a2 (congrArg Prod.fst h).symm)]; rfl
              have ns := str_two a2
              have HGG : Hid (((4, (n : Int)) : Int × Int) = (G1, G2)) := by
                have h0 : Rl calls pts 0 = -1 := fstB_none HP1.out
                have h1 : Rl calls pts 1 = -1 := fstB_none HP2.out
                have h2 : Rl calls pts 2 = -1 := fstB_none HP3.out
                have h3 : Rl calls pts 3 = n := fstB_at hn1 HBAD.out HP.out
                show _ = _
                rw [← HG.out, chkG_at (k := 3) (by decide) (fun r hr => by
                  rcases r with _ | _ | _ | r
                  · exact h0
                  · exact h1
                  · exact h2
                  · omega) (by rw [h3]; omega), h3]
                rfl
              have hb4 := HB7.out
              have rN := (hb4.block N (by omega)).trans HZ.out.1
              have q0 := cellB rN 0 _ rfl
              have q1 := cellB rN 1 _ rfl
              have f0 := frozenB rN 0
              have f1 := frozenB rN 1
              have hg1 := congrArg Prod.fst HGG.out
              have hg2 := congrArg Prod.snd HGG.out
              have hsw := set2h rN (.int .i64 G1) (.int .i64 G2)
              have HF : Hid (Below N w ((W7.setCell ⟨N, 0, none⟩ (.int .i64 G1)).setCell ⟨N, 1, none⟩ (.int .i64 G2))) := ((HZ.out.2.1.trans (hb4.mono (by omega))).setCell (p := ⟨N, 0, none⟩) (Nat.le_refl _) _).setCell (p := ⟨N, 1, none⟩) (Nat.le_refl _) _
              have r0 := cellB hsw 0 _ rfl
              have r1 := cellB hsw 1 _ rfl
              simp only at hg1 hg2
              subst hg1
              subst hg2
              clear rN hsw hb4 HGG
              go_wp2
              all_goals first
                | (exact bodyPost_ret (v := .tuple #[.agg #[.int .i64 _, .int .i64 _], .int .i64 0]) (by simp [results, Tryd.f20, go_sem, r0, r1]) rfl ⟨rfl, by rw [HN.out]; exact HF.out⟩)
                | (exfalso; exact a2 (by assumption))
                | (exfalso; exact a2 (Eq.symm (by assumption)))
            subst a1
            subst a2
            by_cases t : tt = -1
            · have b1 : (tt == -1) = true := by rw [t]; rfl
              have b2 : (tt != -1) = false := by rw [t]; rfl
              have HGOOD : Hid (P4 calls pts n = false) := by
                show _ = _
                rw [H4.out, t]; simp
              clear t
              have HPN : Hid (∀ m, m < n + 1 → P4 calls pts m = false) := fun m hm => by
                by_cases e : m = n
                · subst e; exact HGOOD.out
                · exact HP.out m (by omega)
              go_wp2
              go_roundg (pts.length - (n + 1))
              case measure => omega
              case rel => exact ⟨n + 1, U', by omega, by go_num, by rw [HE.out.2.1]; exact HRM7.out, HPN.out, HB7.out⟩
            have b1 : (tt == -1) = false := by simpa using t
            have b2 : (tt != -1) = true := by simpa using t
            by_cases a3 : AE = E
            rotate_left
            · have HBAD : Hid (P4 calls pts n = true) := by
                show _ = _
                rw [H4.out, decide_eq_true t, decide_eq_true (show ((AT, AE) : An) ≠ (T, E) from fun h => a3 (congrArg Prod.snd h))]; simp
              have HGG : Hid (((4, (n : Int)) : Int × Int) = (G1, G2)) := by
                have h0 : Rl calls pts 0 = -1 := fstB_none HP1.out
                have h1 : Rl calls pts 1 = -1 := fstB_none HP2.out
                have h2 : Rl calls pts 2 = -1 := fstB_none HP3.out
                have h3 : Rl calls pts 3 = n := fstB_at hn1 HBAD.out HP.out
                show _ = _
                rw [← HG.out, chkG_at (k := 3) (by decide) (fun r hr => by
                  rcases r with _ | _ | _ | r
                  · exact h0
                  · exact h1
                  · exact h2
                  · omega) (by rw [h3]; omega), h3]
                rfl
              have hb4 := HB7.out
              have rN := (hb4.block N (by omega)).trans HZ.out.1
              have q0 := cellB rN 0 _ rfl
              have q1 := cellB rN 1 _ rfl
              have f0 := frozenB rN 0
              have f1 := frozenB rN 1
              have hg1 := congrArg Prod.fst HGG.out
              have hg2 := congrArg Prod.snd HGG.out
              have hsw := set2h rN (.int .i64 G1) (.int .i64 G2)
              have HF : Hid (Below N w ((W7.setCell ⟨N, 0, none⟩ (.int .i64 G1)).setCell ⟨N, 1, none⟩ (.int .i64 G2))) := ((HZ.out.2.1.trans (hb4.mono (by omega))).setCell (p := ⟨N, 0, none⟩) (Nat.le_refl _) _).setCell (p := ⟨N, 1, none⟩) (Nat.le_refl _) _
              have r0 := cellB hsw 0 _ rfl
              have r1 := cellB hsw 1 _ rfl
              simp only at hg1 hg2
              subst hg1
              subst hg2
              clear rN hsw hb4 HGG
              go_wp2
              exact bodyPost_ret (v := .tuple #[.agg #[.int .i64 _, .int .i64 _], .int .i64 0]) (by simp [results, Tryd.f20, go_sem, r0, r1]) rfl ⟨rfl, by rw [HN.out]; exact HF.out⟩
            by_cases a4 : AT = T
            rotate_left
            · have HBAD : Hid (P4 calls pts n = true) := by
                show _ = _
                rw [H4.out, decide_eq_true t, decide_eq_true (show ((AT, AE) : An) ≠ (T, E) from fun h => a4 (congrArg Prod.fst h))]; simp
              have ns := str_two a4
              have HGG : Hid (((4, (n : Int)) : Int × Int) = (G1, G2)) := by
                have h0 : Rl calls pts 0 = -1 := fstB_none HP1.out
                have h1 : Rl calls pts 1 = -1 := fstB_none HP2.out
                have h2 : Rl calls pts 2 = -1 := fstB_none HP3.out
                have h3 : Rl calls pts 3 = n := fstB_at hn1 HBAD.out HP.out
                show _ = _
                rw [← HG.out, chkG_at (k := 3) (by decide) (fun r hr => by
                  rcases r with _ | _ | _ | r
                  · exact h0
                  · exact h1
                  · exact h2
                  · omega) (by rw [h3]; omega), h3]
                rfl
              have hb4 := HB7.out
              have rN := (hb4.block N (by omega)).trans HZ.out.1
              have q0 := cellB rN 0 _ rfl
              have q1 := cellB rN 1 _ rfl
              have f0 := frozenB rN 0
              have f1 := frozenB rN 1
              have hg1 := congrArg Prod.fst HGG.out
              have hg2 := congrArg Prod.snd HGG.out
              have hsw := set2h rN (.int .i64 G1) (.int .i64 G2)
              have HF : Hid (Below N w ((W7.setCell ⟨N, 0, none⟩ (.int .i64 G1)).setCell ⟨N, 1, none⟩ (.int .i64 G2))) := ((HZ.out.2.1.trans (hb4.mono (by omega))).setCell (p := ⟨N, 0, none⟩) (Nat.le_refl _) _).setCell (p := ⟨N, 1, none⟩) (Nat.le_refl _) _
              have r0 := cellB hsw 0 _ rfl
              have r1 := cellB hsw 1 _ rfl
              simp only at hg1 hg2
              subst hg1
              subst hg2
              clear rN hsw hb4 HGG
              go_wp2
              all_goals first
                | (exact bodyPost_ret (v := .tuple #[.agg #[.int .i64 _, .int .i64 _], .int .i64 0]) (by simp [results, Tryd.f20, go_sem, r0, r1]) rfl ⟨rfl, by rw [HN.out]; exact HF.out⟩)
                | (exfalso; exact a4 (by assumption))
                | (exfalso; exact a4 (Eq.symm (by assumption)))
            subst a3
            subst a4
            have HGOOD : Hid (P4 calls pts n = false) := by
              show _ = _
              rw [H4.out]; simp
            have HPN : Hid (∀ m, m < n + 1 → P4 calls pts m = false) := fun m hm => by
              by_cases e : m = n
              · subst e; exact HGOOD.out
              · exact HP.out m (by omega)
            go_wp2
            go_roundg (pts.length - (n + 1))
            case measure => omega
            case rel => exact ⟨n + 1, U', by omega, by go_num, by rw [HE.out.2.1]; exact HRM7.out, HPN.out, HB7.out⟩
          obtain rfl : n = pts.length := by omega
          have HGG : Hid (((0, 0) : Int × Int) = (G1, G2)) := by
            show _ = _
            rw [← HG.out]
            refine (chkG_none fun r hr => ?_).symm
            rcases r with _ | _ | _ | _ | r
            · exact fstB_none HP1.out
            · exact fstB_none HP2.out
            · exact fstB_none HP3.out
            · exact fstB_none hP
            · omega
          obtain ⟨W7, hW7⟩ : ∃ W, wr = W := ⟨_, rfl⟩
          rw [hW7] at hB ⊢
          have hb4 := hB
          clear hRM hP hBN
          have rN := (hb4.block N (by omega)).trans HZ.out.1
          have q0 := cellB rN 0 _ rfl
          have q1 := cellB rN 1 _ rfl
          have f0 := frozenB rN 0
          have f1 := frozenB rN 1
          have hg1 := congrArg Prod.fst HGG.out
          have hg2 := congrArg Prod.snd HGG.out
          have hsw := set2h rN (.int .i64 G1) (.int .i64 G2)
          have HF : Hid (Below N w ((W7.setCell ⟨N, 0, none⟩ (.int .i64 G1)).setCell ⟨N, 1, none⟩ (.int .i64 G2))) := ((HZ.out.2.1.trans (hb4.mono (by omega))).setCell (p := ⟨N, 0, none⟩) (Nat.le_refl _) _).setCell (p := ⟨N, 1, none⟩) (Nat.le_refl _) _
          have r0 := cellB hsw 0 _ rfl
          have r1 := cellB hsw 1 _ rfl
          simp only at hg1 hg2
          subst hg1
          subst hg2
          clear rN hsw hb4 HGG
          go_wp2
          exact bodyPost_ret (v := .tuple #[.agg #[.int .i64 _, .int .i64 _], .int .i64 0]) (by simp [results, Tryd.f20, go_sem, r0, r1]) rfl ⟨rfl, by rw [HN.out]; exact HF.out⟩
end
section
open Go.RowKit Go.Maps
attribute [local go_sem ↓] Go.wp_at_zero Go.wp_at_succ

end
end
end Go.Proofs.YtihilkdokfdoeaaDoor
