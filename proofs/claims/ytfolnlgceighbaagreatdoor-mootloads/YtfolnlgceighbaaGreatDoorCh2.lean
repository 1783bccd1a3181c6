/- Chains: give, walked. -/
import Derived.Test.YtfolnlgceighbaaGreatDoorCh1
import Derived.Laws.AppendOwnNone
namespace Go.Proofs.YtfolnlgceighbaaGreatDoor
section
open Go.RowKit
attribute [local go_sem ↓] Go.wp_at_zero Go.wp_at_succ

/-- Owners as cells. -/
def owL (l : List Nat) : List Value := l.map fun (n : Nat) => Value.int .i64 (n : Int)
theorem owL_len (l : List Nat) : (owL l).length = l.length := by simp [owL]
theorem owL_at (l : List Nat) (k t : Nat) (h : l[k]? = some t) : (owL l)[k]? = some (.int .i64 t) := by simp [owL, h]
theorem owL_set (l : List Nat) (k v : Nat) : (owL l).set k (.int .i64 v) = owL (l.set k v) := by
  unfold owL; rw [List.map_set]
theorem owL_ones (l : List Nat) : (owL l).toArray.all (·.oneCell') = true := all_oneCell_toArray (by intro v hv; simp [owL] at hv; obtain ⟨n, _, rfl⟩ := hv; rfl)
theorem four_of {l : List Nat} (h : l.length = 4) : ∃ a b c d, l = [a, b, c, d] := by
  match l, h with
  | [a, b, c, d], _ => exact ⟨a, b, c, d, rfl⟩
theorem isIn_zi (gs : List Nat) (t : Nat) : isIn (zi gs) (t : Int) = gs.contains t := by
  unfold isIn zi
  induction gs with
  | nil => rfl
  | cons a r ih => rw [List.map_cons, List.contains_cons, List.contains_cons, ih]; congr 1
                   by_cases e : t = a
                   · subst e; simp
                   · have e2 : (t : Int) ≠ a := by omega
                     rw [beq_eq_false_iff_ne.2 e2, beq_eq_false_iff_ne.2 e]
theorem count_list (l : List Nat) (hl : l.length = 4) (h4 : ∀ x ∈ l, x ≤ 4) (w : World) :
    Calls Tryz.prog 45 #[.agg (owL l).toArray] w fun e W' => e = .returned (.agg (lds (cnt l))) ∧ Below w.heap.size w W' := by
  obtain ⟨a, b, c, d, rfl⟩ := four_of hl
  exact count_any a b c d (h4 a (by simp)) (h4 b (by simp)) (h4 c (by simp)) (h4 d (by simp)) w
theorem fewF_mem (f : Nat → Nat) (gs : List Nat) (h : 0 < gs.length) : fewF f gs ∈ gs := by
  cases gs with
  | nil => simp at h
  | cons g r =>
    have : ∀ (r : List Nat) (g : Nat), r.foldl (fewSt f) g = g ∨ r.foldl (fewSt f) g ∈ r := by
      intro r
      induction r with
      | nil => intro g; left; rfl
      | cons a r ih =>
        intro g
        rw [List.foldl_cons]
        rcases ih (fewSt f g a) with h | h
        · rw [h]; unfold fewSt; split
          · right; simp
          · left; rfl
        · right; simp [h]
    rcases this r g with h | h
    · show r.foldl (fewSt f) g ∈ _; rw [h]; simp
    · show r.foldl (fewSt f) g ∈ _; exact List.mem_cons_of_mem _ h
theorem manyF_mem (f : Nat → Nat) (gs : List Nat) (h : 0 < gs.length) : manyF f gs ∈ gs := by
  cases gs with
  | nil => simp at h
  | cons g r =>
    have : ∀ (r : List Nat) (g : Nat), r.foldl (manySt f) g = g ∨ r.foldl (manySt f) g ∈ r := by
      intro r
      induction r with
      | nil => intro g; left; rfl
      | cons a r ih =>
        intro g
        rw [List.foldl_cons]
        rcases ih (manySt f g a) with h | h
        · rw [h]; unfold manySt; split
          · right; simp
          · left; rfl
        · right; simp [h]
    rcases this r g with h | h
    · show r.foldl (manySt f) g ∈ _; rw [h]; simp
    · show r.foldl (manySt f) g ∈ _; exact List.mem_cons_of_mem _ h
/-- k shards given. -/
def giveSt (gs o : List Nat) (i : Nat) : List Nat := if gs.contains (o.getD i 0) then o else o.set i (fewG gs o)
def giveTo (gs o : List Nat) (k : Nat) : List Nat := (List.range k).foldl (giveSt gs) o
theorem giveTo_succ (gs o : List Nat) (k : Nat) : giveTo gs o (k + 1) = giveSt gs (giveTo gs o k) k := by
  unfold giveTo; rw [List.range_succ, List.foldl_append]; rfl
theorem giveTo_four (gs o : List Nat) : giveTo gs o 4 = giveG gs o := rfl
theorem giveSt_ok (gs o : List Nat) (k : Nat) (hl : 0 < gs.length) (hg : ∀ x ∈ gs, x ≤ 4) (h1 : o.length = 4) (h2 : ∀ x ∈ o, x ≤ 4) : (giveSt gs o k).length = 4 ∧ ∀ x ∈ giveSt gs o k, x ≤ 4 := by
  unfold giveSt
  split
  · exact ⟨h1, h2⟩
  · refine ⟨by simp [h1], fun x hx => ?_⟩
    rcases List.mem_or_eq_of_mem_set hx with h | h
    · exact h2 x h
    · subst h; rw [fewG_eq]; exact hg _ (fewF_mem _ _ hl)
theorem giveTo_ok (gs o : List Nat) (k : Nat) (hl : 0 < gs.length) (hg : ∀ x ∈ gs, x ≤ 4) (h1 : o.length = 4) (h2 : ∀ x ∈ o, x ≤ 4) : (giveTo gs o k).length = 4 ∧ ∀ x ∈ giveTo gs o k, x ≤ 4 := by
  induction k with
  | zero => exact ⟨h1, h2⟩
  | succ k ih => rw [giveTo_succ]; exact giveSt_ok gs _ k hl hg ih.1 ih.2
theorem zero_ow : (#[Value.int .i64 0, .int .i64 0, .int .i64 0, .int .i64 0] : Array Value) = (owL [0, 0, 0, 0]).toArray := rfl
set_option maxRecDepth 20000 in
set_option maxHeartbeats 4000000 in
theorem give_any (gs o : List Nat) (hl : 0 < gs.length) (hl2 : gs.length ≤ 1000) (hg : ∀ x ∈ gs, x ≤ 4) (h1 : o.length = 4) (h2 : ∀ x ∈ o, x ≤ 4) (gv : Value) (w : World) (hu : Il w gv (zi gs)) :
    Calls Tryz.prog 85 #[gv, .agg (owL o).toArray] w fun e W' => e = .returned (.agg (owL (giveG gs o)).toArray) ∧ Below w.heap.size w W' := by
  rw [← giveTo_four]
  have hok := fun k => giveTo_ok gs o k hl hg h1 h2
  obtain ⟨W0, hW0⟩ : ∃ W, (w.alloc (.cells (owL o).toArray 23)).alloc (.cells (owL [0, 0, 0, 0]).toArray 23) = W := ⟨_, rfl⟩
  have hb0 : Below w.heap.size w W0 := by
    rw [← hW0]
    exact ((Below.refl _ w).alloc (Nat.le_refl _) _).alloc (by simp) _
  have r0 : W0.heap[w.heap.size]? = some (.cells (owL o).toArray 23) := by
    rw [← hW0]
    exact (Below.heap_alloc _ _ _ (by simp)).trans (heap_alloc_new _ _)
  have r1 : W0.heap[w.heap.size + 1]? = some (.cells (owL [0, 0, 0, 0]).toArray 23) := by
    rw [← hW0]
    have := heap_alloc_new (w.alloc (.cells (owL o).toArray 23)) (.cells (owL [0, 0, 0, 0]).toArray 23)
    rwa [show (w.alloc (.cells (owL o).toArray 23)).heap.size = w.heap.size + 1 by simp] at this
  have HV : Hid ((w.alloc (.cells (owL o).toArray 23)).alloc (.cells (owL [0, 0, 0, 0]).toArray 23) = W0) := hW0
  have HR0 : Hid (W0.heap[w.heap.size]? = some (.cells (owL o).toArray 23)) := r0
  have HR1 : Hid (W0.heap[w.heap.size + 1]? = some (.cells (owL [0, 0, 0, 0]).toArray 23)) := r1
  have Hok : Hid (∀ k, (giveTo gs o k).length = 4 ∧ ∀ x ∈ giveTo gs o k, x ≤ 4) := hok
  have Hg : Hid (∀ x ∈ gs, x ≤ 4) := hg
  have Hu : Hid (Il w gv (zi gs)) := hu
  obtain ⟨pa, pc, hpv⟩ := hu.slice
  rw [zi_len] at hpv
  obtain ⟨oc, hoc⟩ : ∃ oc, (owL o).toArray = oc := ⟨_, rfl⟩
  have HOC : Hid ((owL o).toArray = oc) := hoc
  rw [hoc] at HV HR0 ⊢
  clear hW0 r0 r1 hok hg h1 h2 hu hoc
  subst hpv
  go_enter Tryz.func85, Tryz.ntmps85
  go_upto_region 1 with fail
  rw [zero_ow, HV.out]
  clear HV
  go_wp2_with fail
  go_loopg [6] 4 (fun gk i wr => ∃ k : Nat, k + gk = 4 ∧ i = .int .i64 k ∧ Below w.heap.size w wr ∧ wr.heap[w.heap.size]? = some (.cells (owL (giveTo gs o k)).toArray 23) ∧ wr.heap[w.heap.size + 1]? = some (.cells (owL [0, 0, 0, 0]).toArray 23))
  case atStart => exact ⟨0, by omega, rfl, hb0, by rw [HR0.out, ← HOC.out]; rfl, HR1.out⟩
  case round =>
    obtain ⟨k, hk, rfl, hB, q0, q1⟩ := hrel
    clear HR0 HR1 hb0
    obtain ⟨n4, n5⟩ := Hok.out k
    have hu1 := Hu.out.next hB
    by_cases hlt : k < 4
    · have HS : Hid (giveTo gs o (k + 1) = giveSt gs (giveTo gs o k) k) := giveTo_succ gs o k
      obtain ⟨cur, hcur⟩ : ∃ cur, giveTo gs o k = cur := ⟨_, rfl⟩
      rw [hcur] at HS q0 n4 n5
      obtain ⟨t, ht⟩ : ∃ t, cur[k]? = some t := ⟨_, List.getElem?_eq_getElem (by omega)⟩
      have hgd : cur.getD k 0 = t := by rw [List.getD_eq_getElem?_getD, ht]; rfl
      have x1 := cellB q0 k _ (by rw [List.getElem?_toArray]; exact owL_at cur k t ht)
      have k0 : (0 : Int) ≤ (k : Int) := by omega
      have k1 : (k : Int) < 4 := by omega
      have hC := Contains_any (zi gs) t _ wr hu1 (by rw [zi_len]; exact hl2)
      rw [isIn_zi] at hC
      have Q0 : Hid (wr.heap[w.heap.size]? = some (.cells (owL cur).toArray 23)) := q0
      have Q1 : Hid (wr.heap[w.heap.size + 1]? = some (.cells (owL [0, 0, 0, 0]).toArray 23)) := q1
      by_cases hc : gs.contains t = true
      · rw [hc] at hC
        have HT : Hid (giveTo gs o (k + 1) = cur) := by show _ = _; rw [HS.out]; unfold giveSt; rw [hgd, if_pos hc]
        clear hc HS hcur hgd ht q0 q1 n4 n5 hu1
        go_wp2_with (first | (go_at_call 63; refine hC.mono ?_; rintro e w1 ⟨rfl, h9⟩; subst w1))
        go_roundg (4 - (k + 1))
        case measure => omega
        case rel => exact ⟨k + 1, by omega, by go_num, hB, by rw [HT.out]; exact Q0.out, Q1.out⟩
      · have hc' : gs.contains t = false := by simpa using hc
        rw [hc'] at hC
        have HT : Hid (giveTo gs o (k + 1) = cur.set k (fewF (cnt cur) gs)) := by show _ = _; rw [HS.out]; unfold giveSt; rw [hgd, if_neg hc, fewG_eq]
        have hN := count_list cur n4 n5 wr
        have hF := fun W (h : Below wr.heap.size wr W) => fewest_any (cnt cur) gs Hg.out hl hl2 (.slice pa gs.length pc) W (hu1.next h)
        obtain ⟨m, hm⟩ : ∃ m, fewF (cnt cur) gs = m := ⟨_, rfl⟩
        rw [hm] at HT hF
        have K1 : Hid (wr.rangeAt w.heap.size 0 (owL cur)) := blk_range q0
        have S4 : Hid ((Tryz.prog.info? 23).map (·.size) = some (owL cur).length) := by show _ = _; rw [owL_len, n4]; exact Tryz.size23
        have szw : w.heap.size + 1 < wr.heap.size := (Array.getElem?_eq_some_iff.1 q1).1
        have HE : Hid (∀ W, Below wr.heap.size wr W → W.heap[w.heap.size]? = some (.cells (owL cur).toArray 23)) := fun W h => (h.block _ (by omega)).trans q0
        have HE1 : Hid (∀ W, Below wr.heap.size wr W → W.heap[w.heap.size + 1]? = some (.cells (owL [0, 0, 0, 0]).toArray 23)) := fun W h => (h.block _ (by omega)).trans q1
        have HSet : Hid ((owL cur).toArray.setIfInBounds k (.int .i64 (m : Int)) = (owL (cur.set k m)).toArray) := by
          show _ = _
          rw [← owL_set]; simp
        have ex : (∃ v, (owL cur)[k]? = some v) := ⟨_, owL_at cur k t ht⟩
        obtain ⟨cv, hcv⟩ : ∃ cv, (owL cur).toArray = cv := ⟨_, rfl⟩
        rw [hcv] at hN
        have HCV : Hid ((owL cur).toArray = cv) := hcv
        clear hc hc' HS hcur hgd q0 q1 n4 n5 hu1 hm hcv ex
        go_wp2_with (first
          | (go_at_call 63; refine hC.mono ?_; rintro e w1 ⟨rfl, h9⟩; subst w1)
          | (refine wpList_load_mid rfl 23 _ rfl w.heap.size 0 rfl (owL cur) _ K1.out Tryz.underlying23 rfl S4.out ?_; rw [HCV.out])
          | (go_at_call 45; refine hN.mono ?_; rintro e w2 ⟨rfl, hb2⟩)
          | (go_at_call 100; refine (hF _ hb2).mono ?_; rintro e w3 ⟨rfl, hb3⟩; have hb4 := hb2.trans (hb3.mono hb2.size); have z1 := cellB (HE.out _ hb4) k _ (by rw [List.getElem?_toArray]; exact owL_at cur k t ht); have z2 := frozenB (HE.out _ hb4) k))
        go_roundg (4 - (k + 1))
        case measure => omega
        case rel =>
          refine ⟨k + 1, by omega, by go_num, (hB.trans (hb4.mono hB.size)).setCell (Nat.le_refl _) _, ?_, (set_far (by omega) _ _).trans (HE1.out _ hb4)⟩
          rw [HT.out, ← HSet.out]
          exact setB (HE.out _ hb4) k _
    · have hkl : k = 4 := by omega
      subst hkl
      obtain ⟨R, hR⟩ : ∃ R, giveTo gs o 4 = R := ⟨_, rfl⟩
      rw [hR] at q0 n4
      have K1 : Hid (wr.rangeAt w.heap.size 0 (owL R)) := blk_range q0
      have S4 : Hid ((Tryz.prog.info? 23).map (·.size) = some (owL R).length) := by show _ = _; rw [owL_len, n4]; exact Tryz.size23
      have S5 : Hid ((Tryz.prog.info? 23).map (·.size) = some (owL R).toArray.size) := by show _ = _; rw [List.size_toArray]; exact S4.out
      have K2 : Hid (wr.there (w.heap.size + 1) 0 (owL R).toArray.size) := by show World.there _ _ _ _; rw [show (owL R).toArray.size = 4 by rw [List.size_toArray, owL_len, n4]]; exact blk_there q1 0 4 (Nat.le_refl _)
      have K3 : Hid (Below w.heap.size w (wr.setCells (w.heap.size + 1) 0 (owL R).toArray.toList)) := blk_below (by omega) _ _ _ hB
      have K4 : Hid ((wr.setCells (w.heap.size + 1) 0 (owL R).toArray.toList).rangeAt (w.heap.size + 1) 0 (owL R)) := blk_range (blk_set q1 (L := (owL R)) (by rw [owL_len, n4]; rfl))
      have L4 : Hid ((owL R).length = 4) := by show _ = _; rw [owL_len, n4]
      have HRR : Hid (giveTo gs o 4 = R) := hR
      clear q0 q1 n4 n5 hR hu1
      go_wp2_with (first
        | (refine wpList_load_mid rfl 23 _ rfl w.heap.size 0 rfl (owL R) _ K1.out Tryz.underlying23 rfl S4.out ?_)
        | (refine wpList_store_mid rfl 23 _ _ rfl (w.heap.size + 1) 0 (owL R).toArray rfl rfl K2.out S5.out (owL_ones R) ?_))
      exact bodyPost_ret (v := .agg (owL R).toArray) (results_one rfl rfl (res23 K4.out L4.out)) rfl ⟨by rw [HRR.out], K3.out⟩
end
section
open Go.RowKit
attribute [local go_sem ↓] Go.wp_at_zero Go.wp_at_succ

/-- A world behind W0: all that stood there stands there. -/
structure Cw (W0 : World) where
  w : World
  h : Below W0.heap.size W0 w
theorem wp_region_grow {P : Program} {id : Nat} {Q : Exit → Act → World → Prop} {a : Act} {w W0 : World} {l : List Oper} (hm : P.follows .mixedOrders = true) (hB : Region.lexB .any l.toArray = true) (hw : Below W0.heap.size W0 w)
    (h : wpQuiet P l.toArray (fun w' => ∃ x : Cw W0, w' = x.w) (fun a' => ∀ w', (∃ x : Cw W0, w' = x.w) → Q .normal a' w') l a) : (Code.region id l.toArray true).wp P Q a w :=
  wp_region_quiet (C := fun w' => ∃ x : Cw W0, w' = x.w) hm hB ⟨⟨_, below_drew hw⟩, rfl⟩ (by simpa using h)
theorem growC {k : Nat} {args : Array Value} {v : Value} {W0 : World} (hC : ∀ W, Below W0.heap.size W0 W → Calls Tryz.prog k args W fun e W' => e = .returned v ∧ Below W.heap.size W W') (x : Cw W0) :
    Calls Tryz.prog k args x.w fun e w'' => e = .returned v ∧ ∃ y : Cw W0, w'' = y.w := by
  refine (hC x.w x.h).mono ?_
  rintro e W' ⟨rfl, hb⟩
  exact ⟨rfl, ⟨W', x.h.trans (hb.mono x.h.size)⟩, rfl⟩
/-- Shards go from group to group till none has two more: in fewer than n rounds. -/
def evS : Nat → List Nat → List Nat → Option (List Nat)
  | 0, _, _ => none
  | n + 1, gs, o => if cnt o (manyF (cnt o) gs) < cnt o (fewF (cnt o) gs) + 2 then some o else evS n gs (o.set (o.idxOf (manyF (cnt o) gs)) (fewF (cnt o) gs))
theorem cnt_mem (l : List Nat) (g : Nat) : 0 < cnt l g → g ∈ l := by
  have : ∀ (l : List Nat) (n : Nat), g ∉ l → l.foldl (fun n x => if x == g then n + 1 else n) n = n := by
    intro l
    induction l with
    | nil => intro n _; rfl
    | cons a r ih =>
      intro n h
      simp at h
      rw [List.foldl_cons, ih _ h.2, if_neg (by simp; exact fun e => h.1 e.symm)]
  intro h
  apply Decidable.byContradiction
  intro hn
  have := this l 0 hn
  unfold cnt at h
  omega
theorem idxI_idxOf (l : List Nat) (g : Nat) (h : g ∈ l) : idxI (zi l) (g : Int) = (l.idxOf g : Nat) ∧ l.idxOf g < l.length := by
  induction l with
  | nil => cases h
  | cons a r ih =>
    show idxI ((a : Int) :: zi r) g = _ ∧ _
    unfold idxI
    by_cases e : g = a
    · subst e
      rw [if_pos rfl]
      simp
    · have e2 : (g : Int) ≠ a := by omega
      have e3 : (a == g) = false := by simp; exact fun h => e h.symm
      rw [if_neg e2]
      obtain ⟨i1, i2⟩ := ih (by simp at h; rcases h with h | h; exact absurd h e; exact h)
      rw [i1, if_neg (by omega), List.idxOf_cons, e3]
      refine ⟨by simp, by simp; exact i2⟩
set_option maxRecDepth 20000 in
set_option maxHeartbeats 8000000 in
theorem even_any (gs o R : List Nat) (n : Nat) (hR : evS n gs o = some R) (hl : 0 < gs.length) (hl2 : gs.length ≤ 1000) (hg : ∀ x ∈ gs, x ≤ 4) (h1 : o.length = 4) (h2 : ∀ x ∈ o, x ≤ 4) (gv : Value) (w : World) (hu : Il w gv (zi gs)) :
    Calls Tryz.prog 84 #[gv, .agg (owL o).toArray] w fun e W' => e = .returned (.agg (owL R).toArray) ∧ Below w.heap.size w W' := by
  obtain ⟨W0, hW0⟩ : ∃ W, (w.alloc (.cells (owL o).toArray 23)).alloc (.cells (owL [0, 0, 0, 0]).toArray 23) = W := ⟨_, rfl⟩
  have hb0 : Below w.heap.size w W0 := by
    rw [← hW0]
    exact ((Below.refl _ w).alloc (Nat.le_refl _) _).alloc (by simp) _
  have r0 : W0.heap[w.heap.size]? = some (.cells (owL o).toArray 23) := by
    rw [← hW0]
    exact (Below.heap_alloc _ _ _ (by simp)).trans (heap_alloc_new _ _)
  have r1 : W0.heap[w.heap.size + 1]? = some (.cells (owL [0, 0, 0, 0]).toArray 23) := by
    rw [← hW0]
    have := heap_alloc_new (w.alloc (.cells (owL o).toArray 23)) (.cells (owL [0, 0, 0, 0]).toArray 23)
    rwa [show (w.alloc (.cells (owL o).toArray 23)).heap.size = w.heap.size + 1 by simp] at this
  have HV : Hid ((w.alloc (.cells (owL o).toArray 23)).alloc (.cells (owL [0, 0, 0, 0]).toArray 23) = W0) := hW0
  have HR0 : Hid (W0.heap[w.heap.size]? = some (.cells (owL o).toArray 23)) := r0
  have HR1 : Hid (W0.heap[w.heap.size + 1]? = some (.cells (owL [0, 0, 0, 0]).toArray 23)) := r1
  have Hg : Hid (∀ x ∈ gs, x ≤ 4) := hg
  have Hu : Hid (Il w gv (zi gs)) := hu
  have HX : Hid (evS n gs o = some R ∧ o.length = 4 ∧ ∀ x ∈ o, x ≤ 4) := ⟨hR, h1, h2⟩
  obtain ⟨pa, pc, hpv⟩ := hu.slice
  rw [zi_len] at hpv
  obtain ⟨oc, hoc⟩ : ∃ oc, (owL o).toArray = oc := ⟨_, rfl⟩
  have HOC : Hid ((owL o).toArray = oc) := hoc
  rw [hoc] at HV HR0 ⊢
  clear hW0 r0 r1 hg h1 h2 hu hoc hR
  subst hpv
  go_enter Tryz.func84, Tryz.ntmps84
  go_upto_region 1 with fail
  rw [zero_ow, HV.out]
  clear HV
  go_loopg [] n (fun gk wr => ∃ cur : List Nat, (evS gk gs cur = some R ∧ cur.length = 4 ∧ ∀ x ∈ cur, x ≤ 4) ∧ Below w.heap.size w wr ∧ wr.heap[w.heap.size]? = some (.cells (owL cur).toArray 23) ∧ wr.heap[w.heap.size + 1]? = some (.cells (owL [0, 0, 0, 0]).toArray 23))
  case atStart => exact ⟨o, HX.out, hb0, by rw [HR0.out, ← HOC.out], HR1.out⟩
  case round =>
    obtain ⟨cur, ⟨hev, n4, n5⟩, hB, q0, q1⟩ := hrel
    clear HR0 HR1 hb0 HX HOC
    cases gk with
    | zero => cases hev
    | succ g =>
      obtain ⟨f, hf⟩ : ∃ f, cnt cur = f := ⟨_, rfl⟩
      have hN := count_list cur n4 n5 wr
      obtain ⟨a, ha⟩ : ∃ a, manyF f gs = a := ⟨_, rfl⟩
      obtain ⟨b, hb⟩ : ∃ b, fewF f gs = b := ⟨_, rfl⟩
      have a4 : a ≤ 4 := by rw [← ha]; exact Hg.out _ (manyF_mem _ _ hl)
      have b4 : b ≤ 4 := by rw [← hb]; exact Hg.out _ (fewF_mem _ _ hl)
      have fb4 : f b ≤ 4 := by rw [← hf]; exact Nat.le_trans (cnt_le _ _) (by omega)
      have fa4 : f a ≤ 4 := by rw [← hf]; exact Nat.le_trans (cnt_le _ _) (by omega)
      have hev2 : (if f a < f b + 2 then some cur else evS g gs (cur.set (cur.idxOf a) b)) = some R := by
        unfold evS at hev
        rw [hf, ha, hb] at hev
        exact hev
      have hmem : ¬ f a < f b + 2 → idxI (zi cur) (a : Int) = (cur.idxOf a : Nat) ∧ cur.idxOf a < cur.length := fun h => idxI_idxOf cur a (cnt_mem cur a (by rw [hf]; omega))
      have HM : Hid (¬ f a < f b + 2 → idxI (zi cur) (a : Int) = (cur.idxOf a : Nat) ∧ cur.idxOf a < cur.length) := hmem
      have HE2 : Hid ((if f a < f b + 2 then some cur else evS g gs (cur.set (cur.idxOf a) b)) = some R) := hev2
      rw [hf] at hN
      have hu1 := Hu.out.next hB
      have hMo := fun W (h : Below wr.heap.size wr W) => most_any f gs Hg.out hl hl2 (.slice pa gs.length pc) W (hu1.next h)
      have hFe := fun W (h : Below wr.heap.size wr W) => fewest_any f gs Hg.out hl hl2 (.slice pa gs.length pc) W (hu1.next h)
      rw [ha] at hMo
      rw [hb] at hFe
      have szw : w.heap.size + 1 < wr.heap.size := (Array.getElem?_eq_some_iff.1 q1).1
      have HB3 : Hid (∀ W, Below wr.heap.size wr W → W.heap[w.heap.size]? = some (.cells (owL cur).toArray 23)) := fun W h => (h.block _ (by omega)).trans q0
      have HB4 : Hid (∀ W, Below wr.heap.size wr W → W.heap[w.heap.size + 1]? = some (.cells (owL [0, 0, 0, 0]).toArray 23)) := fun W h => (h.block _ (by omega)).trans q1
      have K1 : Hid (wr.rangeAt w.heap.size 0 (owL cur)) := blk_range q0
      have S4 : Hid ((Tryz.prog.info? 23).map (·.size) = some (owL cur).length) := by show _ = _; rw [owL_len, n4]; exact Tryz.size23
      have N45 : Hid (cur.length = 4 ∧ ∀ x ∈ cur, x ≤ 4) := ⟨n4, n5⟩
      obtain ⟨cv, hcv⟩ : ∃ cv, (owL cur).toArray = cv := ⟨_, rfl⟩
      rw [hcv] at hN
      have HCV : Hid ((owL cur).toArray = cv) := hcv
      clear hev hev2 hmem n4 n5 q0 q1 hf ha hb hcv hu1
      go_upto_region 2 with (first
        | (refine wpList_load_mid rfl 23 _ rfl w.heap.size 0 rfl (owL cur) _ K1.out Tryz.underlying23 rfl S4.out ?_; rw [HCV.out])
        | (go_at_call 45; refine hN.mono ?_; rintro e w2 ⟨rfl, hb2⟩)
        | (refine wpList_store_mid rfl 88 _ _ rfl w2.heap.size 0 (lds f) rfl rfl (blk_there (heap_alloc_new w2 _) 0 5 (Nat.le_refl _)) Tryz.size88 (ones_lds f) ?_))
      have hb3 : Below wr.heap.size wr ((w2.alloc (.cells (lds (cnt [])) 88)).setCells w2.heap.size 0 (lds f).toList) := blk_below hb2.size _ _ _ (hb2.alloc hb2.size _)
      have r5 := blk_set (heap_alloc_new w2 (.cells (lds (cnt [])) 88)) (L := (lds f).toList) rfl
      rw [zero_lds]
      obtain ⟨W2, hW2⟩ : ∃ W, (w2.alloc (.cells (lds (cnt [])) 88)).setCells w2.heap.size 0 (lds f).toList = W := ⟨_, rfl⟩
      rw [hW2] at hb3 r5 ⊢
      obtain ⟨B5, hB5⟩ : ∃ B, w2.heap.size = B := ⟨_, rfl⟩
      rw [hB5] at r5 ⊢
      have H5 : Hid (∀ W, Below W2.heap.size W2 W → W.heap[B5]? = some (.cells (lds f) 88)) := fun W h => (h.block _ (Array.getElem?_eq_some_iff.1 r5).1).trans r5
      have gM := fun x : Cw W2 => growC (W0 := W2) (fun W h => hMo W (hb3.trans (h.mono hb3.size))) x
      have gF := fun x : Cw W2 => growC (W0 := W2) (fun W h => hFe W (hb3.trans (h.mono hb3.size))) x
      have g0 : ∀ x : Cw W2, x.w.cell? ⟨B5, 0, none⟩ = some (.int .i64 (f 0)) := fun x => cellB (H5.out _ x.h) 0 _ rfl
      have g1 : ∀ x : Cw W2, x.w.cell? ⟨B5, 1, none⟩ = some (.int .i64 (f 1)) := fun x => cellB (H5.out _ x.h) 1 _ rfl
      have g2 : ∀ x : Cw W2, x.w.cell? ⟨B5, 2, none⟩ = some (.int .i64 (f 2)) := fun x => cellB (H5.out _ x.h) 2 _ rfl
      have g3 : ∀ x : Cw W2, x.w.cell? ⟨B5, 3, none⟩ = some (.int .i64 (f 3)) := fun x => cellB (H5.out _ x.h) 3 _ rfl
      have g4 : ∀ x : Cw W2, x.w.cell? ⟨B5, 4, none⟩ = some (.int .i64 (f 4)) := fun x => cellB (H5.out _ x.h) 4 _ rfl
      have hne : Nonempty (Cw W2) := ⟨⟨W2, Below.refl _ _⟩⟩
      clear r5 hW2 hB5 hMo hFe hN
      refine wp_region_grow (W0 := W2) (by kernel_rfl) (by kernel_rfl) (Below.refl _ _) ?_
      repeat (quiet_step (first
        | (go_at_call 99; exact gM _)
        | (go_at_call 100; exact gF _)))
      refine wpQuiet_nil ?_
      rintro _ ⟨xx, rfl⟩
      clear g0 g1 g2 g3 g4 gM gF
      have x1 := cellB (H5.out _ xx.h) a _ (lds_at f a a4)
      have x2 := cellB (H5.out _ xx.h) b _ (lds_at f b b4)
      have a5 : a < 5 := by omega
      have b5 : b < 5 := by omega
      obtain ⟨q, hq⟩ : ∃ q : Int, (f b : Int) + 2 = q := ⟨_, rfl⟩
      have e1 : IntKind.i64.wrap ((f b : Int) + 2) = q := by rw [hq]; simp [IntKind.wrap, IntKind.bits, IntKind.signed]; omega
      have hbx : Below wr.heap.size wr xx.w := hb3.trans (xx.h.mono hb3.size)
      have HBX : Hid (Below wr.heap.size wr xx.w) := hbx
      by_cases hc : f a < f b + 2
      · have hd : decide ((f a : Int) < q) = true := by simp; omega
        have HCR : Hid (cur = R) := by have := HE2.out; rw [if_pos hc] at this; exact Option.some.inj this
        clear hc hbx
        go_upto_region 3 with fail
        go_quiet (fail)
        have hbq := below_drewN HBX.out nq
        obtain ⟨WQ, hWQ⟩ : ∃ W, xx.w.drewN nq = W := ⟨_, rfl⟩
        rw [hWQ] at hbq ⊢
        have q0 := HB3.out _ hbq
        have q1 := HB4.out _ hbq
        have hB9 := hB.trans (hbq.mono hB.size)
        have n4 := N45.out.1
        have K1 : Hid (WQ.rangeAt w.heap.size 0 (owL cur)) := blk_range q0
        have S5 : Hid ((Tryz.prog.info? 23).map (·.size) = some (owL cur).toArray.size) := by show _ = _; rw [List.size_toArray]; exact S4.out
        have K2 : Hid (WQ.there (w.heap.size + 1) 0 (owL cur).toArray.size) := by show World.there _ _ _ _; rw [show (owL cur).toArray.size = 4 by rw [List.size_toArray, owL_len, n4]]; exact blk_there q1 0 4 (Nat.le_refl _)
        have K3 : Hid (Below w.heap.size w (WQ.setCells (w.heap.size + 1) 0 (owL cur).toArray.toList)) := blk_below (by omega) _ _ _ hB9
        have K4 : Hid ((WQ.setCells (w.heap.size + 1) 0 (owL cur).toArray.toList).rangeAt (w.heap.size + 1) 0 (owL cur)) := blk_range (blk_set q1 (L := (owL cur)) (by rw [owL_len, n4]; rfl))
        have L4 : Hid ((owL cur).length = 4) := by show _ = _; rw [owL_len, n4]
        clear q0 q1 n4 hWQ hbq hB9 x1 x2
        go_wp2_with (first
          | (refine wpList_load_mid rfl 23 _ rfl w.heap.size 0 rfl (owL cur) _ K1.out Tryz.underlying23 rfl S4.out ?_)
          | (refine wpList_store_mid rfl 23 _ _ rfl (w.heap.size + 1) 0 (owL cur).toArray rfl rfl K2.out S5.out (owL_ones cur) ?_))
        exact bodyPost_ret (v := .agg (owL cur).toArray) (results_one rfl rfl (res23 K4.out L4.out)) rfl ⟨by rw [HCR.out], K3.out⟩
      · have hd : decide ((f a : Int) < q) = false := by simp; omega
        have HCR : Hid (evS g gs (cur.set (cur.idxOf a) b) = some R) := by have := HE2.out; rw [if_neg hc] at this; exact this
        clear hbx
        go_upto_region 3 with fail
        go_quiet (fail)
        have hbq := below_drewN HBX.out nq
        obtain ⟨WQ, hWQ⟩ : ∃ W, xx.w.drewN nq = W := ⟨_, rfl⟩
        rw [hWQ] at hbq ⊢
        have q0 := HB3.out _ hbq
        have q1 := HB4.out _ hbq
        have hB9 := hB.trans (hbq.mono hB.size)
        obtain ⟨n4, n5⟩ := N45.out
        obtain ⟨m1, m2⟩ := HM.out hc
        have hil : Il WQ (.slice (some ⟨w.heap.size, 0, none⟩) 4 4) (zi cur) := by
          refine .inr ⟨w.heap.size, 0, 4, by rw [zi_len, n4], (Array.getElem?_eq_some_iff.1 q0).1, fun i t ht => ?_⟩
          rw [Nat.zero_add]
          obtain ⟨t', ht', rfl⟩ : ∃ t' : Nat, cur[i]? = some t' ∧ (t' : Int) = t := by
            unfold zi at ht
            rw [List.getElem?_map] at ht
            cases h9 : cur[i]? with
            | none => rw [h9] at ht; cases ht
            | some t' => rw [h9] at ht; exact ⟨t', rfl, Option.some.inj ht⟩
          exact cellB q0 i _ (by rw [List.getElem?_toArray]; exact owL_at cur i t' ht')
        have hI := Index_any (zi cur) a _ WQ hil (by rw [zi_len]; omega)
        rw [m1] at hI
        obtain ⟨i, hi⟩ : ∃ i, cur.idxOf a = i := ⟨_, rfl⟩
        rw [hi] at hI m2 HCR
        have i4 : i < 4 := by omega
        have i0 : (0 : Int) ≤ (i : Int) := by omega
        have i1 : (i : Int) < 4 := by omega
        obtain ⟨t, ht⟩ : ∃ t, cur[i]? = some t := ⟨_, List.getElem?_eq_getElem (by omega)⟩
        have z1 := cellB q0 i _ (by rw [List.getElem?_toArray]; exact owL_at cur i t ht)
        have z2 := frozenB q0 i
        have HSet : Hid ((owL cur).toArray.setIfInBounds i (.int .i64 (b : Int)) = (owL (cur.set i b)).toArray) := by
          show _ = _
          rw [← owL_set]; simp
        have HF : Hid ((cur.set i b).length = 4 ∧ ∀ x ∈ cur.set i b, x ≤ 4) := by
          refine ⟨by simp [n4], fun x hx => ?_⟩
          rcases List.mem_or_eq_of_mem_set hx with h | h
          · exact n5 x h
          · omega
        have Q0 : Hid (WQ.heap[w.heap.size]? = some (.cells (owL cur).toArray 23)) := q0
        have Q1 : Hid (WQ.heap[w.heap.size + 1]? = some (.cells (owL [0, 0, 0, 0]).toArray 23)) := q1
        clear q0 q1 n4 n5 hWQ hbq x1 x2 m1 m2 hil ht hi hc
        go_wp2_with (first
          | (go_at_call 78; refine hI.mono ?_; rintro e w4 ⟨rfl, h9⟩; subst w4))
        go_roundg g
        case measure => omega
        case rel =>
          refine ⟨cur.set i b, ⟨HCR.out, HF.out⟩, hB9.setCell (Nat.le_refl _) _, ?_, (set_far (by omega) _ _).trans Q1.out⟩
          rw [← HSet.out]
          exact setB Q0.out i _
end
section
open Go.RowKit
attribute [local go_sem ↓] Go.wp_at_zero Go.wp_at_succ

theorem Tryz.info3 : (Tryz.prog.info? 3).map (fun i => (i.zero, i.size, i.bytes)) = some (some (.int .i64 0), 1, 8) := by kernel_rfl
theorem zcs_one (l : List Int) : ∀ u ∈ zcs l, u.oneCell' = true := by
  intro v hv; simp [zcs] at hv; obtain ⟨n, _, rfl⟩ := hv; rfl
theorem zcs_back (l : List Int) (j : Nat) (u : Value) (h : (zcs l)[j]? = some u) : ∃ t, l[j]? = some t ∧ u = .int .i64 t := by
  unfold zcs at h
  rw [List.getElem?_map] at h
  cases h9 : l[j]? with
  | none => rw [h9] at h; cases h
  | some t => rw [h9] at h; exact ⟨t, rfl, (Option.some.inj h).symm⟩
theorem owns_empty (w : World) (base : Nat) (hb : base ≤ w.heap.size) : (w.alloc (.cells #[] 3)).ownsRow base 3 1 (.slice (some ⟨w.heap.size, 0, none⟩) 0 0) 0 [] :=
  ⟨rfl, .inr ⟨w.heap.size, 0, #[], rfl, hb, heap_alloc_new _ _, Nat.le_refl _, by unfold maxLen; omega, rfl, rfl⟩⟩
theorem nil_eq (n c : Nat) (w : World) : Sem.run Tryz.prog (binOp BinOp.eql 22 (Value.slice none n c) (Value.slice none 0 0)) w = .ok (.bool true) w := by kernel_rfl
theorem nil_ne (a : Addr) (n c : Nat) (w : World) : Sem.run Tryz.prog (binOp BinOp.eql 22 (Value.slice (some a) n c) (Value.slice none 0 0)) w = .ok (.bool false) w := by kernel_rfl
set_option maxRecDepth 20000 in
set_option maxHeartbeats 2000000 in
theorem Clone_any (ns : List Int) (u : Value) (w : World) (hu : Il w u ns) (hl : ns.length ≤ 1000) :
    Calls Tryz.prog 71 #[u] w fun e W' => ∃ v, e = .returned v ∧ W'.ownsRow w.heap.size 3 1 v ns.length (zcs ns) ∧ Below w.heap.size w W' := by
  obtain ⟨i0, hi, hz0, hz1, hz2⟩ := info_parts Tryz.info3
  have hml : 0 + ns.length ≤ maxLen := by unfold maxLen; omega
  have hkb : (0 + ns.length) * 8 ≤ 140737488355328 := by omega
  rcases hu with ⟨rfl, a, c, rfl⟩ | ⟨b, o, cap, rfl, hlt, hcell⟩
  · cases a with
    | none =>
      have e1 := nil_eq 0 c w
      go_enter Tryz.func71, Tryz.ntmps71
      go_wp2
      go_ret
      exact ⟨_, rfl, World.ownsRow_nil _ _ _ _, Below.refl _ _⟩
    | some ad =>
      have e1 := nil_ne ad 0 c w
      go_enter Tryz.func71, Tryz.ntmps71
      go_wp2_with (first
        | (at_builtin; refine wpList_append_own _ rfl _ _ 22 rfl w.heap.size 3 i0 (.int .i64 0) 1 8 Tryz.underlying22 hi hz0 hz1 hz2 rfl (by decide) _ 0 [] rfl (owns_empty w _ (Nat.le_refl _)) ad 0 c [] rfl rfl (by simp) (by simp) (by unfold maxLen; omega) (by omega) (by simp) ?_; intro v' w' h1 h2 _))
      go_ret
      exact ⟨_, rfl, h1, ((Below.refl w.heap.size w).alloc (Nat.le_refl _) _).grown h2 (by simp) (fun q hq => by cases hq; simp)⟩
  · have hN : ∀ j u, (zcs ns)[j]? = some u → (w.alloc (.cells #[] 3)).cell? ((⟨b, o, none⟩ : Addr).add j) = some u := by
      intro j u h
      obtain ⟨t, ht, rfl⟩ := zcs_back ns j u h
      rw [Addr.add_mid]
      exact (((Below.refl w.heap.size w).alloc (Nat.le_refl _) _).cell (p := ⟨b, o + j, none⟩) hlt).trans (hcell j t ht)
    have HN : Hid (∀ j u, (zcs ns)[j]? = some u → (w.alloc (.cells #[] 3)).cell? ((⟨b, o, none⟩ : Addr).add j) = some u) := hN
    have e1 := nil_ne ⟨b, o, none⟩ ns.length cap w
    clear hN hcell
    go_enter Tryz.func71, Tryz.ntmps71
    go_wp2_with (first
      | (at_builtin; refine wpList_append_own _ rfl _ _ 22 rfl w.heap.size 3 i0 (.int .i64 0) 1 8 Tryz.underlying22 hi hz0 hz1 hz2 rfl (by decide) _ 0 [] rfl (owns_empty w _ (Nat.le_refl _)) ⟨b, o, none⟩ ns.length cap (zcs ns) rfl (by rw [zcs_len, Nat.mul_one]) HN.out (zcs_one ns) hml hkb (by simp) ?_; intro v' w' h1 h2 _))
    go_ret
    refine ⟨_, rfl, ?_, ((Below.refl w.heap.size w).alloc (Nat.le_refl _) _).grown h2 (by simp) (fun q hq => by cases hq; simp)⟩
    rw [Nat.zero_add, List.nil_append] at h1
    exact h1
/-- A configuration's cells, as a list. -/
abbrev cfL (num : Int) (gv : Value) (a b c d : Int) : List Value := [.int .i64 num, gv, .int .i64 a, .int .i64 b, .int .i64 c, .int .i64 d]
abbrev z25 : List Value := cfL 0 (.slice none 0 0) 0 0 0 0
theorem cf_ones (num : Int) (p : Option Addr) (n k : Nat) (a b c d : Int) : (cf num (.slice p n k) a b c d).all (·.oneCell') = true := by simp [Value.oneCell']
set_option maxRecDepth 20000 in
set_option maxHeartbeats 4000000 in
theorem clone_any (num : Int) (gv : Value) (ns : List Int) (a b c d : Int) (w : World) (hu : Il w gv ns) (hl : ns.length ≤ 1000) :
    Calls Tryz.prog 55 #[.agg (cf num gv a b c d)] w fun e W' => ∃ v, e = .returned (.agg (cf num v a b c d)) ∧ W'.ownsRow w.heap.size 3 1 v ns.length (zcs ns) ∧ Below w.heap.size w W' := by
  obtain ⟨W0, hW0⟩ : ∃ W, (w.alloc (.cells (cf num gv a b c d) 25)).alloc (.cells (cf 0 (.slice none 0 0) 0 0 0 0) 25) = W := ⟨_, rfl⟩
  have hb0 : Below w.heap.size w W0 := by
    rw [← hW0]
    exact ((Below.refl _ w).alloc (Nat.le_refl _) _).alloc (by simp) _
  have hsz : w.heap.size + 2 = W0.heap.size := by rw [← hW0]; simp
  have r0 : W0.heap[w.heap.size]? = some (.cells (cf num gv a b c d) 25) := by
    rw [← hW0]
    exact (Below.heap_alloc _ _ _ (by simp)).trans (heap_alloc_new _ _)
  have r1 : W0.heap[w.heap.size + 1]? = some (.cells (cf 0 (.slice none 0 0) 0 0 0 0) 25) := by
    rw [← hW0]
    have := heap_alloc_new (w.alloc (.cells (cf num gv a b c d) 25)) (.cells (cf 0 (.slice none 0 0) 0 0 0 0) 25)
    rwa [show (w.alloc (.cells (cf num gv a b c d) 25)).heap.size = w.heap.size + 1 by simp] at this
  have HV : Hid ((w.alloc (.cells (cf num gv a b c d) 25)).alloc (.cells (cf 0 (.slice none 0 0) 0 0 0 0) 25) = W0) := hW0
  have hC := Clone_any ns gv W0 (hu.next hb0) hl
  have HB0 : Hid (Below w.heap.size w W0 ∧ w.heap.size + 2 = W0.heap.size ∧ W0.heap[w.heap.size]? = some (.cells (cf num gv a b c d) 25) ∧ W0.heap[w.heap.size + 1]? = some (.cells (cf 0 (.slice none 0 0) 0 0 0 0) 25)) := ⟨hb0, hsz, r0, r1⟩
  have c1 := cellB r0 1 _ rfl
  obtain ⟨pa, pc, rfl⟩ := hu.slice
  clear hW0 hb0 r0 r1 hsz hu
  go_enter Tryz.func55, Tryz.ntmps55
  go_upto_region 1 with fail
  rw [HV.out]
  clear HV
  go_upto_region 2 with (first
    | (go_at_call 71; refine hC.mono ?_; rintro e w1 ⟨v, rfl, ho, hb1⟩; obtain ⟨va, vc, rfl⟩ := owns_slice ho; obtain ⟨hb0, hsz, r0, r1⟩ := HB0.out; have q0 := (hb1.block _ (by omega)).trans r0; have q1 := (hb1.block _ (by omega)).trans r1; have y1 := cellB q0 1 _ rfl; have y2 := frozenB q0 1; have HQ : Hid (_ ∧ _ ∧ _ ∧ _ ∧ _) := ⟨q0, q1, hb0, hsz, ho⟩; clear q0 q1 hb0 hsz r0 r1 ho))
  obtain ⟨q0, q1, hb0, hsz, ho⟩ := HQ.out
  have p0 := setB q0 1 (.slice va ns.length vc)
  have p1 := (set_far (w := w1) (B := w.heap.size) (k := w.heap.size + 1) (by omega) 1 (.slice va ns.length vc)).trans q1
  have hb2 : Below w.heap.size w (w1.setCell ⟨w.heap.size, 1, none⟩ (.slice va ns.length vc)) := (hb0.trans (hb1.mono hb0.size)).setCell (Nat.le_refl _) _
  have ho2 : (w1.setCell ⟨w.heap.size, 1, none⟩ (.slice va ns.length vc)).ownsRow w.heap.size 3 1 (.slice va ns.length vc) ns.length (zcs ns) := owns_base (owns_kept ho (fun k hk => set_far (by have := (ho.lt k hk).1; omega) _ _)) (by omega)
  obtain ⟨W1, hW1⟩ : ∃ W, w1.setCell ⟨w.heap.size, 1, none⟩ (.slice va ns.length vc) = W := ⟨_, rfl⟩
  rw [hW1] at p0 p1 hb2 ho2 ⊢
  have K1 : Hid (W1.rangeAt w.heap.size 0 (cfL num (.slice va ns.length vc) a b c d)) := blk_range (L := cfL num (.slice va ns.length vc) a b c d) p0
  have K2 : Hid (W1.there (w.heap.size + 1) 0 6) := blk_there p1 0 6 (Nat.le_refl _)
  have K3 : Hid (Below w.heap.size w (W1.setCells (w.heap.size + 1) 0 (cfL num (.slice va ns.length vc) a b c d))) := blk_below (by omega) _ _ _ hb2
  have K4 : Hid ((W1.setCells (w.heap.size + 1) 0 (cfL num (.slice va ns.length vc) a b c d)).rangeAt (w.heap.size + 1) 0 (cfL num (.slice va ns.length vc) a b c d)) := blk_range (blk_set p1 (L := cfL num (.slice va ns.length vc) a b c d) rfl)
  have K5 : Hid ((W1.setCells (w.heap.size + 1) 0 (cfL num (.slice va ns.length vc) a b c d)).ownsRow w.heap.size 3 1 (.slice va ns.length vc) ns.length (zcs ns)) := owns_kept ho2 (fun k hk => blk_far (by have := (ho.lt k hk).1; omega) _ _ _)
  clear p0 p1 hb2 ho2 hW1 q0 q1 hb0 hsz ho HQ y1 y2 hC HB0
  go_wp2_with (first
    | (refine wpList_load_mid rfl 25 _ rfl w.heap.size 0 rfl (cfL num (.slice va ns.length vc) a b c d) _ K1.out Tryz.underlying25 rfl Tryz.size25 ?_)
    | (refine wpList_store_mid rfl 25 _ _ rfl (w.heap.size + 1) 0 (cf num (.slice va ns.length vc) a b c d) rfl rfl K2.out Tryz.size25 (cf_ones _ _ _ _ _ _ _ _) ?_))
  exact bodyPost_ret (v := .agg (cf num (.slice va ns.length vc) a b c d)) (results_one rfl rfl (res25 K4.out rfl)) rfl ⟨_, rfl, K5.out, K3.out⟩
end
section
open Go.RowKit
attribute [local go_sem ↓] Go.wp_at_zero Go.wp_at_succ

/-- A block whose first cells are these numbers. -/
def Sc (w : World) (g : Nat) (L : List Int) : Prop := ∃ cur, w.heap[g]? = some (.cells cur 3) ∧ ∀ (i : Nat) t, L[i]? = some t → cur[i]? = some (.int .i64 t)
theorem Sc.cell {w : World} {g : Nat} {L : List Int} (h : Sc w g L) {i : Nat} {t : Int} (ht : L[i]? = some t) : w.cell? ⟨g, i, none⟩ = some (.int .i64 t) := by
  obtain ⟨cur, h1, h2⟩ := h
  exact cellB h1 i _ (h2 i t ht)
theorem Sc.frozen {w : World} {g : Nat} {L : List Int} (h : Sc w g L) (i : Nat) : w.frozen? ⟨g, i, none⟩ = false := by
  obtain ⟨cur, h1, h2⟩ := h
  exact frozenB h1 i
theorem Sc.set {w : World} {g : Nat} {L : List Int} (h : Sc w g L) (i : Nat) (x : Int) : Sc (w.setCell ⟨g, i, none⟩ (.int .i64 x)) g (L.set i x) := by
  obtain ⟨cur, h1, h2⟩ := h
  refine ⟨_, setB h1 i _, fun j t ht => ?_⟩
  rw [Array.getElem?_setIfInBounds]
  rw [List.getElem?_set] at ht
  by_cases e : i = j
  · subst e
    rw [if_pos rfl] at ht
    by_cases hi : i < L.length
    · rw [if_pos hi] at ht
      cases ht
      have := (Array.getElem?_eq_some_iff.1 (h2 i _ (List.getElem?_eq_getElem hi))).1
      rw [if_pos rfl, if_pos this]
    · rw [if_neg hi] at ht; cases ht
  · rw [if_neg e] at ht ⊢
    exact h2 j t ht
theorem Sc.next {w w' : World} {g : Nat} {L : List Int} (h : Sc w g L) (hb : w'.heap[g]? = w.heap[g]?) : Sc w' g L := by
  obtain ⟨cur, h1, h2⟩ := h
  exact ⟨cur, hb.trans h1, h2⟩
/-- Only block g was written. -/
structure Onl (B g : Nat) (w w' : World) : Prop where
  below : Below B w w'
  far : ∀ k, k ≠ g → w'.heap[k]? = w.heap[k]?
theorem Onl.refl (B g : Nat) (w : World) : Onl B g w w := ⟨Below.refl _ _, fun _ _ => rfl⟩
theorem Onl.setCell {B g : Nat} {w w' : World} (h : Onl B g w w') (hg : B ≤ g) (i : Nat) (u : Value) : Onl B g w (w'.setCell ⟨g, i, none⟩ u) :=
  ⟨h.below.setCell (p := ⟨g, i, none⟩) hg u, fun k hk => (set_far hk i u).trans (h.far k hk)⟩
theorem Onl.drewN {B g : Nat} {w w' : World} (h : Onl B g w w') (n : Nat) : Onl B g w (w'.drewN n) := ⟨below_drewN h.below n, h.far⟩
theorem Onl.drew {B g : Nat} {w w' : World} (h : Onl B g w w') : Onl B g w w'.drew := ⟨below_drew h.below, h.far⟩
theorem Onl.setCells {B g : Nat} {w w' : World} (h : Onl B g w w') (hg : B ≤ g) (o : Nat) (L : List Value) : Onl B g w (w'.setCells g o L) :=
  ⟨blk_below hg _ _ _ h.below, fun k hk => (blk_far hk L o w').trans (h.far k hk)⟩
/-- The number at place j goes down to where it belongs. -/
def insJ : Nat → List Int → List Int
  | 0, L => L
  | j + 1, L => if L.getD (j + 1) 0 < L.getD j 0 then insJ j ((L.set (j + 1) (L.getD j 0)).set j (L.getD (j + 1) 0)) else L
def insTo (L : List Int) : Nat → List Int
  | 0 => L
  | i + 1 => insJ i (insTo L i)
theorem Less_any (x y : Int) (w : World) : Calls Tryz.prog 115 #[.int .i64 x, .int .i64 y] w fun e W' => e = .returned (.bool (decide (x < y))) ∧ W' = w := by
  go_enter Tryz.func115, Tryz.ntmps115
  go_wp2_with (go_at_call 135; refine (isNaN_any _ _).mono ?_; rintro e w1 ⟨rfl, h9⟩; subst w1)
  go_ret
  exact ⟨rfl, rfl⟩
theorem insJ_len : ∀ (j : Nat) (L : List Int), (insJ j L).length = L.length
  | 0, _ => rfl
  | j + 1, L => by
    unfold insJ
    split
    · rw [insJ_len j]; simp
    · rfl
theorem insTo_len (L : List Int) : ∀ i, (insTo L i).length = L.length
  | 0 => rfl
  | i + 1 => by unfold insTo; rw [insJ_len, insTo_len L i]
set_option maxRecDepth 20000 in
set_option maxHeartbeats 8000000 in
theorem insertionSort_any (L : List Int) (g cap B : Nat) (hl : 0 < L.length) (hl2 : L.length ≤ 12) (w : World) (hS : Sc w g L) (hg : B ≤ g) :
    Calls Tryz.prog 109 #[.slice (some ⟨g, 0, none⟩) L.length cap, .int .i64 0, .int .i64 L.length] w fun e W' => e = .returned (.tuple #[]) ∧ Sc W' g (insTo L L.length) ∧ Onl B g w W' := by
  obtain ⟨n, hn⟩ : ∃ n, L.length = n := ⟨_, rfl⟩
  rw [hn] at hl hl2 ⊢
  have HN : Hid (L.length = n) := hn
  have HS0 : Hid (Sc w g L) := hS
  clear hS hn
  go_enter Tryz.func109, Tryz.ntmps109
  go_wp2_with fail
  go_loopg [6] (n - 1) (fun gk iv wr => ∃ i : Nat, i + gk = n ∧ 1 ≤ i ∧ iv = .int .i64 i ∧ Sc wr g (insTo L i) ∧ Onl B g w wr)
  case atStart => exact ⟨1, by omega, by omega, rfl, HS0.out, Onl.refl _ _ _⟩
  case round =>
    obtain ⟨i, hi, hi1, rfl, hS, hB⟩ := hrel
    clear HS0
    by_cases hlt : i < n
    · have HSt : Hid (insTo L (i + 1) = insJ i (insTo L i)) := rfl
      have hlen := insTo_len L i
      rw [HN.out] at hlen
      obtain ⟨L0, hL0⟩ : ∃ L0, insTo L i = L0 := ⟨_, rfl⟩
      rw [hL0] at HSt hS hlen
      have HSi : Hid (Sc wr g L0) := hS
      have i0 : (i : Int) < (n : Int) := by omega
      have HLn : Hid (L0.length = n) := hlen
      clear hL0 hS hlen
      go_wp2_with fail
      rename World => wq
      go_loopg [7] i (fun gj jv wr => ∃ (j : Nat) (Lc : List Int), j = gj ∧ jv = .int .i64 j ∧ j ≤ i ∧ insJ j Lc = insTo L (i + 1) ∧ Lc.length = n ∧ Sc wr g Lc ∧ Onl B g w wr)
      case atStart => exact ⟨i, L0, rfl, rfl, Nat.le_refl _, HSt.out.symm, HLn.out, HSi.out, hB⟩
      case round =>
        obtain ⟨j, Lc, hjg, rfl, hj, hins, hlc, hS, hB2⟩ := hrel
        clear HSi HSt HLn
        cases j with
        | zero =>
          have HI : Hid (Lc = insTo L (i + 1)) := hins
          have HS : Hid (Sc wr g Lc) := hS
          clear hins hS
          go_upto_region 4 with fail
          go_quiet (fail)
          go_wp2
          go_roundg (n - (i + 1))
          case measure => omega
          case rel => exact ⟨i + 1, by omega, by omega, by go_num, by rw [← HI.out]; exact HS.out.next rfl, hB2.drewN _⟩
        | succ m =>
          obtain ⟨J, hJ⟩ : ∃ J, m + 1 = J := ⟨_, rfl⟩
          obtain ⟨a, ha⟩ : ∃ a, Lc[m + 1]? = some a := ⟨_, List.getElem?_eq_getElem (by omega)⟩
          obtain ⟨b, hb⟩ : ∃ b, Lc[m]? = some b := ⟨_, List.getElem?_eq_getElem (by omega)⟩
          have ga : Lc.getD (m + 1) 0 = a := by rw [List.getD_eq_getElem?_getD, ha]; rfl
          have gb : Lc.getD m 0 = b := by rw [List.getD_eq_getElem?_getD, hb]; rfl
          have hins2 : (if a < b then insJ m ((Lc.set (m + 1) b).set m a) else Lc) = insTo L (i + 1) := by
            rw [← hins]
            show _ = insJ (m + 1) Lc
            rw [insJ, ga, gb]
          have HA : Hid (Lc[m + 1]? = some a) := ha
          have HBb : Hid (Lc[m]? = some b) := hb
          have x1 := hS.cell ha
          have x2 := hS.cell hb
          have f1 := hS.frozen (m + 1)
          have f2 := hS.frozen m
          have s1 := (hS.set (m + 1) b)
          have y2 := s1.cell (i := m) (t := b) (by rw [List.getElem?_set_ne (by omega)]; exact hb)
          have s2 := (s1.set m a)
          have hb9 : Onl B g w ((wr.setCell ⟨g, m + 1, none⟩ (.int .i64 b)).setCell ⟨g, m, none⟩ (.int .i64 a)) := (hB2.setCell hg (m + 1) _).setCell hg m _
          have HI : Hid ((if a < b then insJ m ((Lc.set (m + 1) b).set m a) else Lc) = insTo L (i + 1)) := hins2
          have HS : Hid (Sc wr g Lc) := hS
          have j0 : (0 : Int) < (J : Int) := by omega
          have j1 : (J : Int) < (n : Int) := by omega
          have m0 : (0 : Int) ≤ (m : Int) := by omega
          have m1 : (m : Int) < (n : Int) := by omega
          have j2 : (0 : Int) ≤ (J : Int) := by omega
          have e1 : IntKind.i64.wrap ((J : Int) - 1) = (m : Int) := by rw [← hJ]; simp [IntKind.wrap, IntKind.bits, IntKind.signed]; omega
          have jn : decide (0 < J) = true := by simp; omega
          have HLc : Hid (Lc.length = n) := hlc
          have HSz : Hid (Sc ((wr.setCell ⟨g, m + 1, none⟩ (.int .i64 b)).setCell ⟨g, m, none⟩ (.int .i64 a)) g ((Lc.set (m + 1) b).set m a)) := s2
          have HJ : Hid (m + 1 = J) := hJ
          rw [hJ] at x1 f1 y2 hb9 HSz
          have HB9 : Hid (Onl B g w ((wr.setCell ⟨g, J, none⟩ (.int .i64 b)).setCell ⟨g, m, none⟩ (.int .i64 a))) := hb9
          rw [hJ]
          clear hins hins2 ha hb ga gb hS s1 s2 hlc hb9 hJ
          have hLs := fun W => Less_any a b W
          by_cases hab : a < b
          · have hq : decide (a < b) = true := by simp [hab]
            rw [hq] at hLs
            go_upto_region 4 with fail
            go_quiet (first | (go_at_call 115; refine Calls.quiet_of_same (hLs _)))
            have HIp : Hid (insJ m ((Lc.set J b).set m a) = insTo L (i + 1)) := by have := HI.out; rw [if_pos hab, HJ.out] at this; exact this
            have HLp : Hid (((Lc.set J b).set m a).length = n) := by show _ = _; rw [List.length_set, List.length_set]; exact HLc.out
            have hSw : Sc (wr.drewN nq) g Lc := HS.out.next rfl
            have hBw := hB2.drewN nq
            obtain ⟨WQ, hWQ⟩ : ∃ W, wr.drewN nq = W := ⟨_, rfl⟩
            rw [hWQ] at hSw hBw ⊢
            have ha := HA.out
            have hb := HBb.out
            rw [HJ.out] at ha
            clear x1 x2 f1 f2 y2 HI HSz HB9 hWQ
            have x1 := hSw.cell ha
            have x2 := hSw.cell hb
            have f1 := hSw.frozen J
            have f2 := hSw.frozen m
            have s1 := (hSw.set J b)
            have y2 := s1.cell (i := m) (t := b) (by rw [List.getElem?_set_ne (by have := HJ.out; omega)]; exact hb)
            have s2 := (s1.set m a)
            have HSq : Hid (Sc ((WQ.setCell ⟨g, J, none⟩ (.int .i64 b)).setCell ⟨g, m, none⟩ (.int .i64 a)) g ((Lc.set J b).set m a)) := s2
            have HB9 : Hid (Onl B g w ((WQ.setCell ⟨g, J, none⟩ (.int .i64 b)).setCell ⟨g, m, none⟩ (.int .i64 a))) := (hBw.setCell hg J _).setCell hg m _
            clear s1 s2 hSw ha hb
            go_upto_region 6 with fail
            go_region
            all_goals
              go_wp2
              go_roundg m
              case measure => omega
              case rel => exact ⟨m, _, rfl, by go_num, by omega, HIp.out, HLp.out, HSq.out.next rfl, HB9.out.drew⟩
          · have hq : decide (a < b) = false := by simp [hab]
            rw [hq] at hLs
            go_upto_region 4 with fail
            go_quiet (first | (go_at_call 115; refine Calls.quiet_of_same (hLs _)))
            go_wp2
            go_roundg (n - (i + 1))
            case measure => omega
            case rel => exact ⟨i + 1, by omega, by omega, by go_num, by have := HI.out; rw [if_neg (Int.not_lt.2 hab)] at this; rw [← this]; exact HS.out.next rfl, hB2.drewN _⟩
    · have hin : i = n := by omega
      subst hin
      go_wp2
      exact bodyPost_end (v := .tuple #[]) (by simp [results, Tryz.f109]) rfl ⟨rfl, hS, hB⟩
end
section
open Go.RowKit
attribute [local go_sem ↓] Go.wp_at_zero Go.wp_at_succ

set_option maxRecDepth 20000 in
set_option maxHeartbeats 2000000 in
theorem Len64_any (n : Nat) (h1 : 1 ≤ n) (h2 : n ≤ 4) (w : World) : Calls Tryz.prog 119 #[.int .u64 n] w fun e W' => ∃ k, e = .returned (.int .i64 k) ∧ W' = w := by
  have : n = 1 ∨ n = 2 ∨ n = 3 ∨ n = 4 := by omega
  rcases this with rfl | rfl | rfl | rfl
  all_goals
    clear h1 h2
    go_enter Tryz.func119, Tryz.ntmps119
    go_wp2
    go_ret
    exact ⟨_, rfl, rfl⟩
theorem Len_any (n : Nat) (h1 : 1 ≤ n) (h2 : n ≤ 4) (w : World) : Calls Tryz.prog 97 #[.int .u64 n] w fun e W' => ∃ k, e = .returned (.int .i64 k) ∧ W' = w := by
  have hL := Len64_any n h1 h2 w
  go_enter Tryz.func97, Tryz.ntmps97
  go_wp2_with (go_at_call 119; refine hL.mono ?_; rintro e w1 ⟨k, rfl, h9⟩; subst w1)
  go_ret
  exact ⟨_, rfl, rfl⟩
set_option maxRecDepth 20000 in
set_option maxHeartbeats 4000000 in
theorem pdqsort_any (L : List Int) (g cap B : Nat) (k : Int) (hl : 0 < L.length) (hl2 : L.length ≤ 12) (w : World) (hS : Sc w g L) (hg : B ≤ g) :
    Calls Tryz.prog 96 #[.slice (some ⟨g, 0, none⟩) L.length cap, .int .i64 0, .int .i64 L.length, .int .i64 k] w fun e W' => e = .returned (.tuple #[]) ∧ Sc W' g (insTo L L.length) ∧ Onl B g w W' := by
  have hI := insertionSort_any L g cap B hl hl2 w hS hg
  obtain ⟨n, hn⟩ : ∃ n, L.length = n := ⟨_, rfl⟩
  rw [hn] at hl hl2 hI ⊢
  have n0 : (n : Int) ≤ 12 := by omega
  clear hS hn
  go_enter Tryz.func96, Tryz.ntmps96
  go_wp2_with fail
  go_loopg [1, 2, 3, 8, 9] 0 (fun gk a b c d e wr => a = .int .i64 0 ∧ b = .int .i64 n ∧ c = .int .i64 k ∧ d = .bool true ∧ e = .bool true ∧ wr = w)
  case atStart => exact ⟨rfl, rfl, rfl, rfl, rfl, rfl⟩
  case round =>
    obtain ⟨rfl, rfl, rfl, rfl, rfl, rfl⟩ := hrel
    go_wp2_with (go_at_call 109; refine hI.mono ?_; rintro e w1 ⟨rfl, h1, h2⟩)
    exact bodyPost_ret (v := .tuple #[]) (by simp [results, Tryz.f96]) rfl ⟨rfl, h1, h2⟩
theorem Sort_any (L : List Int) (g cap B : Nat) (hl : 0 < L.length) (hl2 : L.length ≤ 4) (w : World) (hS : Sc w g L) (hg : B ≤ g) :
    Calls Tryz.prog 81 #[.slice (some ⟨g, 0, none⟩) L.length cap] w fun e W' => e = .returned (.tuple #[]) ∧ Sc W' g (insTo L L.length) ∧ Onl B g w W' := by
  have hP := fun k => pdqsort_any L g cap B k hl (by omega) w hS hg
  have hL := Len_any L.length hl hl2 w
  obtain ⟨n, hn⟩ : ∃ n, L.length = n := ⟨_, rfl⟩
  rw [hn] at hl hl2 hP hL ⊢
  clear hS hn
  go_enter Tryz.func81, Tryz.ntmps81
  go_wp2_with (first
    | (go_at_call 97; refine hL.mono ?_; rintro e w1 ⟨k, rfl, h9⟩; subst w1)
    | (go_at_call 96; refine (hP _).mono ?_; rintro e w2 ⟨rfl, h1, h2⟩))
  exact bodyPost_end (v := .tuple #[]) (by simp [results, Tryz.f81]) rfl ⟨rfl, h1, h2⟩
end
section
open Go.RowKit
attribute [local go_sem ↓] Go.wp_at_zero Go.wp_at_succ

theorem clo37 (v x : Int) (P : Nat) (w : World) (hc : w.cell? ⟨P, 1, none⟩ = some (.int .i64 x)) : Calls Tryz.prog 83 #[.int .i64 v, .pointer (some ⟨P, 0, none⟩)] w fun e W' => e = .returned (.bool (v == x)) ∧ W' = w := by
  go_enter Tryz.func83, Tryz.ntmps83
  go_wp2
  go_ret
  exact ⟨rfl, rfl⟩
set_option maxRecDepth 20000 in
set_option maxHeartbeats 1000000 in
theorem IndexFunc_any (ns : List Int) (x : Int) (P g cap : Nat) (w : World) (hS : Sc w g ns) (hc : w.cell? ⟨P, 1, none⟩ = some (.int .i64 x)) (hl : ns.length ≤ 1000) :
    Calls Tryz.prog 98 #[.slice (some ⟨g, 0, none⟩) ns.length cap, .func (.func 83) #[] #[.pointer (some ⟨P, 0, none⟩)]] w fun e W' => e = .returned (.int .i64 (idxI ns x)) ∧ W' = w := by
  go_enter Tryz.func98, Tryz.ntmps98
  go_wp2_with fail
  go_loopg [8] ns.length (fun gk i wr => ∃ k : Nat, k + gk = ns.length ∧ i = .int .i64 k ∧ wr = w ∧ ∀ i t, i < k → ns[i]? = some t → x ≠ t)
  case atStart => exact ⟨0, by omega, rfl, rfl, fun i t hi => by omega⟩
  case round =>
    obtain ⟨k, hk, rfl, rfl, hno⟩ := hrel
    have hd := idxI_drop ns x k hno
    by_cases hlt : k < ns.length
    · obtain ⟨n, hn⟩ : ∃ n, ns[k]? = some n := ⟨_, List.getElem?_eq_getElem hlt⟩
      have x1 := hS.cell hn
      have k0 : (0 : Int) ≤ (k : Int) := by omega
      have k1 : (k : Int) < (ns.length : Int) := by omega
      have hnx : Hid (∀ i t, i < k + 1 → ns[i]? = some t → x ≠ n → x ≠ t) := by
        intro i t hi ht hxn
        by_cases e : i = k
        · subst e; rw [hn] at ht; cases ht; exact hxn
        · exact hno i t (by omega) ht
      have HD : Hid (x = n → idxI ns x = k) := fun e => hd.1 (by rw [e]; exact hn)
      have hC := clo37 n x P _ hc
      clear hn hno hd hS
      by_cases hx : x = n
      · rw [show (n == x) = true by simp [hx]] at hC
        have HD2 : Hid (idxI ns x = k) := HD.out hx
        clear HD hx hnx
        go_wp2_with (first | (go_at_call 83; refine hC.mono ?_; rintro e w1 ⟨rfl, h9⟩; subst w1))
        go_ret
        exact ⟨by rw [HD2.out]; rfl, rfl⟩
      · rw [show (n == x) = false by simp; exact fun h => hx h.symm] at hC
        have HX : Hid (x ≠ n) := hx
        clear hx
        go_wp2_with (first | (go_at_call 83; refine hC.mono ?_; rintro e w1 ⟨rfl, h9⟩; subst w1))
        go_roundg (ns.length - (k + 1))
        case measure => omega
        case rel => exact ⟨k + 1, by omega, by go_num, rfl, fun i t hi ht => hnx.out i t hi ht HX.out⟩
    · have hkl : k = ns.length := by omega
      have HD : Hid (idxI ns x = -1) := hd.2 (by omega)
      clear hd hno
      subst hkl
      go_wp2
      go_ret
      exact ⟨by rw [HD.out]; rfl, rfl⟩
/-- What is left moves up. -/
def dlJ (x : Int) : Nat → Nat → Nat → List Int → Nat × List Int
  | 0, i, _, L => (i, L)
  | f + 1, i, j, L => if L.getD j 0 = x then dlJ x f i (j + 1) L else dlJ x f (i + 1) (j + 1) (L.set i (L.getD j 0))
theorem run_clear_int (w : World) (ty : TypeId) (b o c : Nat) (hc : (w.cell? ⟨b, o, none⟩).isSome = true) (hf : w.frozen? ⟨b, o, none⟩ = false) :
    (Builtin.clear_ #[22] ty #[.slice (some ⟨b, o, none⟩) 1 c]).run Tryz.prog w = .ok (.tuple #[]) (w.setCells b o [.int .i64 0]) := by
  have hst := run_storeCells_cells (P := Tryz.prog) b o [.int .i64 0] 0 w (by simpa using hc) (by simpa using hf) (by intro v hv; simp at hv; rcases hv with rfl; rfl)
  simp only [Nat.add_zero] at hst
  have hz : (Builtin.zeroCells (Value.int .i64 0).cells 1).toList = [.int .i64 0] := by kernel_rfl
  simp [Builtin.clear_, run_underlying Tryz.underlying22, Tryz.zeroValue3, hz, hst]
theorem Sc.take {w : World} {g : Nat} {L : List Int} (h : Sc w g L) (n : Nat) : Sc w g (L.take n) := by
  obtain ⟨cur, h1, h2⟩ := h
  refine ⟨cur, h1, fun i t ht => h2 i t ?_⟩
  rw [List.getElem?_take] at ht
  split at ht
  · exact ht
  · cases ht
set_option maxRecDepth 20000 in
set_option maxHeartbeats 4000000 in
theorem DeleteFunc_any (L Lf : List Int) (x : Int) (i0 fi P g cap B : Nat) (w : World) (hS : Sc w g L) (hc : w.cell? ⟨P, 1, none⟩ = some (.int .i64 x)) (hl : L.length ≤ 1000) (hcap : L.length ≤ cap) (hPg : P ≠ g) (hg : B ≤ g)
    (hi0 : idxI L x = i0) (hlt : i0 < L.length) (hfin : dlJ x (L.length - (i0 + 1)) i0 (i0 + 1) L = (fi, Lf)) (hfi : fi + 1 = L.length) :
    Calls Tryz.prog 82 #[.slice (some ⟨g, 0, none⟩) L.length cap, .func (.func 83) #[] #[.pointer (some ⟨P, 0, none⟩)]] w fun e W' => e = .returned (.slice (some ⟨g, 0, none⟩) fi cap) ∧ Sc W' g (Lf.take fi) ∧ Onl B g w W' := by
  have hX := IndexFunc_any L x P g cap w hS hc hl
  rw [hi0] at hX
  obtain ⟨n, hn⟩ : ∃ n, L.length = n := ⟨_, rfl⟩
  rw [hn] at hX hl hlt hfin hfi hcap ⊢
  have HS0 : Hid (Sc w g L ∧ L.length = n ∧ dlJ x (n - (i0 + 1)) i0 (i0 + 1) L = (fi, Lf) ∧ w.cell? ⟨P, 1, none⟩ = some (.int .i64 x)) := ⟨hS, hn, hfin, hc⟩
  have q1 : ((i0 : Int) == -1) = false := by rw [beq_eq_false_iff_ne]; omega
  clear hS hn hfin hc hi0
  go_enter Tryz.func82, Tryz.ntmps82
  go_upto_region 4 with (go_at_call 98; refine hX.mono ?_; rintro e w1 ⟨rfl, h9⟩; subst w1)
  clear hX q1
  go_wp2_with fail
  go_loopg [5, 6] (n - (i0 + 1)) (fun gk iv jv wr => ∃ (i j : Nat) (Lc : List Int), iv = .int .i64 i ∧ jv = .int .i64 j ∧ j + gk = n ∧ i < j ∧ Hid (dlJ x gk i j Lc = (fi, Lf)) ∧ Lc.length = n ∧ Hid (Sc wr g Lc) ∧ wr.cell? ⟨P, 1, none⟩ = some (.int .i64 x) ∧ Onl B g w wr)
  case atStart =>
    obtain ⟨a, b, c, d⟩ := HS0.out
    exact ⟨i0, i0 + 1, L, rfl, rfl, by omega, by omega, c, b, a, d, Onl.refl _ _ _⟩
  case round =>
    obtain ⟨i, j, Lc, rfl, rfl, hjn, hij, HD, hlc, HS, hcx, hB⟩ := hrel
    clear HS0
    cases gk with
    | zero =>
      have hdd := HD.out
      simp only [dlJ] at hdd
      injection hdd with e1 e2
      have hjn' : j = n := by omega
      obtain ⟨t, ht⟩ : ∃ t, Lc[i]? = some t := ⟨_, List.getElem?_eq_getElem (by omega)⟩
      have y1 := HS.out.cell ht
      have y2 := HS.out.frozen i
      have hcl := fun ty c => run_clear_int wr ty g i c (by rw [y1]; rfl) y2
      have e9 : n - i = 1 := by omega
      have HF : Hid (Sc (wr.setCells g i [.int .i64 0]) g (Lf.take fi)) := by
        show Sc _ _ _
        have h9 := (HS.out.set i 0).take i
        rw [← e1, ← e2]
        have : (Lc.set i 0).take i = Lc.take i := by
          rw [List.take_set_of_le (by omega)]
        rw [this] at h9
        exact h9
      have HB9 : Hid (Onl B g w (wr.setCells g i [.int .i64 0])) := hB.setCells hg _ _
      have hi1 : (i : Int) ≤ (n : Int) := by omega
      have hi2 : (i : Int) ≤ (cap : Int) := by omega
      have hi3 : i ≤ n := by omega
      have hi4 : ¬ cap = i := by omega
      have hi5 : (0 : Int) ≤ (i : Int) := by omega
      subst hjn'
      subst e1
      clear HD e2 ht y1 y2 HS hlc hcx hB
      go_wp2_with fail
      go_ret
      exact ⟨rfl, HF.out, HB9.out⟩
    | succ f =>
      obtain ⟨t, ht⟩ : ∃ t, Lc[j]? = some t := ⟨_, List.getElem?_eq_getElem (by omega)⟩
      have gt : Lc.getD j 0 = t := by rw [List.getD_eq_getElem?_getD, ht]; rfl
      obtain ⟨u, hu⟩ : ∃ u, Lc[i]? = some u := ⟨_, List.getElem?_eq_getElem (by omega)⟩
      have x1 := HS.out.cell ht
      have y1 := HS.out.cell hu
      have y2 := HS.out.frozen i
      have HE : Hid ((if t = x then dlJ x f i (j + 1) Lc else dlJ x f (i + 1) (j + 1) (Lc.set i t)) = (fi, Lf)) := by
        have := HD.out
        rw [dlJ, gt] at this
        exact this
      have hC := clo37 t x P _ hcx
      have j0 : (0 : Int) ≤ (j : Int) := by omega
      have j1 : (j : Int) < (n : Int) := by omega
      have i0' : (0 : Int) ≤ (i : Int) := by omega
      have i1' : (i : Int) < (n : Int) := by omega
      have HCX : Hid (wr.cell? ⟨P, 1, none⟩ = some (.int .i64 x)) := hcx
      clear gt ht hu HD hcx
      by_cases hx : t = x
      · rw [show (t == x) = true by simp [hx]] at hC
        have HE2 : Hid (dlJ x f i (j + 1) Lc = (fi, Lf)) := by have := HE.out; rw [if_pos hx] at this; exact this
        clear HE hx
        go_wp2_with (first | (go_at_call 83; refine hC.mono ?_; rintro e w1 ⟨rfl, h9⟩; subst w1))
        go_roundg f
        case measure => omega
        case rel => exact ⟨i, j + 1, Lc, rfl, by go_num, by omega, by omega, HE2, hlc, HS, HCX.out, hB⟩
      · rw [show (t == x) = false by simp [hx]] at hC
        have HE2 : Hid (dlJ x f (i + 1) (j + 1) (Lc.set i t) = (fi, Lf)) := by have := HE.out; rw [if_neg hx] at this; exact this
        have HS2 : Hid (Sc (wr.setCell ⟨g, i, none⟩ (.int .i64 t)) g (Lc.set i t)) := HS.out.set i t
        have HC2 : Hid ((wr.setCell ⟨g, i, none⟩ (.int .i64 t)).cell? ⟨P, 1, none⟩ = some (.int .i64 x)) := (World.cell?_setCell_other _ _ _ _ (by intro h; injection h with h _ _; exact hPg h.symm)).trans HCX.out
        have HB2 : Hid (Onl B g w (wr.setCell ⟨g, i, none⟩ (.int .i64 t))) := hB.setCell hg i _
        clear HE hx
        go_wp2_with (first | (go_at_call 83; refine hC.mono ?_; rintro e w1 ⟨rfl, h9⟩; subst w1))
        go_roundg f
        case measure => omega
        case rel => exact ⟨i + 1, j + 1, Lc.set i t, by go_num, by go_num, by omega, by omega, HE2, by rw [List.length_set]; exact hlc, HS2, HC2.out, HB2.out⟩
end
section

/-- All groups that may have joined, above l. -/
def subsF : Nat → Nat → List (List Nat)
  | 0, _ => [[]]
  | n + 1, l => [] :: ((List.range 4).filter fun i => decide (l < i + 1)).flatMap fun i => (subsF n (i + 1)).map ((i + 1) :: ·)
theorem rise_subs : ∀ (n : Nat) (ns : List Int) (l : Nat), 4 - l ≤ n → rise l ns = true → ∃ gs ∈ subsF n l, ns = zi gs := by
  intro n ns
  induction ns generalizing n with
  | nil =>
    intro l hn _
    refine ⟨[], ?_, rfl⟩
    cases n <;> simp [subsF]
  | cons x r ih =>
    intro l hn h
    unfold rise at h
    simp at h
    obtain ⟨⟨h1, h2⟩, h3⟩ := h
    obtain ⟨i, rfl⟩ : ∃ i : Nat, x = ((i + 1 : Nat) : Int) := ⟨(x - 1).toNat, by omega⟩
    cases n with
    | zero => omega
    | succ n =>
      obtain ⟨gs, hg, he⟩ := ih n (i + 1) (by omega) h3
      refine ⟨(i + 1) :: gs, ?_, by rw [he]; rfl⟩
      unfold subsF
      apply List.mem_cons_of_mem
      rw [List.mem_flatMap]
      refine ⟨i, ?_, List.mem_map.2 ⟨gs, hg, rfl⟩⟩
      rw [List.mem_filter, List.mem_range]
      exact ⟨by omega, by simp; omega⟩
def subs0 : List (List Nat) := subsF 4 0
def owners0 (gs : List Nat) : List (List Nat) := if gs.length = 0 then [[0, 0, 0, 0]] else owners gs
theorem own_mem {gs : List Nat} {x : Int} (h0 : gs.length ≠ 0) (h : ownB (zi gs) x = true) : ∃ n ∈ gs, x = (n : Int) := by
  unfold ownB at h
  rw [zi_len, if_neg h0] at h
  unfold isIn zi at h
  simp at h
  obtain ⟨a, h1, h2⟩ := h
  exact ⟨a, h1, h2.symm⟩
/-- What a configuration is. -/
theorem okC_all {num : Int} {ns : List Int} {a b c d : Int} (h : okC num ns [a, b, c, d] = true) :
    ∃ gs ∈ subs0, ns = zi gs ∧ ∃ o ∈ owners0 gs, [a, b, c, d] = zi o ∧ 0 ≤ num ∧ num ≤ 1099511627776 := by
  unfold okC at h
  simp at h
  obtain ⟨⟨h1, h2⟩, h3, h4, h5, h6⟩ := h
  obtain ⟨gs, hg, rfl⟩ := rise_subs 4 ns 0 (by omega) h2
  obtain ⟨n0, n1⟩ := wi_t h1
  refine ⟨gs, hg, rfl, ?_⟩
  by_cases h0 : gs.length = 0
  · refine ⟨[0, 0, 0, 0], by unfold owners0; rw [if_pos h0]; simp, ?_, n0, n1⟩
    unfold ownB at h3 h4 h5 h6
    rw [zi_len, if_pos h0] at h3 h4 h5 h6
    simp at h3 h4 h5 h6
    subst h3 h4 h5 h6
    rfl
  · obtain ⟨a', m1, rfl⟩ := own_mem h0 h3
    obtain ⟨b', m2, rfl⟩ := own_mem h0 h4
    obtain ⟨c', m3, rfl⟩ := own_mem h0 h5
    obtain ⟨d', m4, rfl⟩ := own_mem h0 h6
    refine ⟨[a', b', c', d'], ?_, rfl, n0, n1⟩
    unfold owners0
    rw [if_neg h0]
    unfold owners
    simp only [List.mem_flatMap, List.mem_map]
    exact ⟨a', m1, b', m2, c', m3, d', m4, rfl⟩
/-- The groups behind a command. -/
def nG (k g : Nat) (gs : List Nat) : List Nat := if k = 1 then [1, 2, 3, 4].filter (fun x => gs.contains x || x == g) else if k = 2 then gs.erase g else gs
/-- The owners behind a Join or a Leave. -/
def nR (gs o : List Nat) : List Nat := (evS 5 gs (giveG gs o)).getD []
/-- The owners behind a command. -/
def nO (k g s : Nat) (gs o : List Nat) : List Nat := if k = 3 then o.set s g else nR (nG k g gs) o
def sortOk (gs : List Nat) (g : Nat) : Bool := insTo (zi gs ++ [(g : Int)]) (gs.length + 1) == zi (nG 1 g gs)
def delOk (gs : List Nat) (g : Nat) : Bool :=
  idxI (zi gs) g == (gs.idxOf g : Nat) && decide (gs.idxOf g < gs.length) && (dlJ g (gs.length - (gs.idxOf g + 1)) (gs.idxOf g) (gs.idxOf g + 1) (zi gs)).1 + 1 == gs.length &&
    (dlJ g (gs.length - (gs.idxOf g + 1)) (gs.idxOf g) (gs.idxOf g + 1) (zi gs)).2.take (gs.length - 1) == zi (nG 2 g gs)
def evOk (gs o : List Nat) : Bool := decide (0 < gs.length) && decide (gs.length ≤ 4) && gs.all (fun x => decide (1 ≤ x) && decide (x ≤ 4)) && o.all (fun x => decide (x ≤ 4)) && decide (o.length = 4) &&
  (giveG gs o).all (fun x => decide (x ≤ 4)) && decide ((giveG gs o).length = 4) && evS 5 gs (giveG gs o) == some (nR gs o) && decide ((nR gs o).length = 4) && (nR gs o).all (gs.contains ·)
def stepOk (gs o : List Nat) (g : Nat) : Bool :=
  if gs.contains g then (if 1 < gs.length then delOk gs g && evOk (nG 2 g gs) o && subs0.contains (nG 2 g gs) else true) else sortOk gs g && evOk (nG 1 g gs) o && subs0.contains (nG 1 g gs)
def allSteps : Bool := subs0.all fun gs => (owners0 gs).all fun o => [1, 2, 3, 4].all fun g => stepOk gs o g
theorem all_steps : allSteps = true := by decide +kernel
def confOk (gs : List Nat) : Bool := decide (gs.length ≤ 4) && gs.all (fun x => decide (1 ≤ x) && decide (x ≤ 4)) && (owners0 gs).all (fun o => decide (o.length = 4) && o.all (fun x => decide (x ≤ 4)))
theorem all_confs : (subs0.all confOk) = true := by decide +kernel
theorem step_of {gs o : List Nat} {g : Nat} (hg : gs ∈ subs0) (ho : o ∈ owners0 gs) (h1 : 1 ≤ g) (h4 : g ≤ 4) : stepOk gs o g = true := by
  have h := all_steps
  unfold allSteps at h
  rw [List.all_eq_true] at h
  have h := h gs hg
  rw [List.all_eq_true] at h
  have h := h o ho
  rw [List.all_eq_true] at h
  exact h g (by simp; omega)
theorem conf_of {gs : List Nat} (hg : gs ∈ subs0) : gs.length ≤ 4 ∧ (∀ x ∈ gs, 1 ≤ x ∧ x ≤ 4) ∧ ∀ o ∈ owners0 gs, o.length = 4 ∧ ∀ x ∈ o, x ≤ 4 := by
  have h := all_confs
  rw [List.all_eq_true] at h
  have h := h gs hg
  simp [confOk] at h
  exact ⟨h.1.1, h.1.2, h.2⟩
end
end Go.Proofs.YtfolnlgceighbaaGreatDoor
