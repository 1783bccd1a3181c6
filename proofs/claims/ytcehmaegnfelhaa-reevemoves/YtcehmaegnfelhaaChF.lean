/- Chains: give, walked. -/
import Derived.Test.YtcehmaegnfelhaaChE
namespace Go.Proofs.Ytcehmaegnfelhaa
open Go.RowKit
attribute [local go_sem ↓] Go.wp_at_zero Go.wp_at_succ

/-- Owners as cells. -/
def owL (l : List Nat) : List Value := l.map fun (n : Nat) => Value.int .i64 (n : Int)
theorem owL_len (l : List Nat) : (owL l).length = l.length := by simp [owL]
theorem owL_at (l : List Nat) (k t : Nat) (h : l[k]? = some t) : (owL l)[k]? = some (.int .i64 t) := by simp [owL, h]
theorem owL_set (l : List Nat) (k v : Nat) : (owL l).set k (.int .i64 v) = owL (l.set k v) := by
  unfold owL; rw [List.map_set]
theorem owL_ones (l : List Nat) : (owL l).toArray.all (·.oneCell') = true := all_oneCell_toArray (by intro v hv; simp [owL] at hv; obtain ⟨n, _, rfl⟩ := hv; rfl)
theorem four_of {l : List Nat} (h : l.length = 4) : ∃ a b c d, l = [a, b, c, d] := by
  match l, h with
  | [a, b, c, d], _ => exact ⟨a, b, c, d, rfl⟩
theorem isIn_zi (gs : List Nat) (t : Nat) : isIn (zi gs) (t : Int) = gs.contains t := by
  unfold isIn zi
  induction gs with
  | nil => rfl
  | cons a r ih => rw [List.map_cons, List.contains_cons, List.contains_cons, ih]; congr 1
                   by_cases e : t = a
                   · subst e; simp
                   · have e2 : (t : Int) ≠ a := by omega
                     rw [beq_eq_false_iff_ne.2 e2, beq_eq_false_iff_ne.2 e]
theorem count_list (l : List Nat) (hl : l.length = 4) (h4 : ∀ x ∈ l, x ≤ 4) (w : World) :
    Calls Try.prog 52 #[.agg (owL l).toArray] w fun e W' => e = .returned (.agg (lds (cnt l))) ∧ Below w.heap.size w W' := by
  obtain ⟨a, b, c, d, rfl⟩ := four_of hl
  exact count_any a b c d (h4 a (by simp)) (h4 b (by simp)) (h4 c (by simp)) (h4 d (by simp)) w
theorem fewF_mem (f : Nat → Nat) (gs : List Nat) (h : 0 < gs.length) : fewF f gs ∈ gs := by
  cases gs with
  | nil => simp at h
  | cons g r =>
    have : ∀ (r : List Nat) (g : Nat), r.foldl (fewSt f) g = g ∨ r.foldl (fewSt f) g ∈ r := by
      intro r
      induction r with
      | nil => intro g; left; rfl
      | cons a r ih =>
        intro g
        rw [List.foldl_cons]
        rcases ih (fewSt f g a) with h | h
        · rw [h]; unfold fewSt; split
          · right; simp
          · left; rfl
        · right; simp [h]
    rcases this r g with h | h
    · show r.foldl (fewSt f) g ∈ _; rw [h]; simp
    · show r.foldl (fewSt f) g ∈ _; exact List.mem_cons_of_mem _ h
theorem manyF_mem (f : Nat → Nat) (gs : List Nat) (h : 0 < gs.length) : manyF f gs ∈ gs := by
  cases gs with
  | nil => simp at h
  | cons g r =>
    have : ∀ (r : List Nat) (g : Nat), r.foldl (manySt f) g = g ∨ r.foldl (manySt f) g ∈ r := by
      intro r
      induction r with
      | nil => intro g; left; rfl
      | cons a r ih =>
        intro g
        rw [List.foldl_cons]
        rcases ih (manySt f g a) with h | h
        · rw [h]; unfold manySt; split
          · right; simp
          · left; rfl
        · right; simp [h]
    rcases this r g with h | h
    · show r.foldl (manySt f) g ∈ _; rw [h]; simp
    · show r.foldl (manySt f) g ∈ _; exact List.mem_cons_of_mem _ h
/-- k shards given. -/
def giveSt (gs o : List Nat) (i : Nat) : List Nat := if gs.contains (o.getD i 0) then o else o.set i (fewG gs o)
def giveTo (gs o : List Nat) (k : Nat) : List Nat := (List.range k).foldl (giveSt gs) o
theorem giveTo_succ (gs o : List Nat) (k : Nat) : giveTo gs o (k + 1) = giveSt gs (giveTo gs o k) k := by
  unfold giveTo; rw [List.range_succ, List.foldl_append]; rfl
theorem giveTo_four (gs o : List Nat) : giveTo gs o 4 = giveG gs o := rfl
theorem giveSt_ok (gs o : List Nat) (k : Nat) (hl : 0 < gs.length) (hg : ∀ x ∈ gs, x ≤ 4) (h1 : o.length = 4) (h2 : ∀ x ∈ o, x ≤ 4) : (giveSt gs o k).length = 4 ∧ ∀ x ∈ giveSt gs o k, x ≤ 4 := by
  unfold giveSt
  split
  · exact ⟨h1, h2⟩
  · refine ⟨by simp [h1], fun x hx => ?_⟩
    rcases List.mem_or_eq_of_mem_set hx with h | h
    · exact h2 x h
    · subst h; rw [fewG_eq]; exact hg _ (fewF_mem _ _ hl)
theorem giveTo_ok (gs o : List Nat) (k : Nat) (hl : 0 < gs.length) (hg : ∀ x ∈ gs, x ≤ 4) (h1 : o.length = 4) (h2 : ∀ x ∈ o, x ≤ 4) : (giveTo gs o k).length = 4 ∧ ∀ x ∈ giveTo gs o k, x ≤ 4 := by
  induction k with
  | zero => exact ⟨h1, h2⟩
  | succ k ih => rw [giveTo_succ]; exact giveSt_ok gs _ k hl hg ih.1 ih.2
theorem zero_ow : (#[Value.int .i64 0, .int .i64 0, .int .i64 0, .int .i64 0] : Array Value) = (owL [0, 0, 0, 0]).toArray := rfl
set_option maxRecDepth 20000 in
set_option maxHeartbeats 4000000 in
theorem give_any (gs o : List Nat) (hl : 0 < gs.length) (hl2 : gs.length ≤ 1000) (hg : ∀ x ∈ gs, x ≤ 4) (h1 : o.length = 4) (h2 : ∀ x ∈ o, x ≤ 4) (gv : Value) (w : World) (hu : Il w gv (zi gs)) :
    Calls Try.prog 46 #[gv, .agg (owL o).toArray] w fun e W' => e = .returned (.agg (owL (giveG gs o)).toArray) ∧ Below w.heap.size w W' := by
  rw [← giveTo_four]
  have hok := fun k => giveTo_ok gs o k hl hg h1 h2
  obtain ⟨W0, hW0⟩ : ∃ W, (w.alloc (.cells (owL o).toArray 48)).alloc (.cells (owL [0, 0, 0, 0]).toArray 48) = W := ⟨_, rfl⟩
  have hb0 : Below w.heap.size w W0 := by
    rw [← hW0]
    exact ((Below.refl _ w).alloc (Nat.le_refl _) _).alloc (by simp) _
  have r0 : W0.heap[w.heap.size]? = some (.cells (owL o).toArray 48) := by
    rw [← hW0]
    exact (Below.heap_alloc _ _ _ (by simp)).trans (heap_alloc_new _ _)
  have r1 : W0.heap[w.heap.size + 1]? = some (.cells (owL [0, 0, 0, 0]).toArray 48) := by
    rw [← hW0]
    have := heap_alloc_new (w.alloc (.cells (owL o).toArray 48)) (.cells (owL [0, 0, 0, 0]).toArray 48)
    rwa [show (w.alloc (.cells (owL o).toArray 48)).heap.size = w.heap.size + 1 by simp] at this
  have HV : Hid ((w.alloc (.cells (owL o).toArray 48)).alloc (.cells (owL [0, 0, 0, 0]).toArray 48) = W0) := hW0
  have HR0 : Hid (W0.heap[w.heap.size]? = some (.cells (owL o).toArray 48)) := r0
  have HR1 : Hid (W0.heap[w.heap.size + 1]? = some (.cells (owL [0, 0, 0, 0]).toArray 48)) := r1
  have Hok : Hid (∀ k, (giveTo gs o k).length = 4 ∧ ∀ x ∈ giveTo gs o k, x ≤ 4) := hok
  have Hg : Hid (∀ x ∈ gs, x ≤ 4) := hg
  have Hu : Hid (Il w gv (zi gs)) := hu
  obtain ⟨pa, pc, hpv⟩ := hu.slice
  rw [zi_len] at hpv
  obtain ⟨oc, hoc⟩ : ∃ oc, (owL o).toArray = oc := ⟨_, rfl⟩
  have HOC : Hid ((owL o).toArray = oc) := hoc
  rw [hoc] at HV HR0 ⊢
  clear hW0 r0 r1 hok hg h1 h2 hu hoc
  subst hpv
  go_enter Try.func46, Try.ntmps46
  go_upto_region 1 with fail
  rw [zero_ow, HV.out]
  clear HV
  go_wp2_with fail
  go_loopg [6] 4 (fun gk i wr => ∃ k : Nat, k + gk = 4 ∧ i = .int .i64 k ∧ Below w.heap.size w wr ∧ wr.heap[w.heap.size]? = some (.cells (owL (giveTo gs o k)).toArray 48) ∧ wr.heap[w.heap.size + 1]? = some (.cells (owL [0, 0, 0, 0]).toArray 48))
  case atStart => exact ⟨0, by omega, rfl, hb0, by rw [HR0.out, ← HOC.out]; rfl, HR1.out⟩
  case round =>
    obtain ⟨k, hk, rfl, hB, q0, q1⟩ := hrel
    clear HR0 HR1 hb0
    obtain ⟨n4, n5⟩ := Hok.out k
    have hu1 := Hu.out.next hB
    by_cases hlt : k < 4
    · have HS : Hid (giveTo gs o (k + 1) = giveSt gs (giveTo gs o k) k) := giveTo_succ gs o k
      obtain ⟨cur, hcur⟩ : ∃ cur, giveTo gs o k = cur := ⟨_, rfl⟩
      rw [hcur] at HS q0 n4 n5
      obtain ⟨t, ht⟩ : ∃ t, cur[k]? = some t := ⟨_, List.getElem?_eq_getElem (by omega)⟩
      have hgd : cur.getD k 0 = t := by rw [List.getD_eq_getElem?_getD, ht]; rfl
      have x1 := cellB q0 k _ (by rw [List.getElem?_toArray]; exact owL_at cur k t ht)
      have k0 : (0 : Int) ≤ (k : Int) := by omega
      have k1 : (k : Int) < 4 := by omega
      have hC := Contains_any (zi gs) t _ wr hu1 (by rw [zi_len]; exact hl2)
      rw [isIn_zi] at hC
      have Q0 : Hid (wr.heap[w.heap.size]? = some (.cells (owL cur).toArray 48)) := q0
      have Q1 : Hid (wr.heap[w.heap.size + 1]? = some (.cells (owL [0, 0, 0, 0]).toArray 48)) := q1
      by_cases hc : gs.contains t = true
      · rw [hc] at hC
        have HT : Hid (giveTo gs o (k + 1) = cur) := by show _ = _; rw [HS.out]; unfold giveSt; rw [hgd, if_pos hc]
        clear hc HS hcur hgd ht q0 q1 n4 n5 hu1
        go_wp2_with (first | (go_at_call 40; refine hC.mono ?_; rintro e w1 ⟨rfl, h9⟩; subst w1))
        go_roundg (4 - (k + 1))
        case measure => omega
        case rel => exact ⟨k + 1, by omega, by go_num, hB, by rw [HT.out]; exact Q0.out, Q1.out⟩
      · have hc' : gs.contains t = false := by simpa using hc
        rw [hc'] at hC
        have HT : Hid (giveTo gs o (k + 1) = cur.set k (fewF (cnt cur) gs)) := by show _ = _; rw [HS.out]; unfold giveSt; rw [hgd, if_neg hc, fewG_eq]
        have hN := count_list cur n4 n5 wr
        have hF := fun W (h : Below wr.heap.size wr W) => fewest_any (cnt cur) gs Hg.out hl hl2 (.slice pa gs.length pc) W (hu1.next h)
        obtain ⟨m, hm⟩ : ∃ m, fewF (cnt cur) gs = m := ⟨_, rfl⟩
        rw [hm] at HT hF
        have K1 : Hid (wr.rangeAt w.heap.size 0 (owL cur)) := blk_range q0
        have S4 : Hid ((Try.prog.info? 48).map (·.size) = some (owL cur).length) := by show _ = _; rw [owL_len, n4]; exact Try.size48
        have szw : w.heap.size + 1 < wr.heap.size := (Array.getElem?_eq_some_iff.1 q1).1
        have HE : Hid (∀ W, Below wr.heap.size wr W → W.heap[w.heap.size]? = some (.cells (owL cur).toArray 48)) := fun W h => (h.block _ (by omega)).trans q0
        have HE1 : Hid (∀ W, Below wr.heap.size wr W → W.heap[w.heap.size + 1]? = some (.cells (owL [0, 0, 0, 0]).toArray 48)) := fun W h => (h.block _ (by omega)).trans q1
        have HSet : Hid ((owL cur).toArray.setIfInBounds k (.int .i64 (m : Int)) = (owL (cur.set k m)).toArray) := by
          show _ = _
          rw [← owL_set]; simp
        have ex : (∃ v, (owL cur)[k]? = some v) := ⟨_, owL_at cur k t ht⟩
        obtain ⟨cv, hcv⟩ : ∃ cv, (owL cur).toArray = cv := ⟨_, rfl⟩
        rw [hcv] at hN
        have HCV : Hid ((owL cur).toArray = cv) := hcv
        clear hc hc' HS hcur hgd q0 q1 n4 n5 hu1 hm hcv ex
        go_wp2_with (first
          | (go_at_call 40; refine hC.mono ?_; rintro e w1 ⟨rfl, h9⟩; subst w1)
          | (refine wpList_load_mid rfl 48 _ rfl w.heap.size 0 rfl (owL cur) _ K1.out Try.underlying48 rfl S4.out ?_; rw [HCV.out])
          | (go_at_call 52; refine hN.mono ?_; rintro e w2 ⟨rfl, hb2⟩)
          | (go_at_call 54; refine (hF _ hb2).mono ?_; rintro e w3 ⟨rfl, hb3⟩; have hb4 := hb2.trans (hb3.mono hb2.size); have z1 := cellB (HE.out _ hb4) k _ (by rw [List.getElem?_toArray]; exact owL_at cur k t ht); have z2 := frozenB (HE.out _ hb4) k))
        go_roundg (4 - (k + 1))
        case measure => omega
        case rel =>
          refine ⟨k + 1, by omega, by go_num, (hB.trans (hb4.mono hB.size)).setCell (Nat.le_refl _) _, ?_, (set_far (by omega) _ _).trans (HE1.out _ hb4)⟩
          rw [HT.out, ← HSet.out]
          exact setB (HE.out _ hb4) k _
    · have hkl : k = 4 := by omega
      subst hkl
      obtain ⟨R, hR⟩ : ∃ R, giveTo gs o 4 = R := ⟨_, rfl⟩
      rw [hR] at q0 n4
      have K1 : Hid (wr.rangeAt w.heap.size 0 (owL R)) := blk_range q0
      have S4 : Hid ((Try.prog.info? 48).map (·.size) = some (owL R).length) := by show _ = _; rw [owL_len, n4]; exact Try.size48
      have S5 : Hid ((Try.prog.info? 48).map (·.size) = some (owL R).toArray.size) := by show _ = _; rw [List.size_toArray]; exact S4.out
      have K2 : Hid (wr.there (w.heap.size + 1) 0 (owL R).toArray.size) := by show World.there _ _ _ _; rw [show (owL R).toArray.size = 4 by rw [List.size_toArray, owL_len, n4]]; exact blk_there q1 0 4 (Nat.le_refl _)
      have K3 : Hid (Below w.heap.size w (wr.setCells (w.heap.size + 1) 0 (owL R).toArray.toList)) := blk_below (by omega) _ _ _ hB
      have K4 : Hid ((wr.setCells (w.heap.size + 1) 0 (owL R).toArray.toList).rangeAt (w.heap.size + 1) 0 (owL R)) := blk_range (blk_set q1 (L := (owL R)) (by rw [owL_len, n4]; rfl))
      have L4 : Hid ((owL R).length = 4) := by show _ = _; rw [owL_len, n4]
      have HRR : Hid (giveTo gs o 4 = R) := hR
      clear q0 q1 n4 n5 hR hu1
      go_wp2_with (first
        | (refine wpList_load_mid rfl 48 _ rfl w.heap.size 0 rfl (owL R) _ K1.out Try.underlying48 rfl S4.out ?_)
        | (refine wpList_store_mid rfl 48 _ _ rfl (w.heap.size + 1) 0 (owL R).toArray rfl rfl K2.out S5.out (owL_ones R) ?_))
      exact bodyPost_ret (v := .agg (owL R).toArray) (results_one rfl rfl (res23 K4.out L4.out)) rfl ⟨by rw [HRR.out], K3.out⟩
end Go.Proofs.Ytcehmaegnfelhaa
