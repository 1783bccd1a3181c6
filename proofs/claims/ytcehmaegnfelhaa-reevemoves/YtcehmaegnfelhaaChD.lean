/- Chains: blocks that are written whole; count, MinFunc, MaxFunc, fewest, most, walked. -/
import Derived.Test.YtcehmaegnfelhaaChC
namespace Go.Proofs.Ytcehmaegnfelhaa
open Go.RowKit
attribute [local go_sem ↓] Go.wp_at_zero Go.wp_at_succ

theorem blk_cells {b : Nat} {t : TypeId} {fr : Nat × Nat} : ∀ (L : List Value) (o : Nat) (w : World) (cs : Array Value), w.heap[b]? = some (.cells cs t fr) →
    ∃ ds : Array Value, (w.setCells b o L).heap[b]? = some (.cells ds t fr) ∧ ds.size = cs.size ∧ ∀ j, ds[j]? = if o ≤ j ∧ j < o + L.length ∧ j < cs.size then L[j - o]? else cs[j]?
  | [], o, w, cs, h => ⟨cs, h, rfl, fun j => by rw [if_neg (by simp; omega)]⟩
  | v :: r, o, w, cs, h => by
    obtain ⟨ds, h1, h2, h3⟩ := blk_cells r (o + 1) _ _ (setB h o v)
    refine ⟨ds, h1, by rw [h2]; simp, fun j => ?_⟩
    rw [h3, Array.size_setIfInBounds, Array.getElem?_setIfInBounds]
    by_cases e : o = j
    · subst e
      rw [if_neg (by omega), if_pos rfl]
      by_cases hs : o < cs.size
      · rw [if_pos (by omega), if_pos (by simp; omega)]; simp
      · rw [if_neg (by omega), if_neg (by omega)]
        rw [Array.getElem?_eq_none (by omega)]
    · by_cases hc : o + 1 ≤ j ∧ j < o + 1 + r.length ∧ j < cs.size
      · rw [if_pos hc, if_pos (by simp; omega)]
        rw [show j - o = (j - (o + 1)) + 1 by omega, List.getElem?_cons_succ]
      · rw [if_neg hc, if_neg e, if_neg (by simp; omega)]
/-- A block that is written whole. -/
theorem blk_set {w : World} {b : Nat} {cs : Array Value} {t : TypeId} {fr : Nat × Nat} (h : w.heap[b]? = some (.cells cs t fr)) {L : List Value} (hL : L.length = cs.size) : (w.setCells b 0 L).heap[b]? = some (.cells L.toArray t fr) := by
  obtain ⟨ds, h1, h2, h3⟩ := blk_cells L 0 w cs h
  rw [h1]
  congr 2
  apply Array.ext_getElem?
  intro j
  rw [h3]
  by_cases hj : j < L.length
  · rw [if_pos (by omega)]; simp
  · rw [if_neg (by omega), Array.getElem?_eq_none (by omega)]; simp; omega
/-- A part of a block that is written. -/
theorem blk_far {b k : Nat} (hk : k ≠ b) : ∀ (L : List Value) (o : Nat) (w : World), (w.setCells b o L).heap[k]? = w.heap[k]?
  | [], _, _ => rfl
  | v :: r, o, w => by rw [World.setCells, blk_far hk r, set_far hk]
theorem blk_size (b : Nat) : ∀ (L : List Value) (o : Nat) (w : World), (w.setCells b o L).heap.size = w.heap.size
  | [], _, _ => rfl
  | v :: r, o, w => by rw [World.setCells, blk_size b r]; simp [World.setCell]
theorem blk_there {w : World} {b : Nat} {cs : Array Value} {t : TypeId} (h : w.heap[b]? = some (.cells cs t)) (o n : Nat) (hn : o + n ≤ cs.size) : w.there b o n := fun j hj => by
  refine ⟨?_, frozenB h _⟩
  rw [cellB h (o + j) _ (Array.getElem?_eq_getElem (by omega))]; rfl
theorem blk_range {w : World} {b : Nat} {t : TypeId} {fr : Nat × Nat} {L : List Value} (h : w.heap[b]? = some (.cells L.toArray t fr)) : w.rangeAt b 0 L := fun j v hv => by
  rw [Nat.zero_add]; exact cellB h j v (by rw [List.getElem?_toArray]; exact hv)
theorem blk_below {B b : Nat} {w0 : World} (hb : B ≤ b) : ∀ (L : List Value) (o : Nat) (w : World), Below B w0 w → Below B w0 (w.setCells b o L)
  | [], _, _, h => h
  | v :: r, o, w, h => by
    rw [World.setCells]
    exact blk_below hb r (o + 1) _ (h.setCell (p := ⟨b, o, none⟩) hb v)

theorem Try.size91 : (Try.prog.info? 91).map (·.size) = some 5 := by kernel_rfl
theorem Try.size48 : (Try.prog.info? 48).map (·.size) = some 4 := by kernel_rfl
theorem Try.size50 : (Try.prog.info? 50).map (·.size) = some 6 := by kernel_rfl
/-- A function's one result that lies in a block. -/
theorem results_one {P : Program} {fn : Func} {tmps : Array Value} {w : World} {a : Nat} {t : TypeId} {b : Addr} {v : Value} (hr : fn.results = #[.cell a t]) (ha : tmps.getD a undef = .pointer (some b)) (hv : (loadVar t b).run P w = .ok v w) :
    (results fn tmps).run P w = .ok v w := by
  have e : (asAddr (tmps.getD a undef)).run P w = .ok b w := by rw [ha]; rfl
  simp only [results, hr]
  simp only [List.mapM_toArray, List.mapM_cons, List.mapM_nil, Sem.run_bind, Sem.run_map, e, hv, Result.andThen_ok, Sem.run_pure]
  rfl
theorem results_two {P : Program} {fn : Func} {tmps : Array Value} {w : World} {a k : Nat} {t : TypeId} {b : Addr} {v u : Value} (hr : fn.results = #[.cell a t, .tmp k]) (ha : tmps.getD a undef = .pointer (some b)) (hu : tmps.getD k undef = u) (hv : (loadVar t b).run P w = .ok v w) :
    (results fn tmps).run P w = .ok (.tuple #[v, u]) w := by
  subst hu
  have e : (asAddr (tmps.getD a undef)).run P w = .ok b w := by rw [ha]; rfl
  simp only [results, hr]
  simp only [List.mapM_toArray, List.mapM_cons, List.mapM_nil, Sem.run_bind, Sem.run_map, e, hv, Result.andThen_ok, Sem.run_pure]
  rfl
theorem res66 {W : World} {R : Nat} {L : List Value} (h : W.rangeAt R 0 L) (hl : L.length = 5) : (loadVar 91 ⟨R, 0, none⟩).run Try.prog W = .ok (.agg L.toArray) W :=
  run_loadVar_mid W R 0 91 L _ h Try.underlying91 rfl (by rw [hl]; exact Try.size91)
theorem res23 {W : World} {R : Nat} {L : List Value} (h : W.rangeAt R 0 L) (hl : L.length = 4) : (loadVar 48 ⟨R, 0, none⟩).run Try.prog W = .ok (.agg L.toArray) W :=
  run_loadVar_mid W R 0 48 L _ h Try.underlying48 rfl (by rw [hl]; exact Try.size48)
theorem res25 {W : World} {R : Nat} {L : List Value} (h : W.rangeAt R 0 L) (hl : L.length = 6) : (loadVar 50 ⟨R, 0, none⟩).run Try.prog W = .ok (.agg L.toArray) W :=
  run_loadVar_mid W R 0 50 L _ h Try.underlying50 rfl (by rw [hl]; exact Try.size50)
/-- Numbers of Nat. -/
def zi (l : List Nat) : List Int := l.map fun (n : Nat) => (n : Int)
theorem zi_len (l : List Nat) : (zi l).length = l.length := by simp [zi]
theorem zi_at (l : List Nat) (k : Nat) (t : Nat) (h : l[k]? = some t) : (zi l)[k]? = some (t : Int) := by simp [zi, h]
theorem cnt_snoc (l : List Nat) (t g : Nat) : cnt (l ++ [t]) g = cnt l g + if t == g then 1 else 0 := by
  unfold cnt
  rw [List.foldl_append]
  simp only [List.foldl_cons, List.foldl_nil]
  split <;> rfl
theorem cnt_le (l : List Nat) (g : Nat) : cnt l g ≤ l.length := by
  have : ∀ (l : List Nat) (n : Nat), l.foldl (fun n x => if x == g then n + 1 else n) n ≤ n + l.length := by
    intro l
    induction l with
    | nil => intro n; simp
    | cons a r ih => intro n; simp only [List.foldl_cons, List.length_cons]; refine Nat.le_trans (ih _) ?_; split <;> omega
  have := this l 0
  unfold cnt; omega
theorem lds_set (f : Nat → Nat) (t : Nat) (ht : t ≤ 4) (v : Nat) : (lds f).setIfInBounds t (.int .i64 v) = lds (fun x => if x = t then v else f x) := by
  rcases t with _ | _ | _ | _ | _ | t
  all_goals first | rfl | omega
theorem four_at (a b c d : Nat) (k t : Nat) (h : [a, b, c, d][k]? = some t) : (#[Value.int .i64 (a : Int), .int .i64 (b : Int), .int .i64 (c : Int), .int .i64 (d : Int)] : Array Value)[k]? = some (.int .i64 t) := by
  rcases k with _ | _ | _ | _ | k <;> simp at h <;> subst h <;> rfl
/-- Four owners as cells. -/
abbrev ow (a b c d : Nat) : Array Value := #[Value.int .i64 (a : Int), .int .i64 (b : Int), .int .i64 (c : Int), .int .i64 (d : Int)]
theorem ones_lds (f : Nat → Nat) : (lds f).all (·.oneCell') = true := by simp [Value.oneCell']
theorem zero_lds : (#[Value.int .i64 0, .int .i64 0, .int .i64 0, .int .i64 0, .int .i64 0] : Array Value) = lds (cnt []) := rfl
set_option maxRecDepth 20000 in
set_option maxHeartbeats 4000000 in
theorem count_any (a b c d : Nat) (ha : a ≤ 4) (hb : b ≤ 4) (hc : c ≤ 4) (hd : d ≤ 4) (w : World) :
    Calls Try.prog 52 #[.agg (ow a b c d)] w fun e W' => e = .returned (.agg (lds (cnt [a, b, c, d]))) ∧ Below w.heap.size w W' := by
  have hall : ∀ (k t : Nat), [a, b, c, d][k]? = some t → t ≤ 4 := by
    intro k t h
    rcases k with _ | _ | _ | _ | k <;> simp at h <;> omega
  have hat := four_at a b c d
  obtain ⟨W0, hW0⟩ : ∃ W, ((w.alloc (.cells (ow a b c d) 48)).alloc (.cells (lds (cnt [])) 91)).alloc (.cells (lds (cnt [])) 91) = W := ⟨_, rfl⟩
  have hb0 : Below w.heap.size w W0 := by
    rw [← hW0]
    exact (((Below.refl _ w).alloc (Nat.le_refl _) _).alloc (by simp) _).alloc (by simp; omega) _
  have hsz : W0.heap.size = w.heap.size + 3 := by rw [← hW0]; simp
  have r0 : W0.heap[w.heap.size]? = some (.cells (ow a b c d) 48) := by
    rw [← hW0]
    exact ((Below.heap_alloc _ _ _ (by simp; omega)).trans (Below.heap_alloc _ _ _ (by simp))).trans (heap_alloc_new _ _)
  have r1 : W0.heap[w.heap.size + 1]? = some (.cells (lds (cnt [])) 91) := by
    rw [← hW0]
    refine (Below.heap_alloc _ _ _ (by simp)).trans ?_
    have := heap_alloc_new (w.alloc (.cells (ow a b c d) 48)) (.cells (lds (cnt [])) 91)
    rwa [show (w.alloc (.cells (ow a b c d) 48)).heap.size = w.heap.size + 1 by simp] at this
  have r2 : W0.heap[w.heap.size + 2]? = some (.cells (lds (cnt [])) 91) := by
    rw [← hW0]
    have := heap_alloc_new ((w.alloc (.cells (ow a b c d) 48)).alloc (.cells (lds (cnt [])) 91)) (.cells (lds (cnt [])) 91)
    rwa [show ((w.alloc (.cells (ow a b c d) 48)).alloc (.cells (lds (cnt [])) 91)).heap.size = w.heap.size + 2 by simp] at this
  have HV : Hid (((w.alloc (.cells (ow a b c d) 48)).alloc (.cells (lds (cnt [])) 91)).alloc (.cells (lds (cnt [])) 91) = W0) := hW0
  have HR0 : Hid (W0.heap[w.heap.size]? = some (.cells (ow a b c d) 48)) := r0
  have HR1 : Hid (W0.heap[w.heap.size + 1]? = some (.cells (lds (cnt [])) 91)) := r1
  have HR2 : Hid (W0.heap[w.heap.size + 2]? = some (.cells (lds (cnt [])) 91)) := r2
  have Hat : Hid (∀ (k t : Nat), [a, b, c, d][k]? = some t → (ow a b c d)[k]? = some (.int .i64 t)) := hat
  clear hW0 r0 r1 r2 hat hsz
  obtain ⟨os, ho⟩ : ∃ os, [a, b, c, d] = os := ⟨_, rfl⟩
  have hol : os.length = 4 := by rw [← ho]; rfl
  rw [ho] at hall Hat ⊢
  clear ho ha hb hc hd
  go_enter Try.func52, Try.ntmps52
  go_upto_region 2 with fail
  rw [zero_lds, HV.out]
  clear HV
  go_wp2_with fail
  go_loopg [5] 4 (fun gk i wr => ∃ k : Nat, k + gk = 4 ∧ i = .int .i64 k ∧ Below w.heap.size w wr ∧ wr.heap[w.heap.size]? = some (.cells (ow a b c d) 48) ∧ wr.heap[w.heap.size + 1]? = some (.cells (lds (cnt [])) 91) ∧ wr.heap[w.heap.size + 2]? = some (.cells (lds (cnt (os.take k))) 91))
  case atStart => exact ⟨0, by omega, rfl, hb0, HR0.out, HR1.out, HR2.out⟩
  case round =>
    obtain ⟨k, hk, rfl, hB, q0, q1, q2⟩ := hrel
    clear HR0 HR1 HR2 hb0
    by_cases hlt : k < 4
    · obtain ⟨t, ht⟩ : ∃ t, os[k]? = some t := ⟨_, List.getElem?_eq_getElem (by omega)⟩
      have t4 := hall k t ht
      have t5 : t < 5 := by omega
      have x1 := cellB q0 k _ (Hat.out k t ht)
      have x2 := cellB q2 t _ (lds_at (cnt (os.take k)) t t4)
      have x3 := frozenB q2 t
      have k0 : (0 : Int) ≤ (k : Int) := by omega
      have k1 : (k : Int) < 4 := by omega
      have hcl : cnt (os.take k) t ≤ 4 := Nat.le_trans (cnt_le _ _) (by simp; omega)
      have htk : os.take (k + 1) = os.take k ++ [t] := by rw [List.take_add_one, ht]; rfl
      have HT : Hid ((lds (cnt (os.take k))).setIfInBounds t (.int .i64 ((cnt (os.take k) t + 1 : Nat) : Int)) = lds (cnt (os.take (k + 1)))) := by
        show _ = _
        rw [lds_set _ t t4, htk]
        congr 1
        funext x
        rw [cnt_snoc]
        by_cases e : x = t
        · subst e; simp
        · rw [if_neg e, if_neg (by simp; exact fun h => e h.symm), Nat.add_zero]
      obtain ⟨n, hn⟩ : ∃ n, cnt (os.take k) t = n := ⟨_, rfl⟩
      rw [hn] at x2 hcl HT
      have Q0 : Hid (wr.heap[w.heap.size]? = some (.cells (ow a b c d) 48)) := q0
      have Q1 : Hid (wr.heap[w.heap.size + 1]? = some (.cells (lds (cnt [])) 91)) := q1
      have Q2 : Hid (wr.heap[w.heap.size + 2]? = some (.cells (lds (cnt (os.take k))) 91)) := q2
      clear q0 q1 q2 ht htk hn Hat hall
      go_wp2
      go_roundg (4 - (k + 1))
      case measure => omega
      case rel =>
        refine ⟨k + 1, by omega, by go_num, hB.setCell (by simp; omega) _, (set_far (by omega) _ _).trans Q0.out, (set_far (by omega) _ _).trans Q1.out, ?_⟩
        rw [← HT.out]
        refine (setB Q2.out t _).trans ?_
        congr 4
    · have hkl : k = 4 := by omega
      subst hkl
      have htk : os.take 4 = os := by rw [← hol]; exact List.take_length
      rw [htk] at q2
      have k1 := blk_range (L := (lds (cnt os)).toList) q2
      have k2 := blk_there q1 0 5 (Nat.le_refl _)
      have k3 : Below w.heap.size w (wr.setCells (w.heap.size + 1) 0 (lds (cnt os)).toList) := blk_below (by omega) _ _ _ hB
      have k4 := blk_range (blk_set q1 (L := (lds (cnt os)).toList) rfl)
      have K1 : Hid (wr.rangeAt (w.heap.size + 2) 0 (lds (cnt os)).toList) := k1
      have K2 : Hid (wr.there (w.heap.size + 1) 0 5) := k2
      have K3 : Hid (Below w.heap.size w (wr.setCells (w.heap.size + 1) 0 (lds (cnt os)).toList)) := k3
      have K4 : Hid ((wr.setCells (w.heap.size + 1) 0 (lds (cnt os)).toList).rangeAt (w.heap.size + 1) 0 (lds (cnt os)).toList) := k4
      clear k1 k2 k3 k4 q0 q1 q2 htk Hat hall
      go_wp2_with (first
        | (refine wpList_load_mid rfl 91 _ rfl (w.heap.size + 2) 0 rfl (lds (cnt os)).toList _ K1.out Try.underlying91 rfl Try.size91 ?_)
        | (refine wpList_store_mid rfl 91 _ _ rfl (w.heap.size + 1) 0 (lds (cnt os)) rfl rfl K2.out Try.size91 (ones_lds _) ?_))
      exact bodyPost_ret (v := .agg (lds (cnt os))) (results_one rfl rfl (res66 K4.out rfl)) rfl ⟨rfl, K3.out⟩
end Go.Proofs.Ytcehmaegnfelhaa
