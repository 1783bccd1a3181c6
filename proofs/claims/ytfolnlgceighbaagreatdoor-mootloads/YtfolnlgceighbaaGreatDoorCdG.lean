/- Chains, the document's side: Next, walked: commands that fit. -/
import Derived.Test.YtfolnlgceighbaaGreatDoorCdF
namespace Go.Proofs.YtfolnlgceighbaaGreatDoor
open Go.RowKit
attribute [local go_sem ↓] Go.wp_at_zero Go.wp_at_succ

/-- Which groups are kept. -/
def kpG (k g : Nat) (gs : List Nat) (x : Nat) : Bool := if g == x then k != 2 else gs.contains x
def kpT (k g : Nat) (gs : List Nat) (n : Nat) : List Nat := ([1, 2, 3, 4].take n).filter (kpG k g gs)
theorem kpT_succ (k g : Nat) (gs : List Nat) (n : Nat) (h : n < 4) : kpT k g gs (n + 1) = if kpG k g gs (n + 1) then kpT k g gs n ++ [n + 1] else kpT k g gs n := by
  unfold kpT
  have : [1, 2, 3, 4].take (n + 1) = [1, 2, 3, 4].take n ++ [n + 1] := by
    rcases n with _ | _ | _ | _ | n
    · rfl
    · rfl
    · rfl
    · rfl
    · omega
  rw [this, List.filter_append]
  cases hk : kpG k g gs (n + 1) with
  | true => simp [hk]
  | false => simp [hk]
def kpAll : Bool := subs0.all fun gs => [1, 2, 3, 4].all fun g => (if gs.contains g then kpT 2 g gs 4 == nG 2 g gs && kpT 3 g gs 4 == nG 3 g gs else kpT 1 g gs 4 == nG 1 g gs)
theorem kp_all : kpAll = true := by decide +kernel
theorem kp_of {gs : List Nat} {k g s : Nat} (hg : gs ∈ subs0) (hk : okK k g s gs) : kpT k g gs 4 = nG k g gs := by
  have h := kp_all
  unfold kpAll at h
  rw [List.all_eq_true] at h
  have h := h gs hg
  rw [List.all_eq_true] at h
  obtain ⟨h1, h4, ⟨rfl, h5, rfl⟩ | ⟨rfl, h5, h6, rfl⟩ | ⟨rfl, h5, h6⟩⟩ := hk
  · have h := h g (by simp; omega)
    rw [if_neg (by rw [h5]; simp)] at h
    exact beq_iff_eq.1 h
  · have h := h g (by simp; omega)
    rw [if_pos h5] at h
    simp only [Bool.and_eq_true, beq_iff_eq] at h
    exact h.1
  · have h := h g (by simp; omega)
    rw [if_pos h5] at h
    simp only [Bool.and_eq_true, beq_iff_eq] at h
    exact h.2
theorem kpT_len (k g : Nat) (gs : List Nat) (n : Nat) (h : n ≤ 4) : (kpT k g gs n).length ≤ n := by
  unfold kpT
  refine Nat.le_trans (List.length_filter_le _ _) ?_
  simp
  omega
set_option maxRecDepth 20000 in
set_option maxHeartbeats 2000000 in
theorem rNext_l1 (num : Int) (n0 : 0 ≤ num) (n1 : num ≤ 1099511627776) (gv : Value) (gs : List Nat) (a b c d g : Nat) (w : World) (hu : Il w gv (zi gs)) (hg : gs ∈ subs0) (ho : [a, b, c, d] ∈ owners0 gs) (g1 : 1 ≤ g) (g4 : g ≤ 4) (hc : gs.contains g = false) (hn : num = 1099511627776) :
    Calls Tryz.prog 67 #[.agg (cf num gv a b c d), .agg #[.int .i64 1, .int .i64 g, .int .i64 0]] w fun e W' => e = .returned (.tuple #[.agg (cf 0 (.slice none 0 0) 0 0 0 0), .int .i64 151]) ∧ Below w.heap.size w W' := by
  have HNM : Hid (num = 1099511627776) := hn
  clear hn
  obtain ⟨W0, hW0⟩ : ∃ W, ((w.alloc (.cells (cf num gv a b c d) 32)).alloc (.cells #[.int .i64 1, .int .i64 g, .int .i64 0] 100)).alloc (.cells (cf 0 (.slice none 0 0) 0 0 0 0) 32) = W := ⟨_, rfl⟩
  have hN := nb_of num gv a b c d 1 g 0 w W0 hW0
  have HV : Hid (((w.alloc (.cells (cf num gv a b c d) 32)).alloc (.cells #[.int .i64 1, .int .i64 g, .int .i64 0] 100)).alloc (.cells (cf 0 (.slice none 0 0) 0 0 0 0) 32) = W0) := hW0
  have HN : Hid (Nb w num gv a b c d 1 g 0 W0) := hN
  have hC := rCheck_any num gv (zi gs) a b c d W0 (hu.next hN.bel) (by rw [zi_len]; have := (conf_of hg).1; omega)
  rw [if_pos (show okC num (zi gs) [(a : Int), b, c, d] = true from ok_conf hg ho n0 n1)] at hC
  have K0 : Hid (W0.rangeAt w.heap.size 0 (cfL num gv a b c d)) := blk_range (L := cfL num gv a b c d) hN.r0
  have HU : Hid (Il w gv (zi gs)) := hu
  have HIn : Hid (∀ (x : Nat) W, Below w.heap.size w W → Calls Tryz.prog 44 #[gv, .int .i64 (x : Int)] W fun e W' => e = .returned (.bool (gs.contains x)) ∧ W' = W) := fun x W hW => by
    have := rIn_any (zi gs) x gv W (HU.out.next hW) (by rw [zi_len]; have := (conf_of hg).1; omega)
    rw [isIn_zi'] at this
    exact this
  have hl4 := (conf_of hg).1
  obtain ⟨pa, pc, hpv⟩ := hu.slice
  rw [zi_len] at hpv
  subst hpv
  have dg1 : ¬ (g : Int) < 1 := by omega
  have dg4 : ¬ (4 : Int) < (g : Int) := by omega
  clear hW0 hN hu
  go_enter Tryz.func67, Tryz.ntmps67
  go_upto_region 1 with fail
  rw [HV.out]
  clear HV
  go_upto_region 3 with (first
    | (refine wpList_load_mid rfl 32 _ rfl w.heap.size 0 rfl (cfL num (.slice pa gs.length pc) a b c d) _ K0.out Tryz.underlying32 rfl Tryz.size32 ?_)
    | (go_at_call 14; refine hC.mono ?_; rintro e w1 ⟨rfl, hb1⟩; have HN1 : Hid (Nb w num (.slice pa gs.length pc) a b c d 1 g 0 w1) := HN.out.next hb1; clear hb1))
  clear hC K0 HN
  have x0 := cellB HN1.out.r1 0 _ rfl
  have x1 := cellB HN1.out.r1 1 _ rfl
  have x2 := cellB HN1.out.r1 2 _ rfl
  have y1 := cellB HN1.out.r0 1 _ rfl
  have hI := HIn.out g w1 HN1.out.bel
  rw [hc] at hI
  clear hc
  go_upto_region 5 with fail
  go_upto_region 6 with (first
    | (go_at_call 44; refine hI.mono ?_; rintro e w2 ⟨rfl, h9⟩; subst w2))
  clear hI
  go_quiet (fail)
  have HND := HN1.out.next (below_drewN (Below.refl _ w1) nq)
  obtain ⟨WD, hWD⟩ : ∃ W, w1.drewN nq = W := ⟨_, rfl⟩
  rw [hWD] at HND ⊢
  have hnq : (num == 1099511627776) = true := by rw [beq_iff_eq]; exact HNM.out
  have z0 := cellB HND.r0 0 _ rfl
  go_upto_region 9 with fail
  have KS : Hid (WD.there (w.heap.size + 2) 0 6) := blk_there HND.r2 0 6 (Nat.le_refl _)
  go_wp2_with (first
    | (refine wpList_store_mid rfl 32 _ _ rfl (w.heap.size + 2) 0 (cf 0 (.slice none 0 0) 0 0 0 0) rfl rfl KS.out Tryz.size32 (cf_ones _ _ _ _ _ _ _ _) ?_))
  have k4 := blk_range (blk_set HND.r2 (L := cfL 0 (.slice none 0 0) 0 0 0 0) rfl)
  exact bodyPost_ret (v := .tuple #[.agg (cf 0 (.slice none 0 0) 0 0 0 0), .int .i64 151]) (results_two rfl rfl rfl (res32 k4 rfl)) rfl ⟨rfl, blk_below (by omega) _ _ _ HND.bel⟩
set_option maxRecDepth 20000 in
set_option maxHeartbeats 2000000 in
theorem rNext_l2 (num : Int) (n0 : 0 ≤ num) (n1 : num ≤ 1099511627776) (gv : Value) (gs : List Nat) (a b c d g : Nat) (w : World) (hu : Il w gv (zi gs)) (hg : gs ∈ subs0) (ho : [a, b, c, d] ∈ owners0 gs) (g1 : 1 ≤ g) (g4 : g ≤ 4) (hc : gs.contains g = true) (hl1 : 1 < gs.length)  (hn : num = 1099511627776) :
    Calls Tryz.prog 67 #[.agg (cf num gv a b c d), .agg #[.int .i64 2, .int .i64 g, .int .i64 0]] w fun e W' => e = .returned (.tuple #[.agg (cf 0 (.slice none 0 0) 0 0 0 0), .int .i64 151]) ∧ Below w.heap.size w W' := by
  have HNM : Hid (num = 1099511627776) := hn
  clear hn
  obtain ⟨W0, hW0⟩ : ∃ W, ((w.alloc (.cells (cf num gv a b c d) 32)).alloc (.cells #[.int .i64 2, .int .i64 g, .int .i64 0] 100)).alloc (.cells (cf 0 (.slice none 0 0) 0 0 0 0) 32) = W := ⟨_, rfl⟩
  have hN := nb_of num gv a b c d 2 g 0 w W0 hW0
  have HV : Hid (((w.alloc (.cells (cf num gv a b c d) 32)).alloc (.cells #[.int .i64 2, .int .i64 g, .int .i64 0] 100)).alloc (.cells (cf 0 (.slice none 0 0) 0 0 0 0) 32) = W0) := hW0
  have HN : Hid (Nb w num gv a b c d 2 g 0 W0) := hN
  have hC := rCheck_any num gv (zi gs) a b c d W0 (hu.next hN.bel) (by rw [zi_len]; have := (conf_of hg).1; omega)
  rw [if_pos (show okC num (zi gs) [(a : Int), b, c, d] = true from ok_conf hg ho n0 n1)] at hC
  have K0 : Hid (W0.rangeAt w.heap.size 0 (cfL num gv a b c d)) := blk_range (L := cfL num gv a b c d) hN.r0
  have HU : Hid (Il w gv (zi gs)) := hu
  have HIn : Hid (∀ (x : Nat) W, Below w.heap.size w W → Calls Tryz.prog 44 #[gv, .int .i64 (x : Int)] W fun e W' => e = .returned (.bool (gs.contains x)) ∧ W' = W) := fun x W hW => by
    have := rIn_any (zi gs) x gv W (HU.out.next hW) (by rw [zi_len]; have := (conf_of hg).1; omega)
    rw [isIn_zi'] at this
    exact this
  have hl4 := (conf_of hg).1
  obtain ⟨pa, pc, hpv⟩ := hu.slice
  rw [zi_len] at hpv
  subst hpv
  have dg1 : ¬ (g : Int) < 1 := by omega
  have dg4 : ¬ (4 : Int) < (g : Int) := by omega
  clear hW0 hN hu
  have hq1 : ((gs.length : Int) == 1) = false := by rw [beq_eq_false_iff_ne]; omega
  have HL1 : Hid (1 < gs.length) := hl1
  clear hl1
  go_enter Tryz.func67, Tryz.ntmps67
  go_upto_region 1 with fail
  rw [HV.out]
  clear HV
  go_upto_region 3 with (first
    | (refine wpList_load_mid rfl 32 _ rfl w.heap.size 0 rfl (cfL num (.slice pa gs.length pc) a b c d) _ K0.out Tryz.underlying32 rfl Tryz.size32 ?_)
    | (go_at_call 14; refine hC.mono ?_; rintro e w1 ⟨rfl, hb1⟩; have HN1 : Hid (Nb w num (.slice pa gs.length pc) a b c d 2 g 0 w1) := HN.out.next hb1; clear hb1))
  clear hC K0 HN
  have x0 := cellB HN1.out.r1 0 _ rfl
  have x1 := cellB HN1.out.r1 1 _ rfl
  have x2 := cellB HN1.out.r1 2 _ rfl
  have y1 := cellB HN1.out.r0 1 _ rfl
  have hI := HIn.out g w1 HN1.out.bel
  rw [hc] at hI
  clear hc
  go_upto_region 5 with fail
  go_upto_region 6 with (first
    | (go_at_call 44; refine hI.mono ?_; rintro e w2 ⟨rfl, h9⟩; subst w2))
  clear hI
  go_quiet (fail)
  have HND := HN1.out.next (below_drewN (Below.refl _ w1) nq)
  obtain ⟨WD, hWD⟩ : ∃ W, w1.drewN nq = W := ⟨_, rfl⟩
  rw [hWD] at HND ⊢
  have hnq : (num == 1099511627776) = true := by rw [beq_iff_eq]; exact HNM.out
  have z0 := cellB HND.r0 0 _ rfl
  go_upto_region 9 with fail
  have KS : Hid (WD.there (w.heap.size + 2) 0 6) := blk_there HND.r2 0 6 (Nat.le_refl _)
  go_wp2_with (first
    | (refine wpList_store_mid rfl 32 _ _ rfl (w.heap.size + 2) 0 (cf 0 (.slice none 0 0) 0 0 0 0) rfl rfl KS.out Tryz.size32 (cf_ones _ _ _ _ _ _ _ _) ?_))
  have k4 := blk_range (blk_set HND.r2 (L := cfL 0 (.slice none 0 0) 0 0 0 0) rfl)
  exact bodyPost_ret (v := .tuple #[.agg (cf 0 (.slice none 0 0) 0 0 0 0), .int .i64 151]) (results_two rfl rfl rfl (res32 k4 rfl)) rfl ⟨rfl, blk_below (by omega) _ _ _ HND.bel⟩
set_option maxRecDepth 20000 in
set_option maxHeartbeats 2000000 in
theorem rNext_l3 (num : Int) (n0 : 0 ≤ num) (n1 : num ≤ 1099511627776) (gv : Value) (gs : List Nat) (a b c d g s : Nat) (w : World) (hu : Il w gv (zi gs)) (hg : gs ∈ subs0) (ho : [a, b, c, d] ∈ owners0 gs) (g1 : 1 ≤ g) (g4 : g ≤ 4) (hc : gs.contains g = true) (hs : s < 4) (t : Nat) (hw : [a, b, c, d][s]? = some t) (htg : t ≠ g) (hn : num = 1099511627776) :
    Calls Tryz.prog 67 #[.agg (cf num gv a b c d), .agg #[.int .i64 3, .int .i64 g, .int .i64 s]] w fun e W' => e = .returned (.tuple #[.agg (cf 0 (.slice none 0 0) 0 0 0 0), .int .i64 151]) ∧ Below w.heap.size w W' := by
  have HNM : Hid (num = 1099511627776) := hn
  clear hn
  obtain ⟨W0, hW0⟩ : ∃ W, ((w.alloc (.cells (cf num gv a b c d) 32)).alloc (.cells #[.int .i64 3, .int .i64 g, .int .i64 s] 100)).alloc (.cells (cf 0 (.slice none 0 0) 0 0 0 0) 32) = W := ⟨_, rfl⟩
  have hN := nb_of num gv a b c d 3 g s w W0 hW0
  have HV : Hid (((w.alloc (.cells (cf num gv a b c d) 32)).alloc (.cells #[.int .i64 3, .int .i64 g, .int .i64 s] 100)).alloc (.cells (cf 0 (.slice none 0 0) 0 0 0 0) 32) = W0) := hW0
  have HN : Hid (Nb w num gv a b c d 3 g s W0) := hN
  have hC := rCheck_any num gv (zi gs) a b c d W0 (hu.next hN.bel) (by rw [zi_len]; have := (conf_of hg).1; omega)
  rw [if_pos (show okC num (zi gs) [(a : Int), b, c, d] = true from ok_conf hg ho n0 n1)] at hC
  have K0 : Hid (W0.rangeAt w.heap.size 0 (cfL num gv a b c d)) := blk_range (L := cfL num gv a b c d) hN.r0
  have HU : Hid (Il w gv (zi gs)) := hu
  have HIn : Hid (∀ (x : Nat) W, Below w.heap.size w W → Calls Tryz.prog 44 #[gv, .int .i64 (x : Int)] W fun e W' => e = .returned (.bool (gs.contains x)) ∧ W' = W) := fun x W hW => by
    have := rIn_any (zi gs) x gv W (HU.out.next hW) (by rw [zi_len]; have := (conf_of hg).1; omega)
    rw [isIn_zi'] at this
    exact this
  have hl4 := (conf_of hg).1
  obtain ⟨pa, pc, hpv⟩ := hu.slice
  rw [zi_len] at hpv
  subst hpv
  have dg1 : ¬ (g : Int) < 1 := by omega
  have dg4 : ¬ (4 : Int) < (g : Int) := by omega
  clear hW0 hN hu
  have ds0 : ¬ (s : Int) < 0 := by omega
  have ds4 : ¬ (4 : Int) ≤ (s : Int) := by omega
  have s0 : (0 : Int) ≤ (s : Int) := by omega
  have s4 : (s : Int) < 4 := by omega
  have htq : ((t : Int) == (g : Int)) = false := by rw [beq_eq_false_iff_ne]; omega
  have HCO : Hid ((cf num (.slice pa gs.length pc) a b c d)[2 + s]? = some (.int .i64 (t : Int))) := cf_at num (.slice pa gs.length pc) a b c d s t (by rcases s with _ | _ | _ | _ | s <;> simp at hw ⊢ <;> omega)
  go_enter Tryz.func67, Tryz.ntmps67
  go_upto_region 1 with fail
  rw [HV.out]
  clear HV
  go_upto_region 3 with (first
    | (refine wpList_load_mid rfl 32 _ rfl w.heap.size 0 rfl (cfL num (.slice pa gs.length pc) a b c d) _ K0.out Tryz.underlying32 rfl Tryz.size32 ?_)
    | (go_at_call 14; refine hC.mono ?_; rintro e w1 ⟨rfl, hb1⟩; have HN1 : Hid (Nb w num (.slice pa gs.length pc) a b c d 3 g s w1) := HN.out.next hb1; clear hb1))
  clear hC K0 HN
  have x0 := cellB HN1.out.r1 0 _ rfl
  have x1 := cellB HN1.out.r1 1 _ rfl
  have x2 := cellB HN1.out.r1 2 _ rfl
  have y1 := cellB HN1.out.r0 1 _ rfl
  have hI := HIn.out g w1 HN1.out.bel
  rw [hc] at hI
  clear hc
  go_upto_region 5 with fail
  go_upto_region 6 with (first
    | (go_at_call 44; refine hI.mono ?_; rintro e w2 ⟨rfl, h9⟩; subst w2))
  clear hI
  have y5 := cellB HN1.out.r0 _ _ HCO.out
  go_quiet (fail)
  have HND := HN1.out.next (below_drewN (Below.refl _ w1) nq)
  obtain ⟨WD, hWD⟩ : ∃ W, w1.drewN nq = W := ⟨_, rfl⟩
  rw [hWD] at HND ⊢
  have hnq : (num == 1099511627776) = true := by rw [beq_iff_eq]; exact HNM.out
  have z0 := cellB HND.r0 0 _ rfl
  go_upto_region 9 with fail
  have KS : Hid (WD.there (w.heap.size + 2) 0 6) := blk_there HND.r2 0 6 (Nat.le_refl _)
  go_wp2_with (first
    | (refine wpList_store_mid rfl 32 _ _ rfl (w.heap.size + 2) 0 (cf 0 (.slice none 0 0) 0 0 0 0) rfl rfl KS.out Tryz.size32 (cf_ones _ _ _ _ _ _ _ _) ?_))
  have k4 := blk_range (blk_set HND.r2 (L := cfL 0 (.slice none 0 0) 0 0 0 0) rfl)
  exact bodyPost_ret (v := .tuple #[.agg (cf 0 (.slice none 0 0) 0 0 0 0), .int .i64 151]) (results_two rfl rfl rfl (res32 k4 rfl)) rfl ⟨rfl, blk_below (by omega) _ _ _ HND.bel⟩
end Go.Proofs.YtfolnlgceighbaaGreatDoor
