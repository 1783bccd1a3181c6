/- Chains, the document's side: Next, walked: commands that do not fit. -/
import Derived.Test.YtfolnlgceighbaaGreatDoorCdE
namespace Go.Proofs.YtfolnlgceighbaaGreatDoor
open Go.RowKit
attribute [local go_sem ↓] Go.wp_at_zero Go.wp_at_succ

set_option maxRecDepth 20000 in
set_option maxHeartbeats 2000000 in
theorem rNext_g1 (num : Int) (n0 : 0 ≤ num) (n1 : num ≤ 1099511627776) (gv : Value) (gs : List Nat) (a b c d g : Nat) (w : World) (hu : Il w gv (zi gs)) (hg : gs ∈ subs0) (ho : [a, b, c, d] ∈ owners0 gs) (g1 : 1 ≤ g) (g4 : g ≤ 4) (hc : gs.contains g = true) :
    Calls Tryz.prog 67 #[.agg (cf num gv a b c d), .agg #[.int .i64 1, .int .i64 g, .int .i64 0]] w fun e W' => e = .returned (.tuple #[.agg (cf 0 (.slice none 0 0) 0 0 0 0), .int .i64 150]) ∧ Below w.heap.size w W' := by
  obtain ⟨W0, hW0⟩ : ∃ W, ((w.alloc (.cells (cf num gv a b c d) 32)).alloc (.cells #[.int .i64 1, .int .i64 g, .int .i64 0] 100)).alloc (.cells (cf 0 (.slice none 0 0) 0 0 0 0) 32) = W := ⟨_, rfl⟩
  have hN := nb_of num gv a b c d 1 g 0 w W0 hW0
  have HV : Hid (((w.alloc (.cells (cf num gv a b c d) 32)).alloc (.cells #[.int .i64 1, .int .i64 g, .int .i64 0] 100)).alloc (.cells (cf 0 (.slice none 0 0) 0 0 0 0) 32) = W0) := hW0
  have HN : Hid (Nb w num gv a b c d 1 g 0 W0) := hN
  have hC := rCheck_any num gv (zi gs) a b c d W0 (hu.next hN.bel) (by rw [zi_len]; have := (conf_of hg).1; omega)
  rw [if_pos (show okC num (zi gs) [(a : Int), b, c, d] = true from ok_conf hg ho n0 n1)] at hC
  have K0 : Hid (W0.rangeAt w.heap.size 0 (cfL num gv a b c d)) := blk_range (L := cfL num gv a b c d) hN.r0
  have HU : Hid (Il w gv (zi gs)) := hu
  have HIn : Hid (∀ (x : Nat) W, Below w.heap.size w W → Calls Tryz.prog 44 #[gv, .int .i64 (x : Int)] W fun e W' => e = .returned (.bool (gs.contains x)) ∧ W' = W) := fun x W hW => by
    have := rIn_any (zi gs) x gv W (HU.out.next hW) (by rw [zi_len]; have := (conf_of hg).1; omega)
    rw [isIn_zi'] at this
    exact this
  have hl4 := (conf_of hg).1
  obtain ⟨pa, pc, hpv⟩ := hu.slice
  rw [zi_len] at hpv
  subst hpv
  have dg1 : ¬ (g : Int) < 1 := by omega
  have dg4 : ¬ (4 : Int) < (g : Int) := by omega
  clear hW0 hN hu
  go_enter Tryz.func67, Tryz.ntmps67
  go_upto_region 1 with fail
  rw [HV.out]
  clear HV
  go_upto_region 3 with (first
    | (refine wpList_load_mid rfl 32 _ rfl w.heap.size 0 rfl (cfL num (.slice pa gs.length pc) a b c d) _ K0.out Tryz.underlying32 rfl Tryz.size32 ?_)
    | (go_at_call 14; refine hC.mono ?_; rintro e w1 ⟨rfl, hb1⟩; have HN1 : Hid (Nb w num (.slice pa gs.length pc) a b c d 1 g 0 w1) := HN.out.next hb1; clear hb1))
  clear hC K0 HN
  have x0 := cellB HN1.out.r1 0 _ rfl
  have x1 := cellB HN1.out.r1 1 _ rfl
  have x2 := cellB HN1.out.r1 2 _ rfl
  have y1 := cellB HN1.out.r0 1 _ rfl
  have hI := HIn.out g w1 HN1.out.bel
  rw [hc] at hI
  clear hc
  go_upto_region 5 with fail
  go_upto_region 6 with (first
    | (go_at_call 44; refine hI.mono ?_; rintro e w2 ⟨rfl, h9⟩; subst w2))
  clear hI
  go_quiet (fail)
  have HND := HN1.out.next (below_drewN (Below.refl _ w1) nq)
  obtain ⟨WD, hWD⟩ : ∃ W, w1.drewN nq = W := ⟨_, rfl⟩
  rw [hWD] at HND ⊢
  have KS : Hid (WD.there (w.heap.size + 2) 0 6) := blk_there HND.r2 0 6 (Nat.le_refl _)
  go_wp2_with (first
    | (refine wpList_store_mid rfl 32 _ _ rfl (w.heap.size + 2) 0 (cf 0 (.slice none 0 0) 0 0 0 0) rfl rfl KS.out Tryz.size32 (cf_ones _ _ _ _ _ _ _ _) ?_))
  have k4 := blk_range (blk_set HND.r2 (L := cfL 0 (.slice none 0 0) 0 0 0 0) rfl)
  exact bodyPost_ret (v := .tuple #[.agg (cf 0 (.slice none 0 0) 0 0 0 0), .int .i64 150]) (results_two rfl rfl rfl (res32 k4 rfl)) rfl ⟨rfl, blk_below (by omega) _ _ _ HND.bel⟩
set_option maxRecDepth 20000 in
set_option maxHeartbeats 2000000 in
theorem rNext_g2 (num : Int) (n0 : 0 ≤ num) (n1 : num ≤ 1099511627776) (gv : Value) (gs : List Nat) (a b c d g : Nat) (w : World) (hu : Il w gv (zi gs)) (hg : gs ∈ subs0) (ho : [a, b, c, d] ∈ owners0 gs) (g1 : 1 ≤ g) (g4 : g ≤ 4) (hc : gs.contains g = false) :
    Calls Tryz.prog 67 #[.agg (cf num gv a b c d), .agg #[.int .i64 2, .int .i64 g, .int .i64 0]] w fun e W' => e = .returned (.tuple #[.agg (cf 0 (.slice none 0 0) 0 0 0 0), .int .i64 150]) ∧ Below w.heap.size w W' := by
  obtain ⟨W0, hW0⟩ : ∃ W, ((w.alloc (.cells (cf num gv a b c d) 32)).alloc (.cells #[.int .i64 2, .int .i64 g, .int .i64 0] 100)).alloc (.cells (cf 0 (.slice none 0 0) 0 0 0 0) 32) = W := ⟨_, rfl⟩
  have hN := nb_of num gv a b c d 2 g 0 w W0 hW0
  have HV : Hid (((w.alloc (.cells (cf num gv a b c d) 32)).alloc (.cells #[.int .i64 2, .int .i64 g, .int .i64 0] 100)).alloc (.cells (cf 0 (.slice none 0 0) 0 0 0 0) 32) = W0) := hW0
  have HN : Hid (Nb w num gv a b c d 2 g 0 W0) := hN
  have hC := rCheck_any num gv (zi gs) a b c d W0 (hu.next hN.bel) (by rw [zi_len]; have := (conf_of hg).1; omega)
  rw [if_pos (show okC num (zi gs) [(a : Int), b, c, d] = true from ok_conf hg ho n0 n1)] at hC
  have K0 : Hid (W0.rangeAt w.heap.size 0 (cfL num gv a b c d)) := blk_range (L := cfL num gv a b c d) hN.r0
  have HU : Hid (Il w gv (zi gs)) := hu
  have HIn : Hid (∀ (x : Nat) W, Below w.heap.size w W → Calls Tryz.prog 44 #[gv, .int .i64 (x : Int)] W fun e W' => e = .returned (.bool (gs.contains x)) ∧ W' = W) := fun x W hW => by
    have := rIn_any (zi gs) x gv W (HU.out.next hW) (by rw [zi_len]; have := (conf_of hg).1; omega)
    rw [isIn_zi'] at this
    exact this
  have hl4 := (conf_of hg).1
  obtain ⟨pa, pc, hpv⟩ := hu.slice
  rw [zi_len] at hpv
  subst hpv
  have dg1 : ¬ (g : Int) < 1 := by omega
  have dg4 : ¬ (4 : Int) < (g : Int) := by omega
  clear hW0 hN hu
  go_enter Tryz.func67, Tryz.ntmps67
  go_upto_region 1 with fail
  rw [HV.out]
  clear HV
  go_upto_region 3 with (first
    | (refine wpList_load_mid rfl 32 _ rfl w.heap.size 0 rfl (cfL num (.slice pa gs.length pc) a b c d) _ K0.out Tryz.underlying32 rfl Tryz.size32 ?_)
    | (go_at_call 14; refine hC.mono ?_; rintro e w1 ⟨rfl, hb1⟩; have HN1 : Hid (Nb w num (.slice pa gs.length pc) a b c d 2 g 0 w1) := HN.out.next hb1; clear hb1))
  clear hC K0 HN
  have x0 := cellB HN1.out.r1 0 _ rfl
  have x1 := cellB HN1.out.r1 1 _ rfl
  have x2 := cellB HN1.out.r1 2 _ rfl
  have y1 := cellB HN1.out.r0 1 _ rfl
  have hI := HIn.out g w1 HN1.out.bel
  rw [hc] at hI
  clear hc
  go_upto_region 5 with fail
  go_upto_region 6 with (first
    | (go_at_call 44; refine hI.mono ?_; rintro e w2 ⟨rfl, h9⟩; subst w2))
  clear hI
  go_quiet (fail)
  have HND := HN1.out.next (below_drewN (Below.refl _ w1) nq)
  obtain ⟨WD, hWD⟩ : ∃ W, w1.drewN nq = W := ⟨_, rfl⟩
  rw [hWD] at HND ⊢
  have KS : Hid (WD.there (w.heap.size + 2) 0 6) := blk_there HND.r2 0 6 (Nat.le_refl _)
  go_wp2_with (first
    | (refine wpList_store_mid rfl 32 _ _ rfl (w.heap.size + 2) 0 (cf 0 (.slice none 0 0) 0 0 0 0) rfl rfl KS.out Tryz.size32 (cf_ones _ _ _ _ _ _ _ _) ?_))
  have k4 := blk_range (blk_set HND.r2 (L := cfL 0 (.slice none 0 0) 0 0 0 0) rfl)
  exact bodyPost_ret (v := .tuple #[.agg (cf 0 (.slice none 0 0) 0 0 0 0), .int .i64 150]) (results_two rfl rfl rfl (res32 k4 rfl)) rfl ⟨rfl, blk_below (by omega) _ _ _ HND.bel⟩
set_option maxRecDepth 20000 in
set_option maxHeartbeats 2000000 in
theorem rNext_g3 (num : Int) (n0 : 0 ≤ num) (n1 : num ≤ 1099511627776) (gv : Value) (gs : List Nat) (a b c d g s : Nat) (w : World) (hu : Il w gv (zi gs)) (hg : gs ∈ subs0) (ho : [a, b, c, d] ∈ owners0 gs) (g1 : 1 ≤ g) (g4 : g ≤ 4) (hc : gs.contains g = false) (hs : s < 4) :
    Calls Tryz.prog 67 #[.agg (cf num gv a b c d), .agg #[.int .i64 3, .int .i64 g, .int .i64 s]] w fun e W' => e = .returned (.tuple #[.agg (cf 0 (.slice none 0 0) 0 0 0 0), .int .i64 150]) ∧ Below w.heap.size w W' := by
  obtain ⟨W0, hW0⟩ : ∃ W, ((w.alloc (.cells (cf num gv a b c d) 32)).alloc (.cells #[.int .i64 3, .int .i64 g, .int .i64 s] 100)).alloc (.cells (cf 0 (.slice none 0 0) 0 0 0 0) 32) = W := ⟨_, rfl⟩
  have hN := nb_of num gv a b c d 3 g s w W0 hW0
  have HV : Hid (((w.alloc (.cells (cf num gv a b c d) 32)).alloc (.cells #[.int .i64 3, .int .i64 g, .int .i64 s] 100)).alloc (.cells (cf 0 (.slice none 0 0) 0 0 0 0) 32) = W0) := hW0
  have HN : Hid (Nb w num gv a b c d 3 g s W0) := hN
  have hC := rCheck_any num gv (zi gs) a b c d W0 (hu.next hN.bel) (by rw [zi_len]; have := (conf_of hg).1; omega)
  rw [if_pos (show okC num (zi gs) [(a : Int), b, c, d] = true from ok_conf hg ho n0 n1)] at hC
  have K0 : Hid (W0.rangeAt w.heap.size 0 (cfL num gv a b c d)) := blk_range (L := cfL num gv a b c d) hN.r0
  have HU : Hid (Il w gv (zi gs)) := hu
  have HIn : Hid (∀ (x : Nat) W, Below w.heap.size w W → Calls Tryz.prog 44 #[gv, .int .i64 (x : Int)] W fun e W' => e = .returned (.bool (gs.contains x)) ∧ W' = W) := fun x W hW => by
    have := rIn_any (zi gs) x gv W (HU.out.next hW) (by rw [zi_len]; have := (conf_of hg).1; omega)
    rw [isIn_zi'] at this
    exact this
  have hl4 := (conf_of hg).1
  obtain ⟨pa, pc, hpv⟩ := hu.slice
  rw [zi_len] at hpv
  subst hpv
  have dg1 : ¬ (g : Int) < 1 := by omega
  have dg4 : ¬ (4 : Int) < (g : Int) := by omega
  clear hW0 hN hu
  have ds0 : ¬ (s : Int) < 0 := by omega
  have ds4 : ¬ (4 : Int) ≤ (s : Int) := by omega
  go_enter Tryz.func67, Tryz.ntmps67
  go_upto_region 1 with fail
  rw [HV.out]
  clear HV
  go_upto_region 3 with (first
    | (refine wpList_load_mid rfl 32 _ rfl w.heap.size 0 rfl (cfL num (.slice pa gs.length pc) a b c d) _ K0.out Tryz.underlying32 rfl Tryz.size32 ?_)
    | (go_at_call 14; refine hC.mono ?_; rintro e w1 ⟨rfl, hb1⟩; have HN1 : Hid (Nb w num (.slice pa gs.length pc) a b c d 3 g s w1) := HN.out.next hb1; clear hb1))
  clear hC K0 HN
  have x0 := cellB HN1.out.r1 0 _ rfl
  have x1 := cellB HN1.out.r1 1 _ rfl
  have x2 := cellB HN1.out.r1 2 _ rfl
  have y1 := cellB HN1.out.r0 1 _ rfl
  have hI := HIn.out g w1 HN1.out.bel
  rw [hc] at hI
  clear hc
  go_upto_region 5 with fail
  go_upto_region 6 with (first
    | (go_at_call 44; refine hI.mono ?_; rintro e w2 ⟨rfl, h9⟩; subst w2))
  clear hI
  go_quiet (fail)
  have HND := HN1.out.next (below_drewN (Below.refl _ w1) nq)
  obtain ⟨WD, hWD⟩ : ∃ W, w1.drewN nq = W := ⟨_, rfl⟩
  rw [hWD] at HND ⊢
  have KS : Hid (WD.there (w.heap.size + 2) 0 6) := blk_there HND.r2 0 6 (Nat.le_refl _)
  go_wp2_with (first
    | (refine wpList_store_mid rfl 32 _ _ rfl (w.heap.size + 2) 0 (cf 0 (.slice none 0 0) 0 0 0 0) rfl rfl KS.out Tryz.size32 (cf_ones _ _ _ _ _ _ _ _) ?_))
  have k4 := blk_range (blk_set HND.r2 (L := cfL 0 (.slice none 0 0) 0 0 0 0) rfl)
  exact bodyPost_ret (v := .tuple #[.agg (cf 0 (.slice none 0 0) 0 0 0 0), .int .i64 150]) (results_two rfl rfl rfl (res32 k4 rfl)) rfl ⟨rfl, blk_below (by omega) _ _ _ HND.bel⟩
set_option maxRecDepth 20000 in
set_option maxHeartbeats 2000000 in
theorem rNext_g4 (num : Int) (n0 : 0 ≤ num) (n1 : num ≤ 1099511627776) (gv : Value) (gs : List Nat) (a b c d g : Nat) (w : World) (hu : Il w gv (zi gs)) (hg : gs ∈ subs0) (ho : [a, b, c, d] ∈ owners0 gs) (g1 : 1 ≤ g) (g4 : g ≤ 4) (hc : gs.contains g = true) (hl1 : gs.length = 1)  :
    Calls Tryz.prog 67 #[.agg (cf num gv a b c d), .agg #[.int .i64 2, .int .i64 g, .int .i64 0]] w fun e W' => e = .returned (.tuple #[.agg (cf 0 (.slice none 0 0) 0 0 0 0), .int .i64 150]) ∧ Below w.heap.size w W' := by
  obtain ⟨W0, hW0⟩ : ∃ W, ((w.alloc (.cells (cf num gv a b c d) 32)).alloc (.cells #[.int .i64 2, .int .i64 g, .int .i64 0] 100)).alloc (.cells (cf 0 (.slice none 0 0) 0 0 0 0) 32) = W := ⟨_, rfl⟩
  have hN := nb_of num gv a b c d 2 g 0 w W0 hW0
  have HV : Hid (((w.alloc (.cells (cf num gv a b c d) 32)).alloc (.cells #[.int .i64 2, .int .i64 g, .int .i64 0] 100)).alloc (.cells (cf 0 (.slice none 0 0) 0 0 0 0) 32) = W0) := hW0
  have HN : Hid (Nb w num gv a b c d 2 g 0 W0) := hN
  have hC := rCheck_any num gv (zi gs) a b c d W0 (hu.next hN.bel) (by rw [zi_len]; have := (conf_of hg).1; omega)
  rw [if_pos (show okC num (zi gs) [(a : Int), b, c, d] = true from ok_conf hg ho n0 n1)] at hC
  have K0 : Hid (W0.rangeAt w.heap.size 0 (cfL num gv a b c d)) := blk_range (L := cfL num gv a b c d) hN.r0
  have HU : Hid (Il w gv (zi gs)) := hu
  have HIn : Hid (∀ (x : Nat) W, Below w.heap.size w W → Calls Tryz.prog 44 #[gv, .int .i64 (x : Int)] W fun e W' => e = .returned (.bool (gs.contains x)) ∧ W' = W) := fun x W hW => by
    have := rIn_any (zi gs) x gv W (HU.out.next hW) (by rw [zi_len]; have := (conf_of hg).1; omega)
    rw [isIn_zi'] at this
    exact this
  have hl4 := (conf_of hg).1
  obtain ⟨pa, pc, hpv⟩ := hu.slice
  rw [zi_len] at hpv
  subst hpv
  have dg1 : ¬ (g : Int) < 1 := by omega
  have dg4 : ¬ (4 : Int) < (g : Int) := by omega
  clear hW0 hN hu
  have hq1 : ((gs.length : Int) == 1) = true := by rw [beq_iff_eq]; omega
  clear hl1
  go_enter Tryz.func67, Tryz.ntmps67
  go_upto_region 1 with fail
  rw [HV.out]
  clear HV
  go_upto_region 3 with (first
    | (refine wpList_load_mid rfl 32 _ rfl w.heap.size 0 rfl (cfL num (.slice pa gs.length pc) a b c d) _ K0.out Tryz.underlying32 rfl Tryz.size32 ?_)
    | (go_at_call 14; refine hC.mono ?_; rintro e w1 ⟨rfl, hb1⟩; have HN1 : Hid (Nb w num (.slice pa gs.length pc) a b c d 2 g 0 w1) := HN.out.next hb1; clear hb1))
  clear hC K0 HN
  have x0 := cellB HN1.out.r1 0 _ rfl
  have x1 := cellB HN1.out.r1 1 _ rfl
  have x2 := cellB HN1.out.r1 2 _ rfl
  have y1 := cellB HN1.out.r0 1 _ rfl
  have hI := HIn.out g w1 HN1.out.bel
  rw [hc] at hI
  clear hc
  go_upto_region 5 with fail
  go_upto_region 6 with (first
    | (go_at_call 44; refine hI.mono ?_; rintro e w2 ⟨rfl, h9⟩; subst w2))
  clear hI
  go_quiet (fail)
  have HND := HN1.out.next (below_drewN (Below.refl _ w1) nq)
  obtain ⟨WD, hWD⟩ : ∃ W, w1.drewN nq = W := ⟨_, rfl⟩
  rw [hWD] at HND ⊢
  have KS : Hid (WD.there (w.heap.size + 2) 0 6) := blk_there HND.r2 0 6 (Nat.le_refl _)
  go_wp2_with (first
    | (refine wpList_store_mid rfl 32 _ _ rfl (w.heap.size + 2) 0 (cf 0 (.slice none 0 0) 0 0 0 0) rfl rfl KS.out Tryz.size32 (cf_ones _ _ _ _ _ _ _ _) ?_))
  have k4 := blk_range (blk_set HND.r2 (L := cfL 0 (.slice none 0 0) 0 0 0 0) rfl)
  exact bodyPost_ret (v := .tuple #[.agg (cf 0 (.slice none 0 0) 0 0 0 0), .int .i64 150]) (results_two rfl rfl rfl (res32 k4 rfl)) rfl ⟨rfl, blk_below (by omega) _ _ _ HND.bel⟩
set_option maxRecDepth 20000 in
set_option maxHeartbeats 2000000 in
theorem rNext_g5 (num : Int) (n0 : 0 ≤ num) (n1 : num ≤ 1099511627776) (gv : Value) (gs : List Nat) (a b c d g s : Nat) (w : World) (hu : Il w gv (zi gs)) (hg : gs ∈ subs0) (ho : [a, b, c, d] ∈ owners0 gs) (g1 : 1 ≤ g) (g4 : g ≤ 4) (hc : gs.contains g = true) (hs : s < 4) (hw : [a, b, c, d][s]? = some g) :
    Calls Tryz.prog 67 #[.agg (cf num gv a b c d), .agg #[.int .i64 3, .int .i64 g, .int .i64 s]] w fun e W' => e = .returned (.tuple #[.agg (cf 0 (.slice none 0 0) 0 0 0 0), .int .i64 150]) ∧ Below w.heap.size w W' := by
  obtain ⟨W0, hW0⟩ : ∃ W, ((w.alloc (.cells (cf num gv a b c d) 32)).alloc (.cells #[.int .i64 3, .int .i64 g, .int .i64 s] 100)).alloc (.cells (cf 0 (.slice none 0 0) 0 0 0 0) 32) = W := ⟨_, rfl⟩
  have hN := nb_of num gv a b c d 3 g s w W0 hW0
  have HV : Hid (((w.alloc (.cells (cf num gv a b c d) 32)).alloc (.cells #[.int .i64 3, .int .i64 g, .int .i64 s] 100)).alloc (.cells (cf 0 (.slice none 0 0) 0 0 0 0) 32) = W0) := hW0
  have HN : Hid (Nb w num gv a b c d 3 g s W0) := hN
  have hC := rCheck_any num gv (zi gs) a b c d W0 (hu.next hN.bel) (by rw [zi_len]; have := (conf_of hg).1; omega)
  rw [if_pos (show okC num (zi gs) [(a : Int), b, c, d] = true from ok_conf hg ho n0 n1)] at hC
  have K0 : Hid (W0.rangeAt w.heap.size 0 (cfL num gv a b c d)) := blk_range (L := cfL num gv a b c d) hN.r0
  have HU : Hid (Il w gv (zi gs)) := hu
  have HIn : Hid (∀ (x : Nat) W, Below w.heap.size w W → Calls Tryz.prog 44 #[gv, .int .i64 (x : Int)] W fun e W' => e = .returned (.bool (gs.contains x)) ∧ W' = W) := fun x W hW => by
    have := rIn_any (zi gs) x gv W (HU.out.next hW) (by rw [zi_len]; have := (conf_of hg).1; omega)
    rw [isIn_zi'] at this
    exact this
  have hl4 := (conf_of hg).1
  obtain ⟨pa, pc, hpv⟩ := hu.slice
  rw [zi_len] at hpv
  subst hpv
  have dg1 : ¬ (g : Int) < 1 := by omega
  have dg4 : ¬ (4 : Int) < (g : Int) := by omega
  clear hW0 hN hu
  have ds0 : ¬ (s : Int) < 0 := by omega
  have ds4 : ¬ (4 : Int) ≤ (s : Int) := by omega
  have s0 : (0 : Int) ≤ (s : Int) := by omega
  have s4 : (s : Int) < 4 := by omega
  have HCO : Hid ((cf num (.slice pa gs.length pc) a b c d)[2 + s]? = some (.int .i64 (g : Int))) := cf_at num (.slice pa gs.length pc) a b c d s g (by rcases s with _ | _ | _ | _ | s <;> simp at hw ⊢ <;> omega)
  go_enter Tryz.func67, Tryz.ntmps67
  go_upto_region 1 with fail
  rw [HV.out]
  clear HV
  go_upto_region 3 with (first
    | (refine wpList_load_mid rfl 32 _ rfl w.heap.size 0 rfl (cfL num (.slice pa gs.length pc) a b c d) _ K0.out Tryz.underlying32 rfl Tryz.size32 ?_)
    | (go_at_call 14; refine hC.mono ?_; rintro e w1 ⟨rfl, hb1⟩; have HN1 : Hid (Nb w num (.slice pa gs.length pc) a b c d 3 g s w1) := HN.out.next hb1; clear hb1))
  clear hC K0 HN
  have x0 := cellB HN1.out.r1 0 _ rfl
  have x1 := cellB HN1.out.r1 1 _ rfl
  have x2 := cellB HN1.out.r1 2 _ rfl
  have y1 := cellB HN1.out.r0 1 _ rfl
  have hI := HIn.out g w1 HN1.out.bel
  rw [hc] at hI
  clear hc
  go_upto_region 5 with fail
  go_upto_region 6 with (first
    | (go_at_call 44; refine hI.mono ?_; rintro e w2 ⟨rfl, h9⟩; subst w2))
  clear hI
  have y5 := cellB HN1.out.r0 _ _ HCO.out
  go_quiet (fail)
  have HND := HN1.out.next (below_drewN (Below.refl _ w1) nq)
  obtain ⟨WD, hWD⟩ : ∃ W, w1.drewN nq = W := ⟨_, rfl⟩
  rw [hWD] at HND ⊢
  have KS : Hid (WD.there (w.heap.size + 2) 0 6) := blk_there HND.r2 0 6 (Nat.le_refl _)
  go_wp2_with (first
    | (refine wpList_store_mid rfl 32 _ _ rfl (w.heap.size + 2) 0 (cf 0 (.slice none 0 0) 0 0 0 0) rfl rfl KS.out Tryz.size32 (cf_ones _ _ _ _ _ _ _ _) ?_))
  have k4 := blk_range (blk_set HND.r2 (L := cfL 0 (.slice none 0 0) 0 0 0 0) rfl)
  exact bodyPost_ret (v := .tuple #[.agg (cf 0 (.slice none 0 0) 0 0 0 0), .int .i64 150]) (results_two rfl rfl rfl (res32 k4 rfl)) rfl ⟨rfl, blk_below (by omega) _ _ _ HND.bel⟩
end Go.Proofs.YtfolnlgceighbaaGreatDoor
