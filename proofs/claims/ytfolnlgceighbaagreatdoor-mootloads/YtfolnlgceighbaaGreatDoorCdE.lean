/- Chains, the document's side: Next, walked: what is refused. -/
import Derived.Test.YtfolnlgceighbaaGreatDoorCdD
namespace Go.Proofs.YtfolnlgceighbaaGreatDoor
open Go.RowKit
attribute [local go_sem ↓] Go.wp_at_zero Go.wp_at_succ

/-- The blocks of the document's Next. -/
structure Nb (w : World) (num : Int) (gv : Value) (a b c d k g s : Int) (W : World) : Prop where
  bel : Below w.heap.size w W
  size : w.heap.size + 3 ≤ W.heap.size
  r0 : W.heap[w.heap.size]? = some (.cells (cf num gv a b c d) 32)
  r1 : W.heap[w.heap.size + 1]? = some (.cells #[.int .i64 k, .int .i64 g, .int .i64 s] 100)
  r2 : W.heap[w.heap.size + 2]? = some (.cells (cf 0 (.slice none 0 0) 0 0 0 0) 32)
theorem Nb.next {w : World} {num : Int} {gv : Value} {a b c d k g s : Int} {W W' : World} (h : Nb w num gv a b c d k g s W) (hb : Below W.heap.size W W') : Nb w num gv a b c d k g s W' := by
  have := h.size
  exact ⟨h.bel.trans (hb.mono h.bel.size), Nat.le_trans h.size hb.size, (hb.block _ (by omega)).trans h.r0, (hb.block _ (by omega)).trans h.r1, (hb.block _ (by omega)).trans h.r2⟩
theorem nb_of (num : Int) (gv : Value) (a b c d k g s : Int) (w W0 : World) (hW0 : ((w.alloc (.cells (cf num gv a b c d) 32)).alloc (.cells #[.int .i64 k, .int .i64 g, .int .i64 s] 100)).alloc (.cells (cf 0 (.slice none 0 0) 0 0 0 0) 32) = W0) : Nb w num gv a b c d k g s W0 := by
  refine ⟨?_, ?_, ?_, ?_, ?_⟩
  · rw [← hW0]
    exact (((Below.refl _ w).alloc (Nat.le_refl _) _).alloc (by simp) _).alloc (by simp; omega) _
  · rw [← hW0]; simp
  · rw [← hW0]
    exact ((Below.heap_alloc _ _ _ (by simp; omega)).trans (Below.heap_alloc _ _ _ (by simp))).trans (heap_alloc_new _ _)
  · rw [← hW0]
    refine (Below.heap_alloc _ _ _ (by simp)).trans ?_
    have := heap_alloc_new (w.alloc (.cells (cf num gv a b c d) 32)) (.cells #[.int .i64 k, .int .i64 g, .int .i64 s] 100)
    rwa [show (w.alloc (.cells (cf num gv a b c d) 32)).heap.size = w.heap.size + 1 by simp] at this
  · rw [← hW0]
    have := heap_alloc_new ((w.alloc (.cells (cf num gv a b c d) 32)).alloc (.cells #[.int .i64 k, .int .i64 g, .int .i64 s] 100)) (.cells (cf 0 (.slice none 0 0) 0 0 0 0) 32)
    rwa [show ((w.alloc (.cells (cf num gv a b c d) 32)).alloc (.cells #[.int .i64 k, .int .i64 g, .int .i64 s] 100)).heap.size = w.heap.size + 2 by simp] at this
set_option maxRecDepth 20000 in
set_option maxHeartbeats 400000 in
theorem rNext_form (num : Int) (gv : Value) (ns : List Int) (a b c d k g s : Int) (w : World) (hu : Il w gv ns) (hl : ns.length ≤ 1000) (h1 : okC num ns [a, b, c, d] = false) :
    Calls Tryz.prog 67 #[.agg (cf num gv a b c d), .agg #[.int .i64 k, .int .i64 g, .int .i64 s]] w fun e W' => e = .returned (.tuple #[.agg (cf 0 (.slice none 0 0) 0 0 0 0), .int .i64 4]) ∧ Below w.heap.size w W' := by
  obtain ⟨W0, hW0⟩ : ∃ W, ((w.alloc (.cells (cf num gv a b c d) 32)).alloc (.cells #[.int .i64 k, .int .i64 g, .int .i64 s] 100)).alloc (.cells (cf 0 (.slice none 0 0) 0 0 0 0) 32) = W := ⟨_, rfl⟩
  have hN := nb_of num gv a b c d k g s w W0 hW0
  have HV : Hid (((w.alloc (.cells (cf num gv a b c d) 32)).alloc (.cells #[.int .i64 k, .int .i64 g, .int .i64 s] 100)).alloc (.cells (cf 0 (.slice none 0 0) 0 0 0 0) 32) = W0) := hW0
  have HN : Hid (Nb w num gv a b c d k g s W0) := hN
  have hC := rCheck_any num gv ns a b c d W0 (hu.next hN.bel) (Nat.le_trans hl (by decide))
  have K0 : Hid (W0.rangeAt w.heap.size 0 (cfL num gv a b c d)) := blk_range (L := cfL num gv a b c d) hN.r0
  rw [if_neg (by rw [h1]; simp)] at hC
  obtain ⟨pa, pc, rfl⟩ := hu.slice
  clear hW0 hN hu
  go_enter Tryz.func67, Tryz.ntmps67
  go_upto_region 1 with fail
  rw [HV.out]
  clear HV
  go_upto_region 2 with (first
    | (refine wpList_load_mid rfl 32 _ rfl w.heap.size 0 rfl (cfL num (.slice pa ns.length pc) a b c d) _ K0.out Tryz.underlying32 rfl Tryz.size32 ?_)
    | (go_at_call 14; refine hC.mono ?_; rintro e w1 ⟨rfl, hb1⟩; have HN1 : Hid (Nb w num (.slice pa ns.length pc) a b c d k g s w1) := HN.out.next hb1; clear hb1))
  clear hC K0 HN
  have KS : Hid (w1.there (w.heap.size + 2) 0 6) := blk_there HN1.out.r2 0 6 (Nat.le_refl _)
  go_wp2_with (first
    | (refine wpList_store_mid rfl 32 _ _ rfl (w.heap.size + 2) 0 (cf 0 (.slice none 0 0) 0 0 0 0) rfl rfl KS.out Tryz.size32 (cf_ones _ _ _ _ _ _ _ _) ?_))
  have k4 := blk_range (blk_set HN1.out.r2 (L := cfL 0 (.slice none 0 0) 0 0 0 0) rfl)
  exact bodyPost_ret (v := .tuple #[.agg (cf 0 (.slice none 0 0) 0 0 0 0), .int .i64 4]) (results_two rfl rfl rfl (res32 k4 rfl)) rfl ⟨rfl, blk_below (by omega) _ _ _ HN1.out.bel⟩
set_option maxRecDepth 20000 in
set_option maxHeartbeats 400000 in
theorem rNext_arg_lo (num : Int) (gv : Value) (ns : List Int) (a b c d k g s : Int) (w : World) (hu : Il w gv ns) (hl : ns.length ≤ 1000) (h1 : okC num ns [a, b, c, d] = true) (h2 : k < 1) :
    Calls Tryz.prog 67 #[.agg (cf num gv a b c d), .agg #[.int .i64 k, .int .i64 g, .int .i64 s]] w fun e W' => e = .returned (.tuple #[.agg (cf 0 (.slice none 0 0) 0 0 0 0), .int .i64 1]) ∧ Below w.heap.size w W' := by
  obtain ⟨W0, hW0⟩ : ∃ W, ((w.alloc (.cells (cf num gv a b c d) 32)).alloc (.cells #[.int .i64 k, .int .i64 g, .int .i64 s] 100)).alloc (.cells (cf 0 (.slice none 0 0) 0 0 0 0) 32) = W := ⟨_, rfl⟩
  have hN := nb_of num gv a b c d k g s w W0 hW0
  have HV : Hid (((w.alloc (.cells (cf num gv a b c d) 32)).alloc (.cells #[.int .i64 k, .int .i64 g, .int .i64 s] 100)).alloc (.cells (cf 0 (.slice none 0 0) 0 0 0 0) 32) = W0) := hW0
  have HN : Hid (Nb w num gv a b c d k g s W0) := hN
  have hC := rCheck_any num gv ns a b c d W0 (hu.next hN.bel) (Nat.le_trans hl (by decide))
  have K0 : Hid (W0.rangeAt w.heap.size 0 (cfL num gv a b c d)) := blk_range (L := cfL num gv a b c d) hN.r0
  rw [if_pos h1] at hC
  obtain ⟨pa, pc, rfl⟩ := hu.slice
  clear hW0 hN hu
  go_enter Tryz.func67, Tryz.ntmps67
  go_upto_region 1 with fail
  rw [HV.out]
  clear HV
  go_upto_region 3 with (first
    | (refine wpList_load_mid rfl 32 _ rfl w.heap.size 0 rfl (cfL num (.slice pa ns.length pc) a b c d) _ K0.out Tryz.underlying32 rfl Tryz.size32 ?_)
    | (go_at_call 14; refine hC.mono ?_; rintro e w1 ⟨rfl, hb1⟩; have HN1 : Hid (Nb w num (.slice pa ns.length pc) a b c d k g s w1) := HN.out.next hb1; clear hb1))
  clear hC K0 HN
  have x0 := cellB HN1.out.r1 0 _ rfl
  have x1 := cellB HN1.out.r1 1 _ rfl
  have x2 := cellB HN1.out.r1 2 _ rfl
  go_upto_region 4 with fail
  have KS : Hid (w1.there (w.heap.size + 2) 0 6) := blk_there HN1.out.r2 0 6 (Nat.le_refl _)
  go_wp2_with (first
    | (refine wpList_store_mid rfl 32 _ _ rfl (w.heap.size + 2) 0 (cf 0 (.slice none 0 0) 0 0 0 0) rfl rfl KS.out Tryz.size32 (cf_ones _ _ _ _ _ _ _ _) ?_))
  have k4 := blk_range (blk_set HN1.out.r2 (L := cfL 0 (.slice none 0 0) 0 0 0 0) rfl)
  exact bodyPost_ret (v := .tuple #[.agg (cf 0 (.slice none 0 0) 0 0 0 0), .int .i64 1]) (results_two rfl rfl rfl (res32 k4 rfl)) rfl ⟨rfl, blk_below (by omega) _ _ _ HN1.out.bel⟩
set_option maxRecDepth 20000 in
set_option maxHeartbeats 400000 in
theorem rNext_arg_hi (num : Int) (gv : Value) (ns : List Int) (a b c d k g s : Int) (w : World) (hu : Il w gv ns) (hl : ns.length ≤ 1000) (h1 : okC num ns [a, b, c, d] = true) (h2 : 3 < k) :
    Calls Tryz.prog 67 #[.agg (cf num gv a b c d), .agg #[.int .i64 k, .int .i64 g, .int .i64 s]] w fun e W' => e = .returned (.tuple #[.agg (cf 0 (.slice none 0 0) 0 0 0 0), .int .i64 1]) ∧ Below w.heap.size w W' := by
  obtain ⟨W0, hW0⟩ : ∃ W, ((w.alloc (.cells (cf num gv a b c d) 32)).alloc (.cells #[.int .i64 k, .int .i64 g, .int .i64 s] 100)).alloc (.cells (cf 0 (.slice none 0 0) 0 0 0 0) 32) = W := ⟨_, rfl⟩
  have hN := nb_of num gv a b c d k g s w W0 hW0
  have HV : Hid (((w.alloc (.cells (cf num gv a b c d) 32)).alloc (.cells #[.int .i64 k, .int .i64 g, .int .i64 s] 100)).alloc (.cells (cf 0 (.slice none 0 0) 0 0 0 0) 32) = W0) := hW0
  have HN : Hid (Nb w num gv a b c d k g s W0) := hN
  have hC := rCheck_any num gv ns a b c d W0 (hu.next hN.bel) (Nat.le_trans hl (by decide))
  have K0 : Hid (W0.rangeAt w.heap.size 0 (cfL num gv a b c d)) := blk_range (L := cfL num gv a b c d) hN.r0
  rw [if_pos h1] at hC
  obtain ⟨pa, pc, rfl⟩ := hu.slice
  clear hW0 hN hu
  have d0 : ¬ k < 1 := by omega
  go_enter Tryz.func67, Tryz.ntmps67
  go_upto_region 1 with fail
  rw [HV.out]
  clear HV
  go_upto_region 3 with (first
    | (refine wpList_load_mid rfl 32 _ rfl w.heap.size 0 rfl (cfL num (.slice pa ns.length pc) a b c d) _ K0.out Tryz.underlying32 rfl Tryz.size32 ?_)
    | (go_at_call 14; refine hC.mono ?_; rintro e w1 ⟨rfl, hb1⟩; have HN1 : Hid (Nb w num (.slice pa ns.length pc) a b c d k g s w1) := HN.out.next hb1; clear hb1))
  clear hC K0 HN
  have x0 := cellB HN1.out.r1 0 _ rfl
  have x1 := cellB HN1.out.r1 1 _ rfl
  have x2 := cellB HN1.out.r1 2 _ rfl
  go_upto_region 4 with fail
  have KS : Hid (w1.there (w.heap.size + 2) 0 6) := blk_there HN1.out.r2 0 6 (Nat.le_refl _)
  go_wp2_with (first
    | (refine wpList_store_mid rfl 32 _ _ rfl (w.heap.size + 2) 0 (cf 0 (.slice none 0 0) 0 0 0 0) rfl rfl KS.out Tryz.size32 (cf_ones _ _ _ _ _ _ _ _) ?_))
  have k4 := blk_range (blk_set HN1.out.r2 (L := cfL 0 (.slice none 0 0) 0 0 0 0) rfl)
  exact bodyPost_ret (v := .tuple #[.agg (cf 0 (.slice none 0 0) 0 0 0 0), .int .i64 1]) (results_two rfl rfl rfl (res32 k4 rfl)) rfl ⟨rfl, blk_below (by omega) _ _ _ HN1.out.bel⟩
set_option maxRecDepth 20000 in
set_option maxHeartbeats 400000 in
theorem rNext_arg_glo (num : Int) (gv : Value) (ns : List Int) (a b c d k g s : Int) (w : World) (hu : Il w gv ns) (hl : ns.length ≤ 1000) (h1 : okC num ns [a, b, c, d] = true) (h2 : 1 ≤ k) (h3 : k ≤ 3) (h4 : g < 1) :
    Calls Tryz.prog 67 #[.agg (cf num gv a b c d), .agg #[.int .i64 k, .int .i64 g, .int .i64 s]] w fun e W' => e = .returned (.tuple #[.agg (cf 0 (.slice none 0 0) 0 0 0 0), .int .i64 1]) ∧ Below w.heap.size w W' := by
  obtain ⟨W0, hW0⟩ : ∃ W, ((w.alloc (.cells (cf num gv a b c d) 32)).alloc (.cells #[.int .i64 k, .int .i64 g, .int .i64 s] 100)).alloc (.cells (cf 0 (.slice none 0 0) 0 0 0 0) 32) = W := ⟨_, rfl⟩
  have hN := nb_of num gv a b c d k g s w W0 hW0
  have HV : Hid (((w.alloc (.cells (cf num gv a b c d) 32)).alloc (.cells #[.int .i64 k, .int .i64 g, .int .i64 s] 100)).alloc (.cells (cf 0 (.slice none 0 0) 0 0 0 0) 32) = W0) := hW0
  have HN : Hid (Nb w num gv a b c d k g s W0) := hN
  have hC := rCheck_any num gv ns a b c d W0 (hu.next hN.bel) (Nat.le_trans hl (by decide))
  have K0 : Hid (W0.rangeAt w.heap.size 0 (cfL num gv a b c d)) := blk_range (L := cfL num gv a b c d) hN.r0
  rw [if_pos h1] at hC
  obtain ⟨pa, pc, rfl⟩ := hu.slice
  clear hW0 hN hu
  have d0 : ¬ k < 1 := by omega
  have d1 : ¬ (3 : Int) < k := by omega
  clear h2 h3
  go_enter Tryz.func67, Tryz.ntmps67
  go_upto_region 1 with fail
  rw [HV.out]
  clear HV
  go_upto_region 3 with (first
    | (refine wpList_load_mid rfl 32 _ rfl w.heap.size 0 rfl (cfL num (.slice pa ns.length pc) a b c d) _ K0.out Tryz.underlying32 rfl Tryz.size32 ?_)
    | (go_at_call 14; refine hC.mono ?_; rintro e w1 ⟨rfl, hb1⟩; have HN1 : Hid (Nb w num (.slice pa ns.length pc) a b c d k g s w1) := HN.out.next hb1; clear hb1))
  clear hC K0 HN
  have x0 := cellB HN1.out.r1 0 _ rfl
  have x1 := cellB HN1.out.r1 1 _ rfl
  have x2 := cellB HN1.out.r1 2 _ rfl
  go_upto_region 4 with fail
  have KS : Hid (w1.there (w.heap.size + 2) 0 6) := blk_there HN1.out.r2 0 6 (Nat.le_refl _)
  go_wp2_with (first
    | (refine wpList_store_mid rfl 32 _ _ rfl (w.heap.size + 2) 0 (cf 0 (.slice none 0 0) 0 0 0 0) rfl rfl KS.out Tryz.size32 (cf_ones _ _ _ _ _ _ _ _) ?_))
  have k4 := blk_range (blk_set HN1.out.r2 (L := cfL 0 (.slice none 0 0) 0 0 0 0) rfl)
  exact bodyPost_ret (v := .tuple #[.agg (cf 0 (.slice none 0 0) 0 0 0 0), .int .i64 1]) (results_two rfl rfl rfl (res32 k4 rfl)) rfl ⟨rfl, blk_below (by omega) _ _ _ HN1.out.bel⟩
set_option maxRecDepth 20000 in
set_option maxHeartbeats 400000 in
theorem rNext_arg_ghi (num : Int) (gv : Value) (ns : List Int) (a b c d k g s : Int) (w : World) (hu : Il w gv ns) (hl : ns.length ≤ 1000) (h1 : okC num ns [a, b, c, d] = true) (h2 : 1 ≤ k) (h3 : k ≤ 3) (h4 : 4 < g) :
    Calls Tryz.prog 67 #[.agg (cf num gv a b c d), .agg #[.int .i64 k, .int .i64 g, .int .i64 s]] w fun e W' => e = .returned (.tuple #[.agg (cf 0 (.slice none 0 0) 0 0 0 0), .int .i64 1]) ∧ Below w.heap.size w W' := by
  obtain ⟨W0, hW0⟩ : ∃ W, ((w.alloc (.cells (cf num gv a b c d) 32)).alloc (.cells #[.int .i64 k, .int .i64 g, .int .i64 s] 100)).alloc (.cells (cf 0 (.slice none 0 0) 0 0 0 0) 32) = W := ⟨_, rfl⟩
  have hN := nb_of num gv a b c d k g s w W0 hW0
  have HV : Hid (((w.alloc (.cells (cf num gv a b c d) 32)).alloc (.cells #[.int .i64 k, .int .i64 g, .int .i64 s] 100)).alloc (.cells (cf 0 (.slice none 0 0) 0 0 0 0) 32) = W0) := hW0
  have HN : Hid (Nb w num gv a b c d k g s W0) := hN
  have hC := rCheck_any num gv ns a b c d W0 (hu.next hN.bel) (Nat.le_trans hl (by decide))
  have K0 : Hid (W0.rangeAt w.heap.size 0 (cfL num gv a b c d)) := blk_range (L := cfL num gv a b c d) hN.r0
  rw [if_pos h1] at hC
  obtain ⟨pa, pc, rfl⟩ := hu.slice
  clear hW0 hN hu
  have d0 : ¬ k < 1 := by omega
  have d1 : ¬ (3 : Int) < k := by omega
  have d2 : ¬ g < 1 := by omega
  clear h2 h3
  go_enter Tryz.func67, Tryz.ntmps67
  go_upto_region 1 with fail
  rw [HV.out]
  clear HV
  go_upto_region 3 with (first
    | (refine wpList_load_mid rfl 32 _ rfl w.heap.size 0 rfl (cfL num (.slice pa ns.length pc) a b c d) _ K0.out Tryz.underlying32 rfl Tryz.size32 ?_)
    | (go_at_call 14; refine hC.mono ?_; rintro e w1 ⟨rfl, hb1⟩; have HN1 : Hid (Nb w num (.slice pa ns.length pc) a b c d k g s w1) := HN.out.next hb1; clear hb1))
  clear hC K0 HN
  have x0 := cellB HN1.out.r1 0 _ rfl
  have x1 := cellB HN1.out.r1 1 _ rfl
  have x2 := cellB HN1.out.r1 2 _ rfl
  go_upto_region 4 with fail
  have KS : Hid (w1.there (w.heap.size + 2) 0 6) := blk_there HN1.out.r2 0 6 (Nat.le_refl _)
  go_wp2_with (first
    | (refine wpList_store_mid rfl 32 _ _ rfl (w.heap.size + 2) 0 (cf 0 (.slice none 0 0) 0 0 0 0) rfl rfl KS.out Tryz.size32 (cf_ones _ _ _ _ _ _ _ _) ?_))
  have k4 := blk_range (blk_set HN1.out.r2 (L := cfL 0 (.slice none 0 0) 0 0 0 0) rfl)
  exact bodyPost_ret (v := .tuple #[.agg (cf 0 (.slice none 0 0) 0 0 0 0), .int .i64 1]) (results_two rfl rfl rfl (res32 k4 rfl)) rfl ⟨rfl, blk_below (by omega) _ _ _ HN1.out.bel⟩
set_option maxRecDepth 20000 in
set_option maxHeartbeats 400000 in
theorem rNext_arg_slo (num : Int) (gv : Value) (ns : List Int) (a b c d k g s : Int) (w : World) (hu : Il w gv ns) (hl : ns.length ≤ 1000) (h1 : okC num ns [a, b, c, d] = true) (h2 : k = 3) (h4 : 1 ≤ g) (h5 : g ≤ 4) (h6 : s < 0) :
    Calls Tryz.prog 67 #[.agg (cf num gv a b c d), .agg #[.int .i64 k, .int .i64 g, .int .i64 s]] w fun e W' => e = .returned (.tuple #[.agg (cf 0 (.slice none 0 0) 0 0 0 0), .int .i64 1]) ∧ Below w.heap.size w W' := by
  subst h2
  obtain ⟨W0, hW0⟩ : ∃ W, ((w.alloc (.cells (cf num gv a b c d) 32)).alloc (.cells #[.int .i64 3, .int .i64 g, .int .i64 s] 100)).alloc (.cells (cf 0 (.slice none 0 0) 0 0 0 0) 32) = W := ⟨_, rfl⟩
  have hN := nb_of num gv a b c d 3 g s w W0 hW0
  have HV : Hid (((w.alloc (.cells (cf num gv a b c d) 32)).alloc (.cells #[.int .i64 3, .int .i64 g, .int .i64 s] 100)).alloc (.cells (cf 0 (.slice none 0 0) 0 0 0 0) 32) = W0) := hW0
  have HN : Hid (Nb w num gv a b c d 3 g s W0) := hN
  have hC := rCheck_any num gv ns a b c d W0 (hu.next hN.bel) (Nat.le_trans hl (by decide))
  have K0 : Hid (W0.rangeAt w.heap.size 0 (cfL num gv a b c d)) := blk_range (L := cfL num gv a b c d) hN.r0
  rw [if_pos h1] at hC
  obtain ⟨pa, pc, rfl⟩ := hu.slice
  clear hW0 hN hu
  have d2 : ¬ g < 1 := by omega
  have d3 : ¬ (4 : Int) < g := by omega
  clear h4 h5
  go_enter Tryz.func67, Tryz.ntmps67
  go_upto_region 1 with fail
  rw [HV.out]
  clear HV
  go_upto_region 3 with (first
    | (refine wpList_load_mid rfl 32 _ rfl w.heap.size 0 rfl (cfL num (.slice pa ns.length pc) a b c d) _ K0.out Tryz.underlying32 rfl Tryz.size32 ?_)
    | (go_at_call 14; refine hC.mono ?_; rintro e w1 ⟨rfl, hb1⟩; have HN1 : Hid (Nb w num (.slice pa ns.length pc) a b c d 3 g s w1) := HN.out.next hb1; clear hb1))
  clear hC K0 HN
  have x0 := cellB HN1.out.r1 0 _ rfl
  have x1 := cellB HN1.out.r1 1 _ rfl
  have x2 := cellB HN1.out.r1 2 _ rfl
  go_upto_region 4 with fail
  have KS : Hid (w1.there (w.heap.size + 2) 0 6) := blk_there HN1.out.r2 0 6 (Nat.le_refl _)
  go_wp2_with (first
    | (refine wpList_store_mid rfl 32 _ _ rfl (w.heap.size + 2) 0 (cf 0 (.slice none 0 0) 0 0 0 0) rfl rfl KS.out Tryz.size32 (cf_ones _ _ _ _ _ _ _ _) ?_))
  have k4 := blk_range (blk_set HN1.out.r2 (L := cfL 0 (.slice none 0 0) 0 0 0 0) rfl)
  exact bodyPost_ret (v := .tuple #[.agg (cf 0 (.slice none 0 0) 0 0 0 0), .int .i64 1]) (results_two rfl rfl rfl (res32 k4 rfl)) rfl ⟨rfl, blk_below (by omega) _ _ _ HN1.out.bel⟩
set_option maxRecDepth 20000 in
set_option maxHeartbeats 400000 in
theorem rNext_arg_shi (num : Int) (gv : Value) (ns : List Int) (a b c d k g s : Int) (w : World) (hu : Il w gv ns) (hl : ns.length ≤ 1000) (h1 : okC num ns [a, b, c, d] = true) (h2 : k = 3) (h4 : 1 ≤ g) (h5 : g ≤ 4) (h6 : 4 ≤ s) :
    Calls Tryz.prog 67 #[.agg (cf num gv a b c d), .agg #[.int .i64 k, .int .i64 g, .int .i64 s]] w fun e W' => e = .returned (.tuple #[.agg (cf 0 (.slice none 0 0) 0 0 0 0), .int .i64 1]) ∧ Below w.heap.size w W' := by
  subst h2
  obtain ⟨W0, hW0⟩ : ∃ W, ((w.alloc (.cells (cf num gv a b c d) 32)).alloc (.cells #[.int .i64 3, .int .i64 g, .int .i64 s] 100)).alloc (.cells (cf 0 (.slice none 0 0) 0 0 0 0) 32) = W := ⟨_, rfl⟩
  have hN := nb_of num gv a b c d 3 g s w W0 hW0
  have HV : Hid (((w.alloc (.cells (cf num gv a b c d) 32)).alloc (.cells #[.int .i64 3, .int .i64 g, .int .i64 s] 100)).alloc (.cells (cf 0 (.slice none 0 0) 0 0 0 0) 32) = W0) := hW0
  have HN : Hid (Nb w num gv a b c d 3 g s W0) := hN
  have hC := rCheck_any num gv ns a b c d W0 (hu.next hN.bel) (Nat.le_trans hl (by decide))
  have K0 : Hid (W0.rangeAt w.heap.size 0 (cfL num gv a b c d)) := blk_range (L := cfL num gv a b c d) hN.r0
  rw [if_pos h1] at hC
  obtain ⟨pa, pc, rfl⟩ := hu.slice
  clear hW0 hN hu
  have d2 : ¬ g < 1 := by omega
  have d3 : ¬ (4 : Int) < g := by omega
  have d4 : ¬ s < 0 := by omega
  clear h4 h5
  go_enter Tryz.func67, Tryz.ntmps67
  go_upto_region 1 with fail
  rw [HV.out]
  clear HV
  go_upto_region 3 with (first
    | (refine wpList_load_mid rfl 32 _ rfl w.heap.size 0 rfl (cfL num (.slice pa ns.length pc) a b c d) _ K0.out Tryz.underlying32 rfl Tryz.size32 ?_)
    | (go_at_call 14; refine hC.mono ?_; rintro e w1 ⟨rfl, hb1⟩; have HN1 : Hid (Nb w num (.slice pa ns.length pc) a b c d 3 g s w1) := HN.out.next hb1; clear hb1))
  clear hC K0 HN
  have x0 := cellB HN1.out.r1 0 _ rfl
  have x1 := cellB HN1.out.r1 1 _ rfl
  have x2 := cellB HN1.out.r1 2 _ rfl
  go_upto_region 4 with fail
  have KS : Hid (w1.there (w.heap.size + 2) 0 6) := blk_there HN1.out.r2 0 6 (Nat.le_refl _)
  go_wp2_with (first
    | (refine wpList_store_mid rfl 32 _ _ rfl (w.heap.size + 2) 0 (cf 0 (.slice none 0 0) 0 0 0 0) rfl rfl KS.out Tryz.size32 (cf_ones _ _ _ _ _ _ _ _) ?_))
  have k4 := blk_range (blk_set HN1.out.r2 (L := cfL 0 (.slice none 0 0) 0 0 0 0) rfl)
  exact bodyPost_ret (v := .tuple #[.agg (cf 0 (.slice none 0 0) 0 0 0 0), .int .i64 1]) (results_two rfl rfl rfl (res32 k4 rfl)) rfl ⟨rfl, blk_below (by omega) _ _ _ HN1.out.bel⟩
set_option maxRecDepth 20000 in
set_option maxHeartbeats 400000 in
theorem rNext_arg_sno (num : Int) (gv : Value) (ns : List Int) (a b c d k g s : Int) (w : World) (hu : Il w gv ns) (hl : ns.length ≤ 1000) (h1 : okC num ns [a, b, c, d] = true) (h2 : 1 ≤ k) (h3 : k ≤ 3) (h4 : 1 ≤ g) (h5 : g ≤ 4) (h7 : k ≠ 3) (h6 : s ≠ 0) :
    Calls Tryz.prog 67 #[.agg (cf num gv a b c d), .agg #[.int .i64 k, .int .i64 g, .int .i64 s]] w fun e W' => e = .returned (.tuple #[.agg (cf 0 (.slice none 0 0) 0 0 0 0), .int .i64 1]) ∧ Below w.heap.size w W' := by
  obtain ⟨W0, hW0⟩ : ∃ W, ((w.alloc (.cells (cf num gv a b c d) 32)).alloc (.cells #[.int .i64 k, .int .i64 g, .int .i64 s] 100)).alloc (.cells (cf 0 (.slice none 0 0) 0 0 0 0) 32) = W := ⟨_, rfl⟩
  have hN := nb_of num gv a b c d k g s w W0 hW0
  have HV : Hid (((w.alloc (.cells (cf num gv a b c d) 32)).alloc (.cells #[.int .i64 k, .int .i64 g, .int .i64 s] 100)).alloc (.cells (cf 0 (.slice none 0 0) 0 0 0 0) 32) = W0) := hW0
  have HN : Hid (Nb w num gv a b c d k g s W0) := hN
  have hC := rCheck_any num gv ns a b c d W0 (hu.next hN.bel) (Nat.le_trans hl (by decide))
  have K0 : Hid (W0.rangeAt w.heap.size 0 (cfL num gv a b c d)) := blk_range (L := cfL num gv a b c d) hN.r0
  rw [if_pos h1] at hC
  obtain ⟨pa, pc, rfl⟩ := hu.slice
  clear hW0 hN hu
  have d0 : ¬ k < 1 := by omega
  have d1 : ¬ (3 : Int) < k := by omega
  have d2 : ¬ g < 1 := by omega
  have d3 : ¬ (4 : Int) < g := by omega
  have q3 : (k == 3) = false := by simpa using h7
  have q4 : (k != 3) = true := by simpa using h7
  have q5 : (s != 0) = true := by simpa using h6
  clear h2 h3 h4 h5 h7 h6
  go_enter Tryz.func67, Tryz.ntmps67
  go_upto_region 1 with fail
  rw [HV.out]
  clear HV
  go_upto_region 3 with (first
    | (refine wpList_load_mid rfl 32 _ rfl w.heap.size 0 rfl (cfL num (.slice pa ns.length pc) a b c d) _ K0.out Tryz.underlying32 rfl Tryz.size32 ?_)
    | (go_at_call 14; refine hC.mono ?_; rintro e w1 ⟨rfl, hb1⟩; have HN1 : Hid (Nb w num (.slice pa ns.length pc) a b c d k g s w1) := HN.out.next hb1; clear hb1))
  clear hC K0 HN
  have x0 := cellB HN1.out.r1 0 _ rfl
  have x1 := cellB HN1.out.r1 1 _ rfl
  have x2 := cellB HN1.out.r1 2 _ rfl
  go_upto_region 4 with fail
  have KS : Hid (w1.there (w.heap.size + 2) 0 6) := blk_there HN1.out.r2 0 6 (Nat.le_refl _)
  go_wp2_with (first
    | (refine wpList_store_mid rfl 32 _ _ rfl (w.heap.size + 2) 0 (cf 0 (.slice none 0 0) 0 0 0 0) rfl rfl KS.out Tryz.size32 (cf_ones _ _ _ _ _ _ _ _) ?_))
  have k4 := blk_range (blk_set HN1.out.r2 (L := cfL 0 (.slice none 0 0) 0 0 0 0) rfl)
  exact bodyPost_ret (v := .tuple #[.agg (cf 0 (.slice none 0 0) 0 0 0 0), .int .i64 1]) (results_two rfl rfl rfl (res32 k4 rfl)) rfl ⟨rfl, blk_below (by omega) _ _ _ HN1.out.bel⟩
theorem rNext_arg (num : Int) (gv : Value) (ns : List Int) (a b c d k g s : Int) (w : World) (hu : Il w gv ns) (hl : ns.length ≤ 1000) (h1 : okC num ns [a, b, c, d] = true) (h2 : isCmd k g s = false) :
    Calls Tryz.prog 67 #[.agg (cf num gv a b c d), .agg #[.int .i64 k, .int .i64 g, .int .i64 s]] w fun e W' => e = .returned (.tuple #[.agg (cf 0 (.slice none 0 0) 0 0 0 0), .int .i64 1]) ∧ Below w.heap.size w W' := by
  by_cases k1 : k < 1
  · exact rNext_arg_lo num gv ns a b c d k g s w hu hl h1 k1
  by_cases k3 : 3 < k
  · exact rNext_arg_hi num gv ns a b c d k g s w hu hl h1 k3
  by_cases g1 : g < 1
  · exact rNext_arg_glo num gv ns a b c d k g s w hu hl h1 (by omega) (by omega) g1
  by_cases g4 : 4 < g
  · exact rNext_arg_ghi num gv ns a b c d k g s w hu hl h1 (by omega) (by omega) g4
  have e1 : wi k 1 3 = true := by simp [wi]; omega
  have e2 : wi g 1 4 = true := by simp [wi]; omega
  unfold isCmd at h2
  rw [e1, e2, Bool.true_and, Bool.true_and] at h2
  have h3 := wi_f h2
  by_cases hk : k = 3
  · rw [if_pos hk] at h3
    rcases h3 with h3 | h3
    · exact rNext_arg_slo num gv ns a b c d k g s w hu hl h1 hk (by omega) (by omega) h3
    · exact rNext_arg_shi num gv ns a b c d k g s w hu hl h1 hk (by omega) (by omega) (by omega)
  · rw [if_neg hk] at h3
    exact rNext_arg_sno num gv ns a b c d k g s w hu hl h1 (by omega) (by omega) (by omega) (by omega) hk (by omega)
end Go.Proofs.YtfolnlgceighbaaGreatDoor
