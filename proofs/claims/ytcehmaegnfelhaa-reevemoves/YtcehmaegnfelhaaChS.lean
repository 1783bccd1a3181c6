/- Chains: Last, the nil ones, walked. -/
import Derived.Test.YtcehmaegnfelhaaChR
namespace Go.Proofs.Ytcehmaegnfelhaa
open Go.RowKit
attribute [local go_sem ↓] Go.wp_at_zero Go.wp_at_succ

set_option maxRecDepth 20000 in
set_option maxHeartbeats 4000000 in
theorem Last_any (B : Nat) (base : Nat) (v : Value) (l : List Rc) (w : World) (h : ChAt base w B v l) (hl : l.length ≤ 1000) :
    Calls Try.prog 25 #[.pointer (some ⟨B, 0, none⟩)] w fun e W' => ∃ x, e = .returned x ∧ GtPost l l.length w x W' := by
  have hb0 : Below w.heap.size w (w.alloc (.cells (cf 0 (.slice none 0 0) 0 0 0 0) 50)) := (Below.refl _ w).alloc (Nat.le_refl _) _
  have r0 := heap_alloc_new w (.cells (cf 0 (.slice none 0 0) 0 0 0 0) 50)
  have h0 := h.next hb0
  have hsz : (w.alloc (.cells (cf 0 (.slice none 0 0) 0 0 0 0) 50)).heap.size = w.heap.size + 1 := by simp
  have x0 := cellB h0.blk 0 _ rfl
  have hG := Get_ok l.length B base v l _ h0 hl (Nat.le_refl _)
  obtain ⟨va, vc, rfl⟩ := owns_slice h.own
  obtain ⟨W0, hW0⟩ : ∃ W, w.alloc (.cells (cf 0 (.slice none 0 0) 0 0 0 0) 50) = W := ⟨_, rfl⟩
  rw [hW0] at hb0 r0 x0 hsz hG
  have HV : Hid (w.alloc (.cells (cf 0 (.slice none 0 0) 0 0 0 0) 50) = W0) := hW0
  have R0 : Hid (W0.heap[w.heap.size]? = some (.cells (cf 0 (.slice none 0 0) 0 0 0 0) 50)) := r0
  have HSZ : Hid (W0.heap.size = w.heap.size + 1 ∧ Below w.heap.size w W0) := ⟨hsz, hb0⟩
  obtain ⟨gs, hgs⟩ : ∃ gs, (cfgAt l l.length).1 = gs := ⟨_, rfl⟩
  have HGS : Hid ((cfgAt l l.length).1 = gs) := hgs
  clear hW0 r0 h h0 hsz hgs hb0
  go_enter Try.func25, Try.ntmps25
  go_upto_region 1 with fail
  rw [HV.out]
  clear HV
  go_upto_region 4 with (first
    | (go_at_call 34; refine hG.mono ?_; rintro e w1 ⟨x, rfl, u, a, b, c, d, j1, rfl, j3, j4, j5⟩; rw [HGS.out] at j3; have hil := j3; obtain ⟨ua, uc, rfl⟩ := j3.slice; have HJ : Hid (_ ∧ _ ∧ _ ∧ _) := ⟨j1, hil, j4, j5⟩; clear j1 j3 hil j4 j5))
  obtain ⟨j1, hil, j4, j5⟩ := HJ.out
  obtain ⟨hsz, hb0⟩ := HSZ.out
  have hlo := j5.size
  have q0 := (j5.block _ (by omega)).trans R0.out
  have k1 := blk_range (L := cfL l.length (.slice ua (zi gs).length uc) a b c d) (heap_alloc_new w1 (.cells (cf l.length (.slice ua (zi gs).length uc) a b c d) 50))
  have p1 := (Below.heap_alloc w1 (.cells (cf l.length (.slice ua (zi gs).length uc) a b c d) 50) w.heap.size (by omega)).trans q0
  have hb2 : Below w.heap.size w (w1.alloc (.cells (cf l.length (.slice ua (zi gs).length uc) a b c d) 50)) := (hb0.trans (j5.mono hb0.size)).alloc (by omega) _
  have hil2 : Il (w1.alloc (.cells (cf l.length (.slice ua (zi gs).length uc) a b c d) 50)) (.slice ua (zi gs).length uc) (zi gs) := hil.next ((Below.refl _ w1).alloc (Nat.le_refl _) _)
  obtain ⟨W2, hW2⟩ : ∃ W, w1.alloc (.cells (cf l.length (.slice ua (zi gs).length uc) a b c d) 50) = W := ⟨_, rfl⟩
  rw [hW2] at k1 p1 hb2 hil2 ⊢
  have K1 : Hid (W2.rangeAt w1.heap.size 0 (cfL l.length (.slice ua (zi gs).length uc) a b c d)) := k1
  have P1 : Hid (W2.heap[w.heap.size]? = some (.cells (cf 0 (.slice none 0 0) 0 0 0 0) 50)) := p1
  have HE : Hid (_ ∧ _ ∧ _ ∧ _) := ⟨j1, hil2, j4, hb2⟩
  have HZ : Hid (W0.heap.size = w.heap.size + 1) := hsz
  clear j1 hil hil2 j4 j5 hb2 hsz hlo q0 k1 p1 hW2 HJ hG x0
  go_wp2_with (first
    | (refine wpList_load_mid rfl 50 _ rfl w1.heap.size 0 rfl (cfL l.length (.slice ua (zi gs).length uc) a b c d) _ K1.out Try.underlying50 rfl Try.size50 ?_)
    | (refine wpList_store_mid rfl 50 _ _ rfl w.heap.size 0 (cf l.length (.slice ua (zi gs).length uc) a b c d) rfl rfl (blk_there P1.out 0 6 (Nat.le_refl _)) Try.size50 (cf_ones _ _ _ _ _ _ _ _) ?_))
  obtain ⟨j1, hil2, j4, hb2⟩ := HE.out
  have k4 := blk_range (blk_set P1.out (L := cfL l.length (.slice ua (zi gs).length uc) a b c d) rfl)
  have hsz := HZ.out
  refine bodyPost_ret (v := .agg (cf l.length (.slice ua (zi gs).length uc) a b c d)) (results_one rfl rfl (res25 k4 rfl)) rfl ⟨_, rfl, .slice ua (zi gs).length uc, a, b, c, d, j1, rfl, ?_, fun k hk => by have := j4 k hk; omega, blk_below (Nat.le_refl _) _ _ _ hb2⟩
  rw [HGS.out]
  exact Il_keep hil2 (fun k hk => by have := j4 k hk; omega)
set_option maxRecDepth 20000 in
theorem Get_nil (num : Int) (w : World) : Calls Try.prog 34 #[.pointer none, .int .i64 num] w fun e W' => e = .returned (.tuple #[.agg (cf 0 (.slice none 0 0) 0 0 0 0), .int .i64 6]) ∧ Below w.heap.size w W' := by
  have hb0 : Below w.heap.size w (w.alloc (.cells (cf 0 (.slice none 0 0) 0 0 0 0) 50)) := (Below.refl _ w).alloc (Nat.le_refl _) _
  have r0 := heap_alloc_new w (.cells (cf 0 (.slice none 0 0) 0 0 0 0) 50)
  obtain ⟨W0, hW0⟩ : ∃ W, w.alloc (.cells (cf 0 (.slice none 0 0) 0 0 0 0) 50) = W := ⟨_, rfl⟩
  rw [hW0] at hb0 r0
  have HV : Hid (w.alloc (.cells (cf 0 (.slice none 0 0) 0 0 0 0) 50) = W0) := hW0
  have R0 : Hid (W0.heap[w.heap.size]? = some (.cells (cf 0 (.slice none 0 0) 0 0 0 0) 50)) := r0
  clear hW0 r0
  go_enter Try.func34, Try.ntmps34
  go_upto_region 1 with fail
  rw [HV.out]
  clear HV
  go_wp2_with (first
    | (refine wpList_store_mid rfl 50 _ _ rfl w.heap.size 0 (cf 0 (.slice none 0 0) 0 0 0 0) rfl rfl (blk_there R0.out 0 6 (Nat.le_refl _)) Try.size50 (cf_ones _ _ _ _ _ _ _ _) ?_))
  have k4 := blk_range (blk_set R0.out (L := cfL 0 (.slice none 0 0) 0 0 0 0) rfl)
  exact bodyPost_ret (v := .tuple #[.agg (cf 0 (.slice none 0 0) 0 0 0 0), .int .i64 6]) (results_two rfl rfl rfl (res25 k4 rfl)) rfl ⟨rfl, blk_below (Nat.le_refl _) _ _ _ hb0⟩
set_option maxRecDepth 20000 in
theorem Last_nil (w : World) : Calls Try.prog 25 #[.pointer none] w fun e W' => e = .returned (.agg (cf 0 (.slice none 0 0) 0 0 0 0)) ∧ Below w.heap.size w W' := by
  have hb0 : Below w.heap.size w (w.alloc (.cells (cf 0 (.slice none 0 0) 0 0 0 0) 50)) := (Below.refl _ w).alloc (Nat.le_refl _) _
  have r0 := heap_alloc_new w (.cells (cf 0 (.slice none 0 0) 0 0 0 0) 50)
  obtain ⟨W0, hW0⟩ : ∃ W, w.alloc (.cells (cf 0 (.slice none 0 0) 0 0 0 0) 50) = W := ⟨_, rfl⟩
  rw [hW0] at hb0 r0
  have HV : Hid (w.alloc (.cells (cf 0 (.slice none 0 0) 0 0 0 0) 50) = W0) := hW0
  have R0 : Hid (W0.heap[w.heap.size]? = some (.cells (cf 0 (.slice none 0 0) 0 0 0 0) 50)) := r0
  clear hW0 r0
  go_enter Try.func25, Try.ntmps25
  go_upto_region 1 with fail
  rw [HV.out]
  clear HV
  go_wp2_with (first
    | (refine wpList_store_mid rfl 50 _ _ rfl w.heap.size 0 (cf 0 (.slice none 0 0) 0 0 0 0) rfl rfl (blk_there R0.out 0 6 (Nat.le_refl _)) Try.size50 (cf_ones _ _ _ _ _ _ _ _) ?_))
  have k4 := blk_range (blk_set R0.out (L := cfL 0 (.slice none 0 0) 0 0 0 0) rfl)
  exact bodyPost_ret (v := .agg (cf 0 (.slice none 0 0) 0 0 0 0)) (results_one rfl rfl (res25 k4 rfl)) rfl ⟨rfl, blk_below (Nat.le_refl _) _ _ _ hb0⟩
theorem Do_nil (k g s : Int) (w : World) : Calls Try.prog 15 #[.pointer none, .agg #[.int .i64 k, .int .i64 g, .int .i64 s]] w fun e W' => e = .returned (.int .i64 7) ∧ Below w.heap.size w W' := by
  have hb0 : Below w.heap.size w (w.alloc (.cells #[.int .i64 k, .int .i64 g, .int .i64 s] 42)) := (Below.refl _ w).alloc (Nat.le_refl _) _
  go_enter Try.func15, Try.ntmps15
  go_wp2
  go_ret
  exact ⟨rfl, hb0⟩
end Go.Proofs.Ytcehmaegnfelhaa
