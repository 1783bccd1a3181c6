/- Chains: Do, walked once more: what is laid is new. -/
import Derived.Test.YtcehmaegnfelhaaChV
namespace Go.Proofs.Ytcehmaegnfelhaa
open Go.RowKit
attribute [local go_sem ↓] Go.wp_at_zero Go.wp_at_succ

def DoPost2 (base B : Nat) (v : Value) (l : List Rc) (k g s : Int) (w : World) (W' : World) : Prop :=
  ∃ v' l', cls l' = doC (cls l) k g s ∧ ChAt base W' B v' l' ∧ Kb B v w W' ∧ (∀ j, v'.ownBlock = some j → v.ownBlock = some j ∨ w.heap.size ≤ j) ∧ ∀ (i : Nat) r, l'[i]? = some r → l[i]? = some r ∨ ∀ j, r.1.ownBlock = some j → w.heap.size ≤ j
theorem Do2_full (k g s : Int) (B : Nat) (base : Nat) (v : Value) (l : List Rc) (w : World) (h : ChAt base w B v l) (hl : 40 ≤ l.length) (hl2 : l.length ≤ 1000) :
    Calls Try.prog 15 #[.pointer (some ⟨B, 0, none⟩), .agg #[.int .i64 k, .int .i64 g, .int .i64 s]] w fun e W' => e = .returned (.int .i64 (doE (cls l) k g s)) ∧ DoPost2 base B v l k g s w W' := by
  have hb0 : Below w.heap.size w (w.alloc (.cells #[.int .i64 k, .int .i64 g, .int .i64 s] 42)) := (Below.refl _ w).alloc (Nat.le_refl _) _
  have hE : doE (cls l) k g s = 151 := by unfold doE; rw [cls_len, if_pos hl]
  have hP : DoPost2 base B v l k g s w (w.alloc (.cells #[.int .i64 k, .int .i64 g, .int .i64 s] 42)) := ⟨v, l, by unfold doC; rw [hE]; rfl, h.next hb0, Kb.of_below hb0, fun j hj => .inl hj, fun i r hr => .inl hr⟩
  have HP : Hid (DoPost2 base B v l k g s w (w.alloc (.cells #[.int .i64 k, .int .i64 g, .int .i64 s] 42))) := hP
  have x0 := cellB (h.next hb0).blk 0 _ rfl
  rw [hE]
  obtain ⟨va, vc, rfl⟩ := owns_slice h.own
  have hq : (40 : Int) ≤ (l.length : Int) := by omega
  clear hP h hE
  go_enter Try.func15, Try.ntmps15
  go_wp2
  go_ret
  exact ⟨rfl, HP.out⟩
set_option maxRecDepth 20000 in
set_option maxHeartbeats 400000 in
theorem Do2_some (k g s : Int) (B : Nat) (base : Nat) (v : Value) (l : List Rc) (w : World) (h : ChAt base w B v l) (hl : l.length < 40) :
    Calls Try.prog 15 #[.pointer (some ⟨B, 0, none⟩), .agg #[.int .i64 k, .int .i64 g, .int .i64 s]] w fun e W' => e = .returned (.int .i64 (doE (cls l) k g s)) ∧ DoPost2 base B v l k g s w W' := by
  have hb0 : Below w.heap.size w (w.alloc (.cells #[.int .i64 k, .int .i64 g, .int .i64 s] 42)) := (Below.refl _ w).alloc (Nat.le_refl _) _
  have hE : doE (cls l) k g s = nxE l.length (zi (cfgAt l l.length).1) (zi (cfgAt l l.length).2) k g s := by unfold doE; rw [cls_len, if_neg (by omega), cfgAt_cls]
  obtain ⟨hm1, hm2⟩ := cfg_mem h (Nat.le_refl l.length)
  have hsz : (w.alloc (.cells #[.int .i64 k, .int .i64 g, .int .i64 s] 42)).heap.size = w.heap.size + 1 := by simp
  have r0 := heap_alloc_new w (.cells #[.int .i64 k, .int .i64 g, .int .i64 s] 42)
  have h0 := h.next hb0
  obtain ⟨gs, hgs⟩ : ∃ gs, (cfgAt l l.length).1 = gs := ⟨_, rfl⟩
  obtain ⟨a, b, c, d, ho⟩ := four_of ((conf_of hm1).2.2 _ hm2).1
  rw [ho, hgs] at hE hm2
  rw [hgs] at hm1
  obtain ⟨W0, hW0⟩ : ∃ W, w.alloc (.cells #[.int .i64 k, .int .i64 g, .int .i64 s] 42) = W := ⟨_, rfl⟩
  rw [hW0] at hb0 hsz r0 h0
  obtain ⟨E, hEE⟩ : ∃ E, nxE l.length (zi gs) (zi [a, b, c, d]) k g s = E := ⟨_, rfl⟩
  rw [hEE] at hE
  have hLast : ∀ W, Below W0.heap.size W0 W → Calls Try.prog 25 #[.pointer (some ⟨B, 0, none⟩)] W fun e W' => ∃ ua uc, e = .returned (.agg (cf l.length (.slice ua gs.length uc) a b c d)) ∧ Il W' (.slice ua gs.length uc) (zi gs) ∧ Below W0.heap.size W0 W' ∧ Below W.heap.size W W' := by
    intro W hW
    refine (Last_any B base v l W (h0.next hW) (by omega)).mono ?_
    rintro e W' ⟨x, rfl, u, a', b', c', d', e1, rfl, e3, e4, e5⟩
    rw [ho] at e1
    injection e1 with f1 e1; injection e1 with f2 e1; injection e1 with f3 e1; injection e1 with f4 e1
    subst f1 f2 f3 f4
    rw [hgs] at e3
    obtain ⟨ua, uc, rfl⟩ := e3.slice
    rw [zi_len] at e3 ⊢
    exact ⟨ua, uc, rfl, e3, hW.trans (e5.mono hW.size), e5⟩
  have hNext : ∀ W u, Below W0.heap.size W0 W → Il W u (zi gs) → Calls Try.prog 24 #[.agg (cf l.length u a b c d), .agg #[.int .i64 k, .int .i64 g, .int .i64 s]] W fun e W' => ∃ x, e = .returned (.tuple #[x, .int .i64 E]) ∧ NxPost l.length gs [a, b, c, d] k g s E W x W' := by
    intro W u hW hu
    have := Next_any l.length (by omega) (by omega) u gs a b c d k g s W hu hm1 hm2
    rw [hEE] at this
    exact this
  have x0 := cellB h0.blk 0 _ rfl
  have HV : Hid (w.alloc (.cells #[.int .i64 k, .int .i64 g, .int .i64 s] 42) = W0) := hW0
  have R0 : Hid (W0.heap[w.heap.size]? = some (.cells #[.int .i64 k, .int .i64 g, .int .i64 s] 42)) := r0
  have HX : Hid (ChAt base W0 B v l ∧ W0.heap.size = w.heap.size + 1 ∧ Below w.heap.size w W0 ∧ gs ∈ subs0 ∧ [a, b, c, d] ∈ owners0 gs ∧ (cfgAt l l.length) = (gs, [a, b, c, d])) := ⟨h0, hsz, hb0, hm1, hm2, by rw [← hgs, ← ho]⟩
  have HL : Hid (∀ W, Below W0.heap.size W0 W → Calls Try.prog 25 #[.pointer (some ⟨B, 0, none⟩)] W fun e W' => ∃ ua uc, e = .returned (.agg (cf l.length (.slice ua gs.length uc) a b c d)) ∧ Il W' (.slice ua gs.length uc) (zi gs) ∧ Below W0.heap.size W0 W' ∧ Below W.heap.size W W') := hLast
  have HN : Hid (∀ W u, Below W0.heap.size W0 W → Il W u (zi gs) → Calls Try.prog 24 #[.agg (cf l.length u a b c d), .agg #[.int .i64 k, .int .i64 g, .int .i64 s]] W fun e W' => ∃ x, e = .returned (.tuple #[x, .int .i64 E]) ∧ NxPost l.length gs [a, b, c, d] k g s E W x W') := hNext
  rw [hE]
  have HE : Hid (doE (cls l) k g s = E) := hE
  obtain ⟨va, vc, rfl⟩ := owns_slice h.own
  have hq : ¬ (40 : Int) ≤ (l.length : Int) := by omega
  clear hW0 r0 h h0 hsz hm1 hm2 hE hEE hgs ho hLast hNext hb0
  go_enter Try.func15, Try.ntmps15
  go_upto_region 1 with fail
  rw [HV.out]
  clear HV
  go_upto_region 5 with fail
  clear x0 hq
  go_cut [5, 6] (fun p5 p6 wx => ∃ (X : Nat) (v : Value) (n : Int) (G' O' : List Nat) (p q r t : Nat), p5 = .pointer (some ⟨X, 0, none⟩) ∧ p6 = .int .i64 E ∧ Hid (Il wx v (zi G') ∧ O' = [p, q, r, t] ∧ G'.length ≤ 4 ∧ (∀ j, v.ownBlock = some j → W0.heap.size ≤ j ∧ j ≠ X ∧ j < wx.heap.size) ∧ W0.heap.size ≤ X ∧ wx.heap[X]? = some (.cells (cf n v p q r t) 50) ∧ Below W0.heap.size W0 wx ∧
    (E = 0 → n = (l.length : Int) + 1 ∧ (G', O') = nextC (gs, [a, b, c, d]) k g s ∧ G' ∈ subs0 ∧ O' ∈ owners0 G')))
  case first =>
    refine region_Z 99 (fun w' => w'.heap[w.heap.size]? = some (.cells #[.int .i64 k, .int .i64 g, .int .i64 s] 42)) (by kernel_rfl) ?_
    have hD : w.heap.size < W0.heap.size := by have := HX.out.2.1; omega
    have hS0 : W0.drew.heap[w.heap.size]? = some (.cells #[.int .i64 k, .int .i64 g, .int .i64 s] 42) := R0.out
    refine Y_take (i := 0) (v := ?_) rfl (by kernel_rfl) (by kernel_rfl) (by kernel_rfl) (by kernel_rfl) (fun _ _ _ h => h) (by rfl) hS0 ?_ ?_
    rotate_left
    · (intro w' hSw; go_simp; (try with_reducible rfl))
    simp only [Act.put, List.setIfInBounds_toArray]
    refine Y_take (i := 2) (v := ?_) rfl (by kernel_rfl) (by kernel_rfl) (by kernel_rfl) (by kernel_rfl) (fun _ _ _ h => h) (by rfl) hS0 ?_ ?_
    rotate_left
    · (intro w' hSw; have e0 := cellB hSw 0 _ rfl; have e1 := cellB hSw 1 _ rfl; have e2 := cellB hSw 2 _ rfl; go_simp; (try with_reducible rfl))
    simp only [Act.put]
    refine Z_two (i := 1) (j := 7) (by kernel_rfl) rfl rfl (fun K hK => ?_) (fun K hK => ?_)
    · go_simp
      refine (HL.out _ (below_drew (Below.refl _ _))).mono ?_
      rintro e w1 ⟨ua, uc, rfl, hil, hb1, hbw⟩
      have hS1 := (hb1.block _ hD).trans R0.out
      refine hK _ _ (fun _ => hS1) ?_
      clear hK K
      refine Z_two (i := 3) (j := 7) (by kernel_rfl) rfl rfl (fun K hK => ?_) (fun K hK => ?_)
      · go_simp
        refine (HN.out _ _ (hb1) (hil)).mono ?_
        rintro e w2 ⟨x, rfl, v, n, G', O', p, q, r, t, rfl, j1, j2, j3, j4, j4', j5, j6, _⟩
        have hb2 := (hb1).trans (j5.mono (hb1).size)
        have hS2 := (hb2.block _ hD).trans R0.out
        obtain ⟨pa, pc, rfl⟩ := j1.slice
        refine hK _ _ (fun _ => hS2) ?_
        clear hK K
        refine Y_take (i := 4) (v := ?_) rfl (by kernel_rfl) (by kernel_rfl) (by kernel_rfl) (by kernel_rfl) (fun _ _ _ h => h) (by rfl) hS2 ?_ ?_
        rotate_left
        · (intro w' hSw; go_simp; (try with_reducible rfl))
        simp only [Act.put]
        refine Y_take (i := 5) (v := ?_) rfl (by kernel_rfl) (by kernel_rfl) (by kernel_rfl) (by kernel_rfl) (fun _ _ _ h => h) (by rfl) hS2 ?_ ?_
        rotate_left
        · (intro w' hSw; go_simp; (try with_reducible rfl))
        simp only [Act.put]
        refine Y_take (i := 6) (v := ?_) rfl (by kernel_rfl) (by kernel_rfl) (by kernel_rfl) (by kernel_rfl) (fun _ _ _ h => h) (by rfl) hS2 ?_ ?_
        rotate_left
        · (intro w' hSw; go_simp; (try with_reducible rfl))
        simp only [Act.put]
        refine Z_step (i := 7) (by kernel_rfl) rfl (fun K hK => ?_)
        go_simp
        have hS3 := (Below.heap_alloc w2 (.cells (cf 0 (.slice none 0 0) 0 0 0 0) 50) w.heap.size (Nat.lt_of_lt_of_le hD hb2.size)).trans hS2
        refine hK _ _ (fun _ => hS3) ?_
        clear hK K
        have hzz : (w2.alloc (.cells (cf 0 (.slice none 0 0) 0 0 0 0) 50)).heap[w2.heap.size]? = some (.cells (cf 0 (.slice none 0 0) 0 0 0 0) 50) := heap_alloc_new w2 _
        refine Z_step (i := 8) (by kernel_rfl) rfl (fun K hK => ?_)
        refine step_store_mid (by rfl) 50 _ _ (by rfl) w2.heap.size 0 (cf n (.slice pa (zi G').length pc) p q r t) (by rfl) (by rfl) (blk_there hzz 0 6 (Nat.le_refl _)) Try.size50 (cf_ones _ _ _ _ _ _ _ _) ?_
        have hfr : ∀ j, (Value.slice pa (zi G').length pc).ownBlock = some j → j ≠ w2.heap.size := fun j hj => Nat.ne_of_lt (j4' j hj)
        have hge : ∀ j, (Value.slice pa (zi G').length pc).ownBlock = some j → W0.heap.size ≤ j := fun j hj => Nat.le_trans hb1.size (j4 j hj)
        have hX : W0.heap.size ≤ w2.heap.size := hb2.size
        have hz := blk_set hzz (L := cfL n (.slice pa (zi G').length pc) p q r t) rfl
        have hbW : Below W0.heap.size W0 (w2.alloc (.cells (cf 0 (.slice none 0 0) 0 0 0 0) 50)) := hb2.alloc hb2.size _
        have hbZ := blk_below hX (cfL n (.slice pa (zi G').length pc) p q r t) 0 _ hbW
        have hilZ : Il ((w2.alloc (.cells (cf 0 (.slice none 0 0) 0 0 0 0) 50)).setCells (w2.heap.size) 0 (cfL n (.slice pa (zi G').length pc) p q r t)) (.slice pa (zi G').length pc) (zi G') := Il_ne (j1.next ((Below.refl _ w2).alloc (Nat.le_refl _) _)) hfr
        have hSZ := (hbZ.block _ hD).trans R0.out
        refine hK _ _ (fun _ => hSZ) ?_
        clear hK K
        simp only [Act.put]
        refine Z_step (i := 9) (by kernel_rfl) rfl (fun K hK => ?_)
        go_simp
        refine hK _ _ (fun _ => hSZ) (Z_done (by kernel_rfl) ?_ _)
        clear hK K
        have hlt' : ∀ j, (Value.slice pa (zi G').length pc).ownBlock = some j → j < ((w2.alloc (.cells (cf 0 (.slice none 0 0) 0 0 0 0) 50)).setCells (w2.heap.size) 0 (cfL n (.slice pa (zi G').length pc) p q r t)).heap.size := fun j hj => by rw [blk_size]; exact by have := j4' j hj; simp; omega
        have hj : ∀ j, (Value.slice pa (zi G').length pc).ownBlock = some j → W0.heap.size ≤ j ∧ j ≠ w2.heap.size ∧ j < ((w2.alloc (.cells (cf 0 (.slice none 0 0) 0 0 0 0) 50)).setCells (w2.heap.size) 0 (cfL n (.slice pa (zi G').length pc) p q r t)).heap.size := fun j hj => ⟨hge j hj, hfr j hj, hlt' j hj⟩
        obtain ⟨WZ, hWZ⟩ : ∃ W, (w2.alloc (.cells (cf 0 (.slice none 0 0) 0 0 0 0) 50)).setCells (w2.heap.size) 0 (cfL n (.slice pa (zi G').length pc) p q r t) = W := ⟨_, rfl⟩
        rw [hWZ] at hilZ hj hz hbZ ⊢
        have HF : Hid (Il WZ (.slice pa (zi G').length pc) (zi G') ∧ O' = [p, q, r, t] ∧ G'.length ≤ 4 ∧ (∀ j, (Value.slice pa (zi G').length pc).ownBlock = some j → W0.heap.size ≤ j ∧ j ≠ w2.heap.size ∧ j < WZ.heap.size) ∧ W0.heap.size ≤ w2.heap.size ∧ WZ.heap[w2.heap.size]? = some (.cells (cf n (.slice pa (zi G').length pc) p q r t) 50) ∧ Below W0.heap.size W0 WZ ∧
          (E = 0 → n = (l.length : Int) + 1 ∧ (G', O') = nextC (gs, [a, b, c, d]) k g s ∧ G' ∈ subs0 ∧ O' ∈ owners0 G')) := ⟨hilZ, j2, j3, hj, hX, hz, hbZ, j6⟩
        clear hj hlt' hilZ j1 j2 j3 j4 j4' j5 j6 hge hfr hX hz hbZ hbW hzz hSZ hWZ
        go_wp2_with fail
        go_meet
        exact ⟨_, _, n, G', O', p, q, r, t, rfl, rfl, HF⟩
      · go_simp
        have hb1a := hb1.alloc hb1.size (.cells (cf 0 (.slice none 0 0) 0 0 0 0) 50)
        have hS1a := (hb1a.block _ hD).trans R0.out
        refine hK _ _ (fun _ => hS1a) ?_
        clear hK K
        refine Z_step (i := 3) (by kernel_rfl) rfl (fun K hK => ?_)
        go_simp
        refine (HN.out _ _ (hb1a) (hil.next ((Below.refl _ w1).alloc (Nat.le_refl _) _))).mono ?_
        rintro e w2 ⟨x, rfl, v, n, G', O', p, q, r, t, rfl, j1, j2, j3, j4, j4', j5, j6, _⟩
        have hb2 := (hb1a).trans (j5.mono (hb1a).size)
        have hS2 := (hb2.block _ hD).trans R0.out
        obtain ⟨pa, pc, rfl⟩ := j1.slice
        refine hK _ _ (fun _ => hS2) ?_
        clear hK K
        refine Y_take (i := 4) (v := ?_) rfl (by kernel_rfl) (by kernel_rfl) (by kernel_rfl) (by kernel_rfl) (fun _ _ _ h => h) (by rfl) hS2 ?_ ?_
        rotate_left
        · (intro w' hSw; go_simp; (try with_reducible rfl))
        simp only [Act.put]
        refine Y_take (i := 5) (v := ?_) rfl (by kernel_rfl) (by kernel_rfl) (by kernel_rfl) (by kernel_rfl) (fun _ _ _ h => h) (by rfl) hS2 ?_ ?_
        rotate_left
        · (intro w' hSw; go_simp; (try with_reducible rfl))
        simp only [Act.put]
        refine Y_take (i := 6) (v := ?_) rfl (by kernel_rfl) (by kernel_rfl) (by kernel_rfl) (by kernel_rfl) (fun _ _ _ h => h) (by rfl) hS2 ?_ ?_
        rotate_left
        · (intro w' hSw; go_simp; (try with_reducible rfl))
        simp only [Act.put]
        have hzz : (w2).heap[w1.heap.size]? = some (.cells (cf 0 (.slice none 0 0) 0 0 0 0) 50) := (j5.block _ (by simp)).trans (heap_alloc_new w1 _)
        refine Z_step (i := 8) (by kernel_rfl) rfl (fun K hK => ?_)
        refine step_store_mid (by rfl) 50 _ _ (by rfl) w1.heap.size 0 (cf n (.slice pa (zi G').length pc) p q r t) (by rfl) (by rfl) (blk_there hzz 0 6 (Nat.le_refl _)) Try.size50 (cf_ones _ _ _ _ _ _ _ _) ?_
        have hfr : ∀ j, (Value.slice pa (zi G').length pc).ownBlock = some j → j ≠ w1.heap.size := fun j hj => lt_ne1 (j4 j hj)
        have hge : ∀ j, (Value.slice pa (zi G').length pc).ownBlock = some j → W0.heap.size ≤ j := fun j hj => Nat.le_trans hb1a.size (j4 j hj)
        have hX : W0.heap.size ≤ w1.heap.size := hb1.size
        have hz := blk_set hzz (L := cfL n (.slice pa (zi G').length pc) p q r t) rfl
        have hbW : Below W0.heap.size W0 (w2) := hb2
        have hbZ := blk_below hX (cfL n (.slice pa (zi G').length pc) p q r t) 0 _ hbW
        have hilZ : Il ((w2).setCells (w1.heap.size) 0 (cfL n (.slice pa (zi G').length pc) p q r t)) (.slice pa (zi G').length pc) (zi G') := Il_ne (j1) hfr
        have hSZ := (hbZ.block _ hD).trans R0.out
        refine hK _ _ (fun _ => hSZ) ?_
        clear hK K
        simp only [Act.put]
        refine Z_step (i := 9) (by kernel_rfl) rfl (fun K hK => ?_)
        go_simp
        refine hK _ _ (fun _ => hSZ) (Z_done (by kernel_rfl) ?_ _)
        clear hK K
        have hlt' : ∀ j, (Value.slice pa (zi G').length pc).ownBlock = some j → j < ((w2).setCells (w1.heap.size) 0 (cfL n (.slice pa (zi G').length pc) p q r t)).heap.size := fun j hj => by rw [blk_size]; exact j4' j hj
        have hj : ∀ j, (Value.slice pa (zi G').length pc).ownBlock = some j → W0.heap.size ≤ j ∧ j ≠ w1.heap.size ∧ j < ((w2).setCells (w1.heap.size) 0 (cfL n (.slice pa (zi G').length pc) p q r t)).heap.size := fun j hj => ⟨hge j hj, hfr j hj, hlt' j hj⟩
        obtain ⟨WZ, hWZ⟩ : ∃ W, (w2).setCells (w1.heap.size) 0 (cfL n (.slice pa (zi G').length pc) p q r t) = W := ⟨_, rfl⟩
        rw [hWZ] at hilZ hj hz hbZ ⊢
        have HF : Hid (Il WZ (.slice pa (zi G').length pc) (zi G') ∧ O' = [p, q, r, t] ∧ G'.length ≤ 4 ∧ (∀ j, (Value.slice pa (zi G').length pc).ownBlock = some j → W0.heap.size ≤ j ∧ j ≠ w1.heap.size ∧ j < WZ.heap.size) ∧ W0.heap.size ≤ w1.heap.size ∧ WZ.heap[w1.heap.size]? = some (.cells (cf n (.slice pa (zi G').length pc) p q r t) 50) ∧ Below W0.heap.size W0 WZ ∧
          (E = 0 → n = (l.length : Int) + 1 ∧ (G', O') = nextC (gs, [a, b, c, d]) k g s ∧ G' ∈ subs0 ∧ O' ∈ owners0 G')) := ⟨hilZ, j2, j3, hj, hX, hz, hbZ, j6⟩
        clear hj hlt' hilZ j1 j2 j3 j4 j4' j5 j6 hge hfr hX hz hbZ hbW hzz hSZ hWZ
        go_wp2_with fail
        go_meet
        exact ⟨_, _, n, G', O', p, q, r, t, rfl, rfl, HF⟩
    · go_simp
      have hba : Below W0.heap.size W0 (W0.alloc (.cells (cf 0 (.slice none 0 0) 0 0 0 0) 50)).drew := below_drew ((Below.refl _ _).alloc (Nat.le_refl _) _)
      have hSa := (hba.block _ hD).trans R0.out
      refine hK _ _ (fun _ => hSa) ?_
      clear hK K
      refine Z_step (i := 1) (by kernel_rfl) rfl (fun K hK => ?_)
      go_simp
      refine (HL.out _ (hba)).mono ?_
      rintro e w1 ⟨ua, uc, rfl, hil, hb1, hbw⟩
      have hS1 := (hb1.block _ hD).trans R0.out
      refine hK _ _ (fun _ => hS1) ?_
      clear hK K
      refine Z_step (i := 3) (by kernel_rfl) rfl (fun K hK => ?_)
      go_simp
      refine (HN.out _ _ (hb1) (hil)).mono ?_
      rintro e w2 ⟨x, rfl, v, n, G', O', p, q, r, t, rfl, j1, j2, j3, j4, j4', j5, j6, _⟩
      have hb2 := (hb1).trans (j5.mono (hb1).size)
      have hS2 := (hb2.block _ hD).trans R0.out
      obtain ⟨pa, pc, rfl⟩ := j1.slice
      refine hK _ _ (fun _ => hS2) ?_
      clear hK K
      refine Y_take (i := 4) (v := ?_) rfl (by kernel_rfl) (by kernel_rfl) (by kernel_rfl) (by kernel_rfl) (fun _ _ _ h => h) (by rfl) hS2 ?_ ?_
      rotate_left
      · (intro w' hSw; go_simp; (try with_reducible rfl))
      simp only [Act.put]
      refine Y_take (i := 5) (v := ?_) rfl (by kernel_rfl) (by kernel_rfl) (by kernel_rfl) (by kernel_rfl) (fun _ _ _ h => h) (by rfl) hS2 ?_ ?_
      rotate_left
      · (intro w' hSw; go_simp; (try with_reducible rfl))
      simp only [Act.put]
      refine Y_take (i := 6) (v := ?_) rfl (by kernel_rfl) (by kernel_rfl) (by kernel_rfl) (by kernel_rfl) (fun _ _ _ h => h) (by rfl) hS2 ?_ ?_
      rotate_left
      · (intro w' hSw; go_simp; (try with_reducible rfl))
      simp only [Act.put]
      have hzz : (w2).heap[W0.heap.size]? = some (.cells (cf 0 (.slice none 0 0) 0 0 0 0) 50) := (j5.block _ (Nat.lt_of_lt_of_le (by simp) hbw.size)).trans ((hbw.block _ (by simp)).trans (heap_alloc_new W0 _))
      refine Z_step (i := 8) (by kernel_rfl) rfl (fun K hK => ?_)
      refine step_store_mid (by rfl) 50 _ _ (by rfl) W0.heap.size 0 (cf n (.slice pa (zi G').length pc) p q r t) (by rfl) (by rfl) (blk_there hzz 0 6 (Nat.le_refl _)) Try.size50 (cf_ones _ _ _ _ _ _ _ _) ?_
      have hfr : ∀ j, (Value.slice pa (zi G').length pc).ownBlock = some j → j ≠ W0.heap.size := fun j hj => lt_ne2 (j4 j hj) hbw.size
      have hge : ∀ j, (Value.slice pa (zi G').length pc).ownBlock = some j → W0.heap.size ≤ j := fun j hj => Nat.le_trans hb1.size (j4 j hj)
      have hX : W0.heap.size ≤ W0.heap.size := Nat.le_refl _
      have hz := blk_set hzz (L := cfL n (.slice pa (zi G').length pc) p q r t) rfl
      have hbW : Below W0.heap.size W0 (w2) := hb2
      have hbZ := blk_below hX (cfL n (.slice pa (zi G').length pc) p q r t) 0 _ hbW
      have hilZ : Il ((w2).setCells (W0.heap.size) 0 (cfL n (.slice pa (zi G').length pc) p q r t)) (.slice pa (zi G').length pc) (zi G') := Il_ne (j1) hfr
      have hSZ := (hbZ.block _ hD).trans R0.out
      refine hK _ _ (fun _ => hSZ) ?_
      clear hK K
      simp only [Act.put]
      refine Z_step (i := 9) (by kernel_rfl) rfl (fun K hK => ?_)
      go_simp
      refine hK _ _ (fun _ => hSZ) (Z_done (by kernel_rfl) ?_ _)
      clear hK K
      have hlt' : ∀ j, (Value.slice pa (zi G').length pc).ownBlock = some j → j < ((w2).setCells (W0.heap.size) 0 (cfL n (.slice pa (zi G').length pc) p q r t)).heap.size := fun j hj => by rw [blk_size]; exact j4' j hj
      have hj : ∀ j, (Value.slice pa (zi G').length pc).ownBlock = some j → W0.heap.size ≤ j ∧ j ≠ W0.heap.size ∧ j < ((w2).setCells (W0.heap.size) 0 (cfL n (.slice pa (zi G').length pc) p q r t)).heap.size := fun j hj => ⟨hge j hj, hfr j hj, hlt' j hj⟩
      obtain ⟨WZ, hWZ⟩ : ∃ W, (w2).setCells (W0.heap.size) 0 (cfL n (.slice pa (zi G').length pc) p q r t) = W := ⟨_, rfl⟩
      rw [hWZ] at hilZ hj hz hbZ ⊢
      have HF : Hid (Il WZ (.slice pa (zi G').length pc) (zi G') ∧ O' = [p, q, r, t] ∧ G'.length ≤ 4 ∧ (∀ j, (Value.slice pa (zi G').length pc).ownBlock = some j → W0.heap.size ≤ j ∧ j ≠ W0.heap.size ∧ j < WZ.heap.size) ∧ W0.heap.size ≤ W0.heap.size ∧ WZ.heap[W0.heap.size]? = some (.cells (cf n (.slice pa (zi G').length pc) p q r t) 50) ∧ Below W0.heap.size W0 WZ ∧
        (E = 0 → n = (l.length : Int) + 1 ∧ (G', O') = nextC (gs, [a, b, c, d]) k g s ∧ G' ∈ subs0 ∧ O' ∈ owners0 G')) := ⟨hilZ, j2, j3, hj, hX, hz, hbZ, j6⟩
      clear hj hlt' hilZ j1 j2 j3 j4 j4' j5 j6 hge hfr hX hz hbZ hbW hzz hSZ hWZ
      go_wp2_with fail
      go_meet
      exact ⟨_, _, n, G', O', p, q, r, t, rfl, rfl, HF⟩
  case rest =>
    obtain ⟨X, v2, n, G', O', p, q, r, t, rfl, rfl, HQ⟩ := hcut
    clear HL HN R0
    by_cases hE0 : E = 0
    · subst hE0
      obtain ⟨q1, q2, q3, q4, q5, q6, q7, q8⟩ := HQ.out
      obtain ⟨hn, hnx, hm1, hm2⟩ := q8 rfl
      obtain ⟨h0, hsz, hb0, _, _, hcfg⟩ := HX.out
      have hq1 := q1
      obtain ⟨ua, uc, rfl⟩ := q1.slice
      rw [zi_len] at hq1 q4 q6
      clear q1 q8 HQ
      subst hn
      have hC := h0.next q7
      have hbw := hb0.trans (q7.mono hb0.size)
      have y0 := cellB hC.blk 0 _ rfl
      have HY : Hid (_ ∧ _ ∧ _ ∧ _ ∧ _ ∧ _ ∧ _ ∧ _ ∧ _ ∧ _) := ⟨hq1, q2, q3, q4, q5, q6, q7, hnx, hm1, hm2⟩
      have HC : Hid (ChAt base wc B (.slice va l.length vc) l) := hC
      have HB : Hid (Below w.heap.size w wc) := hbw
      have HVB : Hid (∀ k, (Value.slice va l.length vc).ownBlock = some k → k < W0.heap.size) := fun k hk => (h0.own.lt k hk).2
      have HCF : Hid (cfgAt l l.length = (gs, [a, b, c, d])) := hcfg
      have HBW : Hid (B < W0.heap.size) := h0.lt
      have HS0 : Hid (W0.heap.size = w.heap.size + 1) := hsz
      have Y0 : Hid (wc.cell? ⟨B, 0, none⟩ = some (.slice va l.length vc)) := y0
      clear hq1 q2 q3 q4 q5 q6 q7 hnx hm1 hm2 hC hbw hcfg hsz h0 hb0 HX y0
      go_upto_region 8 with fail
      obtain ⟨hq1, q2, q3, q4, q5, q6, q7, hnx, hm1, hm2⟩ := HY.out
      obtain ⟨i0, hi, hz0, hz1, hz2⟩ := info_parts (show (Try.prog.info? 50).map (fun i => (i.zero, i.size, i.bytes)) = some (some (.agg (cf 0 (.slice none 0 0) 0 0 0 0)), 6, 64) by kernel_rfl)
      have hC := HC.out
      have hBw : B < wc.heap.size := hC.lt
      have hXw : X < wc.heap.size := (Array.getElem?_eq_some_iff.1 q6).1
      have hbase : base ≤ wc.heap.size := Nat.le_trans hC.low (Nat.le_of_lt hBw)
      have hml : l.length + 1 ≤ maxLen := by unfold maxLen; omega
      have hkb : (l.length + 1) * 64 ≤ 140737488355328 := by omega
      have hBX : B ≠ X := by
        rintro rfl
        have h1 := hC.blk
        rw [q6] at h1
        injection h1 with h1
        injection h1 with _ h1 _
        exact absurd h1 (by decide)
      have HXV : Hid (some X ≠ (Value.slice va l.length vc).ownBlock) := fun h => by have := HVB.out X h.symm; omega
      refine region_Z 10 (fun w' => w'.cell? ⟨B, 0, none⟩ = some (.slice va l.length vc) ∧ w'.heap[X]? = some (.cells (cf (l.length + 1) (.slice ua G'.length uc) p q r t) 50)) (by kernel_rfl) ?_
      have hS0 : wc.drew.cell? ⟨B, 0, none⟩ = some (.slice va l.length vc) ∧ wc.drew.heap[X]? = some (.cells (cf (l.length + 1) (.slice ua G'.length uc) p q r t) 50) := ⟨Y0.out, q6⟩
      refine Z_take (i := 0) (v := ?_) rfl (by kernel_rfl) (by kernel_rfl) (by kernel_rfl) (by kernel_rfl) (fun _ _ _ h => h) (by rfl) hS0 ?_ ?_
      rotate_left
      · (intro w' hSw; obtain ⟨e0, e1⟩ := hSw; have f0 := cellB e1 0 _ rfl; have f1 := cellB e1 1 _ rfl; have f2 := cellB e1 2 _ rfl; have f3 := cellB e1 3 _ rfl; have f4 := cellB e1 4 _ rfl; have f5 := cellB e1 5 _ rfl; go_simp; (try with_reducible rfl))
      simp only [Act.put, List.setIfInBounds_toArray]
      refine Z_take (i := 1) (v := ?_) rfl (by kernel_rfl) (by kernel_rfl) (by kernel_rfl) (by kernel_rfl) (fun _ _ _ h => h) (by rfl) hS0 ?_ ?_
      rotate_left
      · (intro w' hSw; obtain ⟨e0, e1⟩ := hSw; have f0 := cellB e1 0 _ rfl; have f1 := cellB e1 1 _ rfl; have f2 := cellB e1 2 _ rfl; have f3 := cellB e1 3 _ rfl; have f4 := cellB e1 4 _ rfl; have f5 := cellB e1 5 _ rfl; go_simp; (try with_reducible rfl))
      simp only [Act.put]
      refine Z_take (i := 2) (v := ?_) rfl (by kernel_rfl) (by kernel_rfl) (by kernel_rfl) (by kernel_rfl) (fun _ _ _ h => h) (by rfl) hS0 ?_ ?_
      rotate_left
      · (intro w' hSw; obtain ⟨e0, e1⟩ := hSw; have f0 := cellB e1 0 _ rfl; have f1 := cellB e1 1 _ rfl; have f2 := cellB e1 2 _ rfl; have f3 := cellB e1 3 _ rfl; have f4 := cellB e1 4 _ rfl; have f5 := cellB e1 5 _ rfl; go_simp; (try with_reducible rfl))
      simp only [Act.put]
      refine Z_take (i := 3) (v := ?_) rfl (by kernel_rfl) (by kernel_rfl) (by kernel_rfl) (by kernel_rfl) (fun _ _ _ h => h) (by rfl) hS0 ?_ ?_
      rotate_left
      · (intro w' hSw; obtain ⟨e0, e1⟩ := hSw; have f0 := cellB e1 0 _ rfl; have f1 := cellB e1 1 _ rfl; have f2 := cellB e1 2 _ rfl; have f3 := cellB e1 3 _ rfl; have f4 := cellB e1 4 _ rfl; have f5 := cellB e1 5 _ rfl; go_simp; (try with_reducible rfl))
      simp only [Act.put]
      refine Z_take (i := 4) (v := ?_) rfl (by kernel_rfl) (by kernel_rfl) (by kernel_rfl) (by kernel_rfl) (fun _ _ _ h => h) (by rfl) hS0 ?_ ?_
      rotate_left
      · (intro w' hSw; obtain ⟨e0, e1⟩ := hSw; have f0 := cellB e1 0 _ rfl; have f1 := cellB e1 1 _ rfl; have f2 := cellB e1 2 _ rfl; have f3 := cellB e1 3 _ rfl; have f4 := cellB e1 4 _ rfl; have f5 := cellB e1 5 _ rfl; go_simp; (try with_reducible rfl))
      simp only [Act.put]
      refine Z_take (i := 5) (v := ?_) rfl (by kernel_rfl) (by kernel_rfl) (by kernel_rfl) (by kernel_rfl) (fun _ _ _ h => h) (by rfl) hS0 ?_ ?_
      rotate_left
      · (intro w' hSw; obtain ⟨e0, e1⟩ := hSw; have f0 := cellB e1 0 _ rfl; have f1 := cellB e1 1 _ rfl; have f2 := cellB e1 2 _ rfl; have f3 := cellB e1 3 _ rfl; have f4 := cellB e1 4 _ rfl; have f5 := cellB e1 5 _ rfl; go_simp; (try with_reducible rfl))
      simp only [Act.put]
      refine Z_step (i := 6) (by kernel_rfl) rfl (fun K hK => ?_)
      go_simp
      have hbA : Below wc.heap.size wc (wc.alloc (.cells (cf (l.length + 1) (.slice ua G'.length uc) p q r t) 50)).drew := below_drew ((Below.refl _ _).alloc (Nat.le_refl _) _)
      have rBA := (hbA.block B hBw).trans hC.blk
      have rXA := (hbA.block X hXw).trans q6
      refine hK _ _ (fun _ => ⟨cellB rBA 0 _ rfl, rXA⟩) ?_
      clear hK K
      have hownA := owns_next hC.own hbA
      refine Z_step (i := 7) (by kernel_rfl) rfl (fun K hK => ?_)
      refine step_append_lies _ (by rfl) _ _ 22 (by rfl) base 50 i0 (.agg (cf 0 (.slice none 0 0) 0 0 0 0)) 6 64 (by kernel_rfl) hi hz0 hz1 hz2 rfl (by decide) _ l.length (rcsF 1 l) (by rfl) hownA ⟨wc.heap.size, 0, none⟩ 1 1 (cfL (l.length + 1) (.slice ua G'.length uc) p q r t) (by rfl) rfl (World.news_of_block (B := wc.heap.size) (heap_alloc_new wc (.cells (cf (l.length + 1) (.slice ua G'.length uc) p q r t) 50))) (by simp [Value.oneCell']) (by decide) hml hkb (Nat.le_trans hbase hbA.size) _ rfl ?_
      intro ga ca w7 hown7 hgrow hat hlt7
      have hsA : (wc.alloc (.cells (cf (l.length + 1) (.slice ua G'.length uc) p q r t) 50)).drew.heap.size = wc.heap.size + 1 := by simp
      have rB7 := (hgrow.block B (Nat.lt_of_lt_of_le hBw hbA.size) hC.ne.symm).trans rBA
      have rX7 := (hgrow.block X (Nat.lt_of_lt_of_le hXw hbA.size) (HXV.out)).trans rXA
      have hs7 : wc.heap.size ≤ w7.heap.size := Nat.le_trans hbA.size hgrow.size
      have hS7 : w7.cell? ⟨B, 0, none⟩ = some (.slice va l.length vc) ∧ w7.heap[X]? = some (.cells (cf (l.length + 1) (.slice ua G'.length uc) p q r t) 50) := ⟨cellB rB7 0 _ rfl, rX7⟩
      refine hK _ _ (fun _ => hS7) ?_
      clear hK K
      simp only [Act.put]
      refine Z_step (i := 8) (by kernel_rfl) rfl (fun K hK => ?_)
      go_simp
      refine hK _ _ (fun _ => hS7) ?_
      clear hK K
      refine Z_step (i := 9) (by kernel_rfl) rfl (fun K hK => ?_)
      go_simp
      refine hK _ _ (fun _ => hS7) ?_
      clear hK K
      have t5 := hS7.1
      have ft := frozenB rB7 0
      refine Z_step (i := 10) (by kernel_rfl) rfl (fun K hK => ?_)
      go_simp
      refine hK _ _ (fun h => absurd rfl h) (Z_done (by kernel_rfl) ?_ _)
      clear hK K t5 ft hS7
      have HP : Hid (DoPost2 base B (.slice va l.length vc) l k g s w (w7.setCell ⟨B, 0, none⟩ (.slice (some ⟨ga, 0, none⟩) (l.length + 1) ca))) := by
        have hgB : ga ≠ B := by
          rintro rfl
          rcases hat with hat | hat
          · exact hC.ne hat
          · have : wc.heap.size + 1 = ga := hsA.symm.trans hat.symm; omega
        have hga : ∀ j, j < wc.heap.size → (Value.slice va l.length vc).ownBlock ≠ some j → ga ≠ j := fun j hj hv => by
          rintro rfl
          rcases hat with hat | hat
          · exact hv hat
          · have : wc.heap.size + 1 = ga := hsA.symm.trans hat.symm; omega
        have hkeep : ∀ j, j < wc.heap.size → j ≠ B → (Value.slice va l.length vc).ownBlock ≠ some j → (w7.setCell ⟨B, 0, none⟩ (.slice (some ⟨ga, 0, none⟩) (l.length + 1) ca)).heap[j]? = wc.heap[j]? := fun j h1 h2 h3 => (set_far h2 _ _).trans ((hgrow.block j (Nat.lt_of_lt_of_le h1 hbA.size) h3.symm).trans (hbA.block j h1))
        have hs8 : (w7.setCell ⟨B, 0, none⟩ (.slice (some ⟨ga, 0, none⟩) (l.length + 1) ca)).heap.size = w7.heap.size := by simp [World.setCell]
        have hcat : rcsF 1 (l ++ [((.slice ua G'.length uc, G', O') : Rc)]) = rcsF 1 l ++ cfL (l.length + 1) (.slice ua G'.length uc) p q r t := by
          rw [rcsF_snoc]
          congr 1
          show Value.int .i64 ((1 + l.length : Nat) : Int) :: Value.slice ua G'.length uc :: owL O' = _
          rw [q2, show ((1 + l.length : Nat) : Int) = (l.length : Int) + 1 by omega]
          rfl
        refine ⟨.slice (some ⟨ga, 0, none⟩) (l.length + 1) ca, l ++ [(.slice ua G'.length uc, G', O')], ?_, ⟨setB rB7 0 _, ?_, ?_, hC.low, ?_⟩, ⟨?_, ?_, ?_, ?_, ?_⟩, ?_, ?_⟩
        · unfold doC
          rw [HE.out, if_pos rfl, cls_len, ← cfgAt_cls, HCF.out, ← hnx]
          simp [cls]
        · rw [hcat, List.length_append]
          refine owns_kept hown7 (fun j hj => set_far ?_ _ _)
          have : ga = j := by simpa [Value.ownBlock] using hj
          omega
        · intro h
          have : ga = B := by simpa [Value.ownBlock] using h
          exact hgB this
        · intro i r' hr'
          by_cases hi' : i < l.length
          · rw [List.getElem?_append_left hi'] at hr'
            obtain ⟨o1, o2, o3, o4⟩ := hC.ok i r' hr'
            refine ⟨o1, o2, Il_blk o3 (fun j hj => by obtain ⟨_, f1, f2, f3⟩ := o4 j hj; exact hkeep j f1 f2 f3) (by omega), fun j hj => ?_⟩
            obtain ⟨f0, f1, f2, f3⟩ := o4 j hj
            refine ⟨f0, by omega, f2, fun h => ?_⟩
            have : ga = j := by simpa [Value.ownBlock] using h
            exact hga j f1 f3 this
          · rw [List.getElem?_append_right (by omega)] at hr'
            have hr2 := hr'
            have hi2 : i - l.length = 0 := by
              have := (List.getElem?_eq_some_iff.1 hr').1
              simp only [List.length_cons, List.length_nil] at this
              omega
            rw [hi2] at hr2
            have hr3 : ((.slice ua G'.length uc, G', O') : Rc) = r' := by simpa using hr2
            subst hr3
            have hsz0 := HS0.out
            have hnv : ∀ j, W0.heap.size ≤ j → (Value.slice va l.length vc).ownBlock ≠ some j := fun j hj h => by have := HVB.out j h; omega
            have hB0 : B < W0.heap.size := HBW.out
            refine ⟨hm1, hm2, Il_blk hq1 (fun j hj => by obtain ⟨f1, f2, f3⟩ := q4 j hj; exact hkeep j f3 (by omega) (hnv j f1)) (by omega), fun j hj => ?_⟩
            obtain ⟨f1, f2, f3⟩ := q4 j hj
            have hlo := hC.low
            refine ⟨by omega, by omega, by omega, fun h => ?_⟩
            have : ga = j := by simpa [Value.ownBlock] using h
            exact hga j f3 (hnv j f1) this
        · exact (hgrow.os.trans hbA.os).trans HB.out.os
        · exact (hgrow.tape.trans hbA.tape).trans HB.out.tape
        · exact (hgrow.output.trans hbA.output).trans HB.out.output
        · have := HB.out.size; omega
        · intro j h1 h2 h3
          have := HB.out.size
          exact (hkeep j (by omega) h2 h3).trans (HB.out.block j h1)
        · intro j hj
          have : ga = j := by simpa [Value.ownBlock] using hj
          subst this
          rcases hat with hat | hat
          · exact .inl hat
          · have := HB.out.size; have : wc.heap.size + 1 = ga := hsA.symm.trans hat.symm; exact .inr (by omega)
        · intro i r' hr'
          by_cases hi' : i < l.length
          · rw [List.getElem?_append_left hi'] at hr'
            exact .inl hr'
          · rw [List.getElem?_append_right (by omega)] at hr'
            have hi2 : i - l.length = 0 := by
              have := (List.getElem?_eq_some_iff.1 hr').1
              simp only [List.length_cons, List.length_nil] at this
              omega
            rw [hi2] at hr'
            have hr3 : ((.slice ua G'.length uc, G', O') : Rc) = r' := by simpa using hr'
            subst hr3
            exact .inr (fun j hj => by have := (q4 j hj).1; have := HS0.out; omega)
      obtain ⟨W8, hW8⟩ : ∃ W, w7.setCell ⟨B, 0, none⟩ (.slice (some ⟨ga, 0, none⟩) (l.length + 1) ca) = W := ⟨_, rfl⟩
      rw [hW8] at HP ⊢
      clear hW8 rB7 rX7 hgrow hown7 hat hlt7 rBA rXA hownA hbA hsA hi hz0 hz1 hz2 hC hq1 q2 q3 q4 q5 q6 q7
      go_wp2
      go_ret
      exact ⟨rfl, HP.out⟩
    · obtain ⟨q1, q2, q3, q4, q5, q6, q7, q8⟩ := HQ.out
      obtain ⟨h0, hsz, hb0, _, _, hcfg⟩ := HX.out
      have hbw := hb0.trans (q7.mono hb0.size)
      have HP : Hid (DoPost2 base B (.slice va l.length vc) l k g s w wc) := ⟨_, l, by unfold doC; rw [HE.out, if_neg hE0], h0.next q7, Kb.of_below hbw, fun j hj => .inl hj, fun i r hr => .inl hr⟩
      have hne : (E != 0) = true := by simpa using hE0
      clear q1 q2 q3 q4 q5 q6 q7 q8 h0 hsz hb0 hcfg hbw HQ HX hE0
      go_wp2
      go_ret
      exact ⟨rfl, HP.out⟩
theorem Do2_any (k g s : Int) (B : Nat) (base : Nat) (v : Value) (l : List Rc) (w : World) (h : ChAt base w B v l) (hl : l.length ≤ 1000) :
    Calls Try.prog 15 #[.pointer (some ⟨B, 0, none⟩), .agg #[.int .i64 k, .int .i64 g, .int .i64 s]] w fun e W' => e = .returned (.int .i64 (doE (cls l) k g s)) ∧ DoPost2 base B v l k g s w W' := by
  by_cases h4 : l.length < 40
  · exact Do2_some k g s B base v l w h h4
  · exact Do2_full k g s B base v l w h (by omega) hl
end Go.Proofs.Ytcehmaegnfelhaa
