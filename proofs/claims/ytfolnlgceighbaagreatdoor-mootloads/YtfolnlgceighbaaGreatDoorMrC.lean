/- Moots, the document's side: Chain and Take, walked. -/
import Derived.Test.YtfolnlgceighbaaGreatDoorMrA
import Derived.Test.YtfolnlgceighbaaGreatDoorCeD
import Derived.Test.YtfolnlgceighbaaGreatDoorMpQ
namespace Go.Proofs.YtfolnlgceighbaaGreatDoor
open Go.RowKit
attribute [local go_sem ↓] Go.wp_at_zero Go.wp_at_succ

/-- A moot of the document's in memory. -/
structure RmAt (base : Nat) (w : World) (K : Nat) (u c : Value) (T : List C3) : Prop where
  blk : w.heap[K]? = some (.cells #[u, c] 51)
  own : w.ownsRow base 100 3 u T.length (ccs T)
  low : base ≤ K
  ne : u.ownBlock ≠ some K
theorem RmAt.lt {base : Nat} {w : World} {K : Nat} {u c : Value} {T : List C3} (h : RmAt base w K u c T) : K < w.heap.size := (Array.getElem?_eq_some_iff.1 h.blk).1
theorem RmAt.next {base : Nat} {w w' : World} {K : Nat} {u c : Value} {T : List C3} (h : RmAt base w K u c T) (hb : Below w.heap.size w w') : RmAt base w' K u c T :=
  ⟨(hb.block K h.lt).trans h.blk, owns_next h.own hb, h.low, h.ne⟩
set_option maxRecDepth 20000 in
theorem rChain_any (K : Nat) (u c : Value) (T : List C3) (w : World) (hK : w.heap[K]? = some (.cells #[u, c] 51)) (hC : Cs w u T) (hl : T.length ≤ 1000) :
    Calls Tryz.prog 66 #[.pointer (some ⟨K, 0, none⟩)] w fun e W' => ∃ v L, e = .returned v ∧ cls L = runC [] T ∧ RunAt w.heap.size W' v L ∧ Below w.heap.size w W' := by
  have hR := Run_any T u w hC hl
  have x0 := cellB hK 0 _ rfl
  clear hK hC
  go_enter Tryz.func66, Tryz.ntmps66
  go_wp2_with (first
    | (go_at_call 79; refine hR.mono ?_; clear hR; rintro e w1 ⟨v, L, rfl, h1, h2, h3⟩; have HR : Hid (_ ∧ _ ∧ _) := ⟨h1, h2, h3⟩; clear h1 h2 h3))
  go_ret
  exact ⟨_, L, rfl, HR.out⟩
set_option maxRecDepth 20000 in
set_option maxHeartbeats 2000000 in
theorem rMTake_any (k1 g1 s1 : Int) (base K : Nat) (u : Value) (T : List C3) (w0 w : World) (h : RmAt base w K u (.slice none 0 0) T) (hb : Below base w0 w) (hl : T.length ≤ 1000) :
    Calls Tryz.prog 49 #[.pointer (some ⟨K, 0, none⟩), .agg #[.int .i64 k1, .int .i64 g1, .int .i64 s1]] w fun e W' => ∃ E, e = .returned (.int .i64 E) ∧ Below base w0 W' ∧ (E = 0 ↔ doE (runC [] T) k1 g1 s1 = 0) ∧ (E = 0 → ∃ u', RmAt base W' K u' (.slice none 0 0) (T ++ [(k1, g1, s1)])) := by
  obtain ⟨D, hD⟩ : ∃ D, w.heap.size = D := ⟨_, rfl⟩
  have hbA := (Below.refl w.heap.size w).alloc (Nat.le_refl _) (.cells #[.int .i64 k1, .int .i64 g1, .int .i64 s1] 100)
  have rD0 := heap_alloc_new w (.cells #[.int .i64 k1, .int .i64 g1, .int .i64 s1] 100)
  obtain ⟨W0, hW0⟩ : ∃ W, w.alloc (.cells #[.int .i64 k1, .int .i64 g1, .int .i64 s1] 100) = W := ⟨_, rfl⟩
  have hsW : W0.heap.size = D + 1 := by rw [← hW0, ← hD]; simp
  rw [hW0] at hbA rD0
  rw [hD] at rD0
  have hRm := h.next hbA
  have hCh := rChain_any K u _ T W0 hRm.blk (Cs_owns hRm.own) hl
  have HV : Hid (w.alloc (.cells #[.int .i64 k1, .int .i64 g1, .int .i64 s1] 100) = W0) := hW0
  have HD : Hid (w.heap.size = D) := hD
  have HRM : Hid (RmAt base W0 K u (.slice none 0 0) T ∧ K < D) := ⟨hRm, by rw [← hD]; exact h.lt⟩
  have HB0 : Hid (Below base w0 W0 ∧ base ≤ W0.heap.size) := ⟨hb.trans (hbA.mono (Nat.le_trans h.low (Nat.le_of_lt h.lt))), Nat.le_trans h.low (Nat.le_of_lt hRm.lt)⟩
  have HRD : Hid (W0.heap[D]? = some (.cells #[.int .i64 k1, .int .i64 g1, .int .i64 s1] 100) ∧ D < W0.heap.size) := ⟨rD0, by omega⟩
  have HLT : Hid (T.length ≤ 1000) := hl
  have HUD : Hid (∀ j, u.ownBlock = some j → j < D) := fun j hj => by rw [← hD]; exact (h.own.lt j hj).2
  clear h hb hbA rD0 hW0 hD hRm hl hsW
  go_enter Tryz.func49, Tryz.ntmps49
  go_upto_region 1 with fail
  rw [HV.out, HD.out]
  clear HV HD
  go_upto_region 2 with (first
    | (go_at_call 66; refine hCh.mono ?_; clear hCh; rintro e WA ⟨v2, L, rfl, h1, h2, h3⟩; obtain ⟨ra, rc, rfl⟩ := owns_slice h2.own; have HCL : Hid (cls L = runC [] T) := h1; have HRA : Hid (RunAt W0.heap.size WA (.slice ra (L.length + 1) rc) L) := h2; have HB1 : Hid (Below W0.heap.size W0 WA) := h3; clear h1 h2 h3))
  have hL40 : L.length ≤ 40 := by rw [← cls_len, HCL.out]; exact runC_len _ _ (by simp)
  have rD : WA.heap[D]? = some (.cells #[.int .i64 k1, .int .i64 g1, .int .i64 s1] 100) := (HB1.out.block D HRD.out.2).trans HRD.out.1
  have hDs : D < WA.heap.size := Nat.lt_of_lt_of_le HRD.out.2 HB1.out.size
  obtain ⟨m, hm⟩ : ∃ m, L.length = m := ⟨_, rfl⟩
  obtain ⟨rg, rcap, gv, a, b, c, d, hu, ho4, hgv, hrow, hm1, hm2⟩ := HRA.out.row (Nat.le_refl L.length)
  injection hu with hu _ hu2
  subst hu hu2
  obtain ⟨gs, hgs⟩ : ∃ gs, (cfgAt L L.length).1 = gs := ⟨_, rfl⟩
  rw [hgs] at hgv hm1 hm2
  rw [ho4] at hm2
  rw [hm] at hrow
  have hdE : doE (cls L) k1 g1 s1 = if 40 ≤ m then 151 else nxE (m : Int) (zi gs) [(a : Int), b, c, d] k1 g1 s1 := by
    unfold doE
    rw [cls_len, ← cfgAt_cls, hgs, ho4, hm]
    rfl
  obtain ⟨E, hE⟩ : ∃ E, nxE (m : Int) (zi gs) [(a : Int), b, c, d] k1 g1 s1 = E := ⟨_, rfl⟩
  rw [hE] at hdE
  have HNx : Hid (∀ W, Below WA.heap.size WA W → Calls Tryz.prog 67 #[.agg (cf (m : Int) gv a b c d), .agg #[.int .i64 k1, .int .i64 g1, .int .i64 s1]] W fun e W' => ∃ x, e = .returned (.tuple #[x, .int .i64 E]) ∧ NxAll (m : Int) (zi gs) [(a : Int), b, c, d] k1 g1 s1 E W x W') := fun W hW => by
    have := rNext_all (m : Int) gv (zi gs) a b c d k1 g1 s1 W (hgv.next hW) (by rw [zi_len]; have := (conf_of hm1).1; omega)
    rw [hE] at this
    exact this
  have hrgs : rg < WA.heap.size := by
    have h0 := hrow 0 _ rfl
    exact World.block_lt_of_cell? WA _ h0
  have HSB : Hid (∀ W, Below WA.heap.size WA W → (W).rangeAt rg (m * 6) (cfL (m : Int) gv a b c d) ∧ (W).heap[D]? = some (.cells #[.int .i64 k1, .int .i64 g1, .int .i64 s1] 100)) := fun W hW => ⟨fun jj x hx => (hW.cell (p := ⟨rg, m * 6 + jj, none⟩) hrgs).trans (hrow jj x hx), (hW.block _ hDs).trans rD⟩
  have HRG : Hid (rg < WA.heap.size) := hrgs
  have HDE : Hid (doE (cls L) k1 g1 s1 = if 40 ≤ m then 151 else E) := hdE
  have HLM : Hid (L.length = m) := hm
  obtain ⟨M, hM⟩ : ∃ M : Nat, m + 1 = M := ⟨_, rfl⟩
  have HM : Hid (m + 1 = M) := hM
  rw [hm, hM]
  rw [hm] at hL40
  have e1 : IntKind.i64.wrap ((M : Int) - 1) = (m : Int) := by rw [← hM]; simp [IntKind.wrap, IntKind.bits, IntKind.signed]; omega
  have e3 : IntKind.i64.wrap (m : Int) = (m : Int) := by simp [IntKind.wrap, IntKind.bits, IntKind.signed]; omega
  have m0 : (0 : Int) ≤ (m : Int) := by omega
  have m1 : (m : Int) < (M : Int) := by omega
  clear rD hDs hgv hrow hm1 hm2 hdE hE hgs ho4 hm hM hrgs
  go_cut [6, 7] (fun p6 p7 wx => ∃ (X : Nat) (v : Value) (n : Int) (G' O' : List Nat) (p q r t : Nat), p6 = .pointer (some ⟨X, 0, none⟩) ∧ p7 = .int .i64 E ∧ Hid (Il wx v (zi G') ∧ O' = [p, q, r, t] ∧ wx.heap[X]? = some (.cells (cf n v p q r t) 32) ∧ Below WA.heap.size WA wx ∧ WA.heap.size ≤ X ∧ (∀ j, v.ownBlock = some j → WA.heap.size ≤ j ∧ j < wx.heap.size) ∧ NxEq (m : Int) (zi gs) [(a : Int), b, c, d] k1 g1 s1 E n G' O'))
  case first =>
    refine region_Z 99 (fun w' => (w').rangeAt rg (m * 6) (cfL (m : Int) gv a b c d) ∧ (w').heap[D]? = some (.cells #[.int .i64 k1, .int .i64 g1, .int .i64 s1] 100)) (by kernel_rfl) ?_
    have hS0 := HSB.out WA.drew (below_drew (Below.refl _ _))
    refine Y_take (i := 0) (v := ?_) rfl (by kernel_rfl) (by kernel_rfl) (by kernel_rfl) (by kernel_rfl) (fun _ _ _ h => h) (by rfl) hS0 ?_ ?_
    rotate_left
    · (intro w' hSw; have f0 := cellB hSw.2 0 _ rfl; have f1 := cellB hSw.2 1 _ rfl; have f2 := cellB hSw.2 2 _ rfl; go_simp; (try with_reducible rfl))
    simp only [Act.put, List.setIfInBounds_toArray]
    refine Y_take (i := 1) (v := ?_) rfl (by kernel_rfl) (by kernel_rfl) (by kernel_rfl) (by kernel_rfl) (fun _ _ _ h => h) (by rfl) hS0 ?_ ?_
    rotate_left
    · (intro w' hSw; have f0 := cellB hSw.2 0 _ rfl; have f1 := cellB hSw.2 1 _ rfl; have f2 := cellB hSw.2 2 _ rfl; go_simp; (try with_reducible rfl))
    simp only [Act.put]
    refine Y_take (i := 2) (v := ?_) rfl (by kernel_rfl) (by kernel_rfl) (by kernel_rfl) (by kernel_rfl) (fun _ _ _ h => h) (by rfl) hS0 ?_ ?_
    rotate_left
    · (intro w' hSw; have f0 := cellB hSw.2 0 _ rfl; have f1 := cellB hSw.2 1 _ rfl; have f2 := cellB hSw.2 2 _ rfl; go_simp; (try with_reducible rfl))
    simp only [Act.put]
    refine Y_take (i := 3) (v := ?_) rfl (by kernel_rfl) (by kernel_rfl) (by kernel_rfl) (by kernel_rfl) (fun _ _ _ h => h) (by rfl) hS0 ?_ ?_
    rotate_left
    · (intro w' hSw; have f0 := cellB hSw.2 0 _ rfl; have f1 := cellB hSw.2 1 _ rfl; have f2 := cellB hSw.2 2 _ rfl; go_simp; (try with_reducible rfl))
    simp only [Act.put]
    refine Y_take (i := 4) (v := ?_) rfl (by kernel_rfl) (by kernel_rfl) (by kernel_rfl) (by kernel_rfl) (fun _ _ _ h => h) (by rfl) hS0 ?_ ?_
    rotate_left
    · (intro w' hSw; have f0 := cellB hSw.2 0 _ rfl; have f1 := cellB hSw.2 1 _ rfl; have f2 := cellB hSw.2 2 _ rfl; go_simp; (try with_reducible rfl))
    simp only [Act.put]
    refine Y_takeY (i := 5) (v := .agg (cfL (m : Int) gv a b c d).toArray) rfl (by kernel_rfl) (by kernel_rfl) (by kernel_rfl) (by kernel_rfl) (fun _ _ _ h => h) (yieldsIf_load_mid (by rfl) 32 _ rfl rg (m * 6) (by rfl) (cfL (m : Int) gv a b c d) _ (fun w h => h.1) Tryz.underlying32 rfl Tryz.size32) hS0 ?_
    simp only [Act.put]
    refine Y_take (i := 6) (v := ?_) rfl (by kernel_rfl) (by kernel_rfl) (by kernel_rfl) (by kernel_rfl) (fun _ _ _ h => h) (by rfl) hS0 ?_ ?_
    rotate_left
    · (intro w' hSw; have f0 := cellB hSw.2 0 _ rfl; have f1 := cellB hSw.2 1 _ rfl; have f2 := cellB hSw.2 2 _ rfl; go_simp; (try with_reducible rfl))
    simp only [Act.put]
    refine Z_two (i := 7) (j := 11) (by kernel_rfl) rfl rfl (fun K hK => ?_) (fun K hK => ?_)
    · go_simp
      have hbD : Below WA.heap.size WA WA.drew := below_drew (Below.refl _ _)
      refine (HNx.out _ (hbD)).mono ?_
      rintro e w2 ⟨x, rfl, v, n, G', O', p, q, r, t, rfl, j1, j2, j3, j4, j4', j5, j6, j7⟩
      have hb2 := (hbD).trans (j5.mono (hbD).size)
      have hS2 := HSB.out _ (hb2)
      obtain ⟨qa, qc, rfl⟩ := j1.slice
      refine hK _ _ (fun _ => hS2) ?_
      clear hK K
      refine Y_take (i := 8) (v := ?_) rfl (by kernel_rfl) (by kernel_rfl) (by kernel_rfl) (by kernel_rfl) (fun _ _ _ h => h) (by rfl) hS2 ?_ ?_
      rotate_left
      · (intro w' hSw; have f0 := cellB hSw.2 0 _ rfl; have f1 := cellB hSw.2 1 _ rfl; have f2 := cellB hSw.2 2 _ rfl; go_simp; (try with_reducible rfl))
      simp only [Act.put]
      refine Y_take (i := 9) (v := ?_) rfl (by kernel_rfl) (by kernel_rfl) (by kernel_rfl) (by kernel_rfl) (fun _ _ _ h => h) (by rfl) hS2 ?_ ?_
      rotate_left
      · (intro w' hSw; have f0 := cellB hSw.2 0 _ rfl; have f1 := cellB hSw.2 1 _ rfl; have f2 := cellB hSw.2 2 _ rfl; go_simp; (try with_reducible rfl))
      simp only [Act.put]
      refine Y_take (i := 10) (v := ?_) rfl (by kernel_rfl) (by kernel_rfl) (by kernel_rfl) (by kernel_rfl) (fun _ _ _ h => h) (by rfl) hS2 ?_ ?_
      rotate_left
      · (intro w' hSw; have f0 := cellB hSw.2 0 _ rfl; have f1 := cellB hSw.2 1 _ rfl; have f2 := cellB hSw.2 2 _ rfl; go_simp; (try with_reducible rfl))
      simp only [Act.put]
      refine Z_step (i := 11) (by kernel_rfl) rfl (fun K hK => ?_)
      go_simp
      have hb3 := hb2.alloc hb2.size (.cells (cf 0 (.slice none 0 0) 0 0 0 0) 32)
      have hS3 := HSB.out _ (hb3)
      refine hK _ _ (fun _ => hS3) ?_
      clear hK K
      have hzz : (w2.alloc (.cells (cf 0 (.slice none 0 0) 0 0 0 0) 32)).heap[w2.heap.size]? = some (.cells (cf 0 (.slice none 0 0) 0 0 0 0) 32) := heap_alloc_new w2 _
      refine Z_step (i := 12) (by kernel_rfl) rfl (fun K hK => ?_)
      refine step_store_mid (by rfl) 32 _ _ (by rfl) w2.heap.size 0 (cf n (.slice qa (zi G').length qc) p q r t) (by rfl) (by rfl) (blk_there hzz 0 6 (Nat.le_refl _)) Tryz.size32 (cf_ones _ _ _ _ _ _ _ _) ?_
      have hfr : ∀ j, (Value.slice qa (zi G').length qc).ownBlock = some j → j ≠ w2.heap.size := fun j hj => Nat.ne_of_lt (j4' j hj)
      have hX : WA.heap.size ≤ w2.heap.size := hb2.size
      have hz := blk_set hzz (L := cfL n (.slice qa (zi G').length qc) p q r t) rfl
      have hbW : Below WA.heap.size WA (w2.alloc (.cells (cf 0 (.slice none 0 0) 0 0 0 0) 32)) := hb3
      have hbZ := blk_below hX (cfL n (.slice qa (zi G').length qc) p q r t) 0 _ hbW
      have hilZ : Il ((w2.alloc (.cells (cf 0 (.slice none 0 0) 0 0 0 0) 32)).setCells (w2.heap.size) 0 (cfL n (.slice qa (zi G').length qc) p q r t)) (.slice qa (zi G').length qc) (zi G') := Il_ne (j1.next ((Below.refl _ w2).alloc (Nat.le_refl _) _)) hfr
      have hjj : ∀ j, (Value.slice qa (zi G').length qc).ownBlock = some j → WA.heap.size ≤ j ∧ j < ((w2.alloc (.cells (cf 0 (.slice none 0 0) 0 0 0 0) 32)).setCells (w2.heap.size) 0 (cfL n (.slice qa (zi G').length qc) p q r t)).heap.size := fun j hj => ⟨j4 j hj, by rw [blk_size]; exact by have := j4' j hj; simp; omega⟩
      have hSZ := HSB.out _ (hbZ)
      refine hK _ _ (fun _ => hSZ) ?_
      clear hK K
      simp only [Act.put]
      refine Z_step (i := 13) (by kernel_rfl) rfl (fun K hK => ?_)
      go_simp
      refine hK _ _ (fun _ => hSZ) (Z_done (by kernel_rfl) ?_ _)
      clear hK K
      obtain ⟨WZ, hWZ⟩ : ∃ W, (w2.alloc (.cells (cf 0 (.slice none 0 0) 0 0 0 0) 32)).setCells (w2.heap.size) 0 (cfL n (.slice qa (zi G').length qc) p q r t) = W := ⟨_, rfl⟩
      rw [hWZ] at hilZ hz hbZ hjj ⊢
      have HF : Hid (Il WZ (.slice qa (zi G').length qc) (zi G') ∧ O' = [p, q, r, t] ∧ WZ.heap[w2.heap.size]? = some (.cells (cf n (.slice qa (zi G').length qc) p q r t) 32) ∧ Below WA.heap.size WA WZ ∧ WA.heap.size ≤ w2.heap.size ∧ (∀ j, (Value.slice qa (zi G').length qc).ownBlock = some j → WA.heap.size ≤ j ∧ j < WZ.heap.size) ∧ NxEq (m : Int) (zi gs) [(a : Int), b, c, d] k1 g1 s1 E n G' O') := ⟨hilZ, j2, hz, hbZ, hX, hjj, j6, j7⟩
      clear hilZ j1 j2 j3 j4 j4' j5 j6 j7 hfr hX hz hbZ hbW hzz hSZ hWZ hjj
      go_wp2_with fail
      go_meet
      exact ⟨_, _, n, G', O', p, q, r, t, rfl, rfl, HF⟩
    · go_simp
      have hba : Below WA.heap.size WA (WA.alloc (.cells (cf 0 (.slice none 0 0) 0 0 0 0) 32)).drew := below_drew ((Below.refl _ _).alloc (Nat.le_refl _) _)
      have hSa := HSB.out _ (hba)
      refine hK _ _ (fun _ => hSa) ?_
      clear hK K
      refine Z_step (i := 7) (by kernel_rfl) rfl (fun K hK => ?_)
      go_simp
      refine (HNx.out _ (hba)).mono ?_
      rintro e w2 ⟨x, rfl, v, n, G', O', p, q, r, t, rfl, j1, j2, j3, j4, j4', j5, j6, j7⟩
      have hb2 := (hba).trans (j5.mono (hba).size)
      have hS2 := HSB.out _ (hb2)
      obtain ⟨qa, qc, rfl⟩ := j1.slice
      refine hK _ _ (fun _ => hS2) ?_
      clear hK K
      refine Y_take (i := 8) (v := ?_) rfl (by kernel_rfl) (by kernel_rfl) (by kernel_rfl) (by kernel_rfl) (fun _ _ _ h => h) (by rfl) hS2 ?_ ?_
      rotate_left
      · (intro w' hSw; have f0 := cellB hSw.2 0 _ rfl; have f1 := cellB hSw.2 1 _ rfl; have f2 := cellB hSw.2 2 _ rfl; go_simp; (try with_reducible rfl))
      simp only [Act.put]
      refine Y_take (i := 9) (v := ?_) rfl (by kernel_rfl) (by kernel_rfl) (by kernel_rfl) (by kernel_rfl) (fun _ _ _ h => h) (by rfl) hS2 ?_ ?_
      rotate_left
      · (intro w' hSw; have f0 := cellB hSw.2 0 _ rfl; have f1 := cellB hSw.2 1 _ rfl; have f2 := cellB hSw.2 2 _ rfl; go_simp; (try with_reducible rfl))
      simp only [Act.put]
      refine Y_take (i := 10) (v := ?_) rfl (by kernel_rfl) (by kernel_rfl) (by kernel_rfl) (by kernel_rfl) (fun _ _ _ h => h) (by rfl) hS2 ?_ ?_
      rotate_left
      · (intro w' hSw; have f0 := cellB hSw.2 0 _ rfl; have f1 := cellB hSw.2 1 _ rfl; have f2 := cellB hSw.2 2 _ rfl; go_simp; (try with_reducible rfl))
      simp only [Act.put]
      have hzz : (w2).heap[WA.heap.size]? = some (.cells (cf 0 (.slice none 0 0) 0 0 0 0) 32) := (j5.block _ (by simp)).trans (heap_alloc_new WA _)
      refine Z_step (i := 12) (by kernel_rfl) rfl (fun K hK => ?_)
      refine step_store_mid (by rfl) 32 _ _ (by rfl) WA.heap.size 0 (cf n (.slice qa (zi G').length qc) p q r t) (by rfl) (by rfl) (blk_there hzz 0 6 (Nat.le_refl _)) Tryz.size32 (cf_ones _ _ _ _ _ _ _ _) ?_
      have hfr : ∀ j, (Value.slice qa (zi G').length qc).ownBlock = some j → j ≠ WA.heap.size := fun j hj => lt_ne2 (j4 j hj) (Nat.le_refl _)
      have hX : WA.heap.size ≤ WA.heap.size := Nat.le_refl _
      have hz := blk_set hzz (L := cfL n (.slice qa (zi G').length qc) p q r t) rfl
      have hbW : Below WA.heap.size WA (w2) := hb2
      have hbZ := blk_below hX (cfL n (.slice qa (zi G').length qc) p q r t) 0 _ hbW
      have hilZ : Il ((w2).setCells (WA.heap.size) 0 (cfL n (.slice qa (zi G').length qc) p q r t)) (.slice qa (zi G').length qc) (zi G') := Il_ne (j1) hfr
      have hjj : ∀ j, (Value.slice qa (zi G').length qc).ownBlock = some j → WA.heap.size ≤ j ∧ j < ((w2).setCells (WA.heap.size) 0 (cfL n (.slice qa (zi G').length qc) p q r t)).heap.size := fun j hj => ⟨Nat.le_trans hba.size (j4 j hj), by rw [blk_size]; exact j4' j hj⟩
      have hSZ := HSB.out _ (hbZ)
      refine hK _ _ (fun _ => hSZ) ?_
      clear hK K
      simp only [Act.put]
      refine Z_step (i := 13) (by kernel_rfl) rfl (fun K hK => ?_)
      go_simp
      refine hK _ _ (fun _ => hSZ) (Z_done (by kernel_rfl) ?_ _)
      clear hK K
      obtain ⟨WZ, hWZ⟩ : ∃ W, (w2).setCells (WA.heap.size) 0 (cfL n (.slice qa (zi G').length qc) p q r t) = W := ⟨_, rfl⟩
      rw [hWZ] at hilZ hz hbZ hjj ⊢
      have HF : Hid (Il WZ (.slice qa (zi G').length qc) (zi G') ∧ O' = [p, q, r, t] ∧ WZ.heap[WA.heap.size]? = some (.cells (cf n (.slice qa (zi G').length qc) p q r t) 32) ∧ Below WA.heap.size WA WZ ∧ WA.heap.size ≤ WA.heap.size ∧ (∀ j, (Value.slice qa (zi G').length qc).ownBlock = some j → WA.heap.size ≤ j ∧ j < WZ.heap.size) ∧ NxEq (m : Int) (zi gs) [(a : Int), b, c, d] k1 g1 s1 E n G' O') := ⟨hilZ, j2, hz, hbZ, hX, hjj, j6, j7⟩
      clear hilZ j1 j2 j3 j4 j4' j5 j6 j7 hfr hX hz hbZ hbW hzz hSZ hWZ hjj
      go_wp2_with fail
      go_meet
      exact ⟨_, _, n, G', O', p, q, r, t, rfl, rfl, HF⟩
  case rest =>
    obtain ⟨X, v2, n, G', O', p, q, r, t, rfl, rfl, HQ⟩ := hcut
    clear HNx HSB
    obtain ⟨q1, q2, q3, q4, q5, q6, q7⟩ := HQ.out
    have hbc0 := HB1.out.trans (q4.mono HB1.out.size)
    have HBC : Hid (Below W0.heap.size W0 wc) := hbc0
    have HBW : Hid (Below base w0 wc) := HB0.out.1.trans (hbc0.mono HB0.out.2)
    have HRC : Hid (wc.heap[D]? = some (.cells #[.int .i64 k1, .int .i64 g1, .int .i64 s1] 100)) := (hbc0.block D HRD.out.2).trans HRD.out.1
    have HMC : Hid (RmAt base wc K u (.slice none 0 0) T) := HRM.out.1.next hbc0
    have HZ : Hid (doE (runC [] T) k1 g1 s1 = if 40 ≤ m then 151 else E) := by show _ = _; rw [← HCL.out]; exact HDE.out
    clear q1 q2 q3 q4 q5 q6 q7 hbc0 HQ HDE
    by_cases hE0 : E = 0
    · subst hE0
      by_cases h40 : 40 ≤ m
      · have d40 : (40 : Int) < (M : Int) := by have := HM.out; omega
        go_wp2
        go_ret
        exact ⟨_, rfl, HBW.out, by rw [HZ.out, if_pos h40], fun h => by cases h⟩
      · have d40 : ¬ (40 : Int) < (M : Int) := by have := HM.out; omega
        have HZ0 : Hid (doE (runC [] T) k1 g1 s1 = 0) := by show _ = _; rw [HZ.out, if_neg h40]
        clear HZ
        go_upto_region 7 with fail
        obtain ⟨m3, m4, m6, m7⟩ := HMC.out
        have m5 := HRC.out
        obtain ⟨ua, uc, rfl⟩ := owns_slice m4
        obtain ⟨i0, hi, hz0, hz1, hz2⟩ := info_parts (show (Tryz.prog.info? 100).map (fun i => (i.zero, i.size, i.bytes)) = some (some (.agg #[.int .i64 0, .int .i64 0, .int .i64 0]), 3, 24) by kernel_rfl)
        have hKw : K < wc.heap.size := (Array.getElem?_eq_some_iff.1 m3).1
        have hXw : D < wc.heap.size := (Array.getElem?_eq_some_iff.1 m5).1
        have hbase : base ≤ wc.heap.size := Nat.le_trans m6 (Nat.le_of_lt hKw)
        have hml : T.length + 1 ≤ maxLen := by have := HLT.out; unfold maxLen; omega
        have hkb : (T.length + 1) * 24 ≤ 140737488355328 := by have := HLT.out; omega
        have hKu : (Value.slice ua T.length uc).ownBlock ≠ some K := m7
        have hXu : some D ≠ (Value.slice ua T.length uc).ownBlock := fun e => by have := HUD.out D e.symm; omega
        have HX : Hid (_ ∧ _) := ⟨hml, hkb⟩
        clear hml hkb
        refine region_Z 10 (fun w' => w'.cell? ⟨K, 0, none⟩ = some (.slice ua T.length uc) ∧ w'.heap[D]? = some (.cells #[.int .i64 k1, .int .i64 g1, .int .i64 s1] 100)) (by kernel_rfl) ?_
        have hS0 : wc.drew.cell? ⟨K, 0, none⟩ = some (.slice ua T.length uc) ∧ wc.drew.heap[D]? = some (.cells #[.int .i64 k1, .int .i64 g1, .int .i64 s1] 100) := ⟨cellB (w := wc) m3 0 _ rfl, m5⟩
        refine Z_take (i := 0) (v := ?_) rfl (by kernel_rfl) (by kernel_rfl) (by kernel_rfl) (by kernel_rfl) (fun _ _ _ h => h) (by rfl) hS0 ?_ ?_
        rotate_left
        · (intro w' hSw; obtain ⟨e0, e1⟩ := hSw; have f1 := cellB e1 0 _ rfl; have f2 := cellB e1 1 _ rfl; have f3 := cellB e1 2 _ rfl; go_simp; (try with_reducible rfl))
        simp only [Act.put, List.setIfInBounds_toArray]
        refine Z_take (i := 1) (v := ?_) rfl (by kernel_rfl) (by kernel_rfl) (by kernel_rfl) (by kernel_rfl) (fun _ _ _ h => h) (by rfl) hS0 ?_ ?_
        rotate_left
        · (intro w' hSw; obtain ⟨e0, e1⟩ := hSw; have f1 := cellB e1 0 _ rfl; have f2 := cellB e1 1 _ rfl; have f3 := cellB e1 2 _ rfl; go_simp; (try with_reducible rfl))
        simp only [Act.put]
        refine Z_take (i := 2) (v := ?_) rfl (by kernel_rfl) (by kernel_rfl) (by kernel_rfl) (by kernel_rfl) (fun _ _ _ h => h) (by rfl) hS0 ?_ ?_
        rotate_left
        · (intro w' hSw; obtain ⟨e0, e1⟩ := hSw; have f1 := cellB e1 0 _ rfl; have f2 := cellB e1 1 _ rfl; have f3 := cellB e1 2 _ rfl; go_simp; (try with_reducible rfl))
        simp only [Act.put]
        refine Z_take (i := 3) (v := ?_) rfl (by kernel_rfl) (by kernel_rfl) (by kernel_rfl) (by kernel_rfl) (fun _ _ _ h => h) (by rfl) hS0 ?_ ?_
        rotate_left
        · (intro w' hSw; obtain ⟨e0, e1⟩ := hSw; have f1 := cellB e1 0 _ rfl; have f2 := cellB e1 1 _ rfl; have f3 := cellB e1 2 _ rfl; go_simp; (try with_reducible rfl))
        simp only [Act.put]
        refine Z_take (i := 4) (v := ?_) rfl (by kernel_rfl) (by kernel_rfl) (by kernel_rfl) (by kernel_rfl) (fun _ _ _ h => h) (by rfl) hS0 ?_ ?_
        rotate_left
        · (intro w' hSw; obtain ⟨e0, e1⟩ := hSw; have f1 := cellB e1 0 _ rfl; have f2 := cellB e1 1 _ rfl; have f3 := cellB e1 2 _ rfl; go_simp; (try with_reducible rfl))
        simp only [Act.put]
        refine Z_take (i := 5) (v := ?_) rfl (by kernel_rfl) (by kernel_rfl) (by kernel_rfl) (by kernel_rfl) (fun _ _ _ h => h) (by rfl) hS0 ?_ ?_
        rotate_left
        · (intro w' hSw; obtain ⟨e0, e1⟩ := hSw; have f1 := cellB e1 0 _ rfl; have f2 := cellB e1 1 _ rfl; have f3 := cellB e1 2 _ rfl; go_simp; (try with_reducible rfl))
        simp only [Act.put]
        refine Z_step (i := 6) (by kernel_rfl) rfl (fun Kk hK => ?_)
        go_simp
        have hbA : Below wc.heap.size wc (wc.alloc (.cells #[.int .i64 k1, .int .i64 g1, .int .i64 s1] 100)).drew := below_drew ((Below.refl _ _).alloc (Nat.le_refl _) _)
        have rMA := (hbA.block K hKw).trans m3
        have rXA := (hbA.block D hXw).trans m5
        refine hK _ _ (fun _ => ⟨cellB rMA 0 _ rfl, rXA⟩) ?_
        clear hK Kk
        have hownA := owns_next m4 hbA
        refine Z_step (i := 7) (by kernel_rfl) rfl (fun Kk hK => ?_)
        refine step_append_lies _ (by rfl) _ _ 48 (by rfl) base 100 i0 (.agg #[.int .i64 0, .int .i64 0, .int .i64 0]) 3 24 (by kernel_rfl) hi hz0 hz1 hz2 rfl (by decide) _ T.length (ccs T) (by rfl) hownA ⟨wc.heap.size, 0, none⟩ 1 1 [.int .i64 k1, .int .i64 g1, .int .i64 s1] (by rfl) rfl (World.news_of_block (B := wc.heap.size) (heap_alloc_new wc (.cells #[.int .i64 k1, .int .i64 g1, .int .i64 s1] 100))) (by simp [Value.oneCell']) (by decide) HX.out.1 HX.out.2 (Nat.le_trans hbase hbA.size) _ rfl ?_
        intro ga ca w7 hown7 hgrow hat hlt7
        have hsA : (wc.alloc (.cells #[.int .i64 k1, .int .i64 g1, .int .i64 s1] 100)).drew.heap.size = wc.heap.size + 1 := by simp
        have rM7 := (hgrow.block K (Nat.lt_of_lt_of_le hKw hbA.size) (fun e => hKu e.symm)).trans rMA
        have rX7 := (hgrow.block D (Nat.lt_of_lt_of_le hXw hbA.size) hXu).trans rXA
        have hS7 : w7.cell? ⟨K, 0, none⟩ = some (.slice ua T.length uc) ∧ w7.heap[D]? = some (.cells #[.int .i64 k1, .int .i64 g1, .int .i64 s1] 100) := ⟨cellB rM7 0 _ rfl, rX7⟩
        refine hK _ _ (fun _ => hS7) ?_
        clear hK Kk
        simp only [Act.put]
        refine Z_step (i := 8) (by kernel_rfl) rfl (fun Kk hK => ?_)
        go_simp
        refine hK _ _ (fun _ => hS7) ?_
        clear hK Kk
        refine Z_step (i := 9) (by kernel_rfl) rfl (fun Kk hK => ?_)
        go_simp
        refine hK _ _ (fun _ => hS7) ?_
        clear hK Kk
        have t5 := hS7.1
        have ft := frozenB rM7 0
        refine Z_step (i := 10) (by kernel_rfl) rfl (fun Kk hK => ?_)
        go_simp
        refine hK _ _ (fun h => absurd rfl h) (Z_done (by kernel_rfl) ?_ _)
        clear hK Kk t5 ft hS7
        have HP : Hid (Below base w0 (w7.setCell ⟨K, 0, none⟩ (.slice (some ⟨ga, 0, none⟩) (T.length + 1) ca)) ∧ RmAt base (w7.setCell ⟨K, 0, none⟩ (.slice (some ⟨ga, 0, none⟩) (T.length + 1) ca)) K (.slice (some ⟨ga, 0, none⟩) (T.length + 1) ca) (.slice none 0 0) (T ++ [(k1, g1, s1)])) := by
          have hown : ∀ j, (Value.slice (some ⟨ga, 0, none⟩) (T.length + 1) ca).ownBlock = some j → ga = j := fun j hj => by simpa [Value.ownBlock] using hj
          have hgK : ga ≠ K := by
            rintro rfl
            rcases hat with hat | hat
            · exact hKu hat
            · have : wc.heap.size + 1 = ga := hsA.symm.trans hat.symm; omega
          have hB7 : Below base w0 w7 := (HBW.out.trans (hbA.mono hbase)).grown hgrow (Nat.le_trans hbase hbA.size) (fun q hq => (m4.lt q hq).1)
          refine ⟨hB7.setCell m6 _, ⟨?_, ?_, m6, fun e => hgK (hown K e)⟩⟩
          · exact setB rM7 0 (Value.slice (some ⟨ga, 0, none⟩) (T.length + 1) ca)
          · rw [List.length_append, ccs_snoc]
            exact owns_kept hown7 (fun j hj => set_far (by have := hown j hj; omega) _ _)
        obtain ⟨W8, hW8⟩ : ∃ W, w7.setCell ⟨K, 0, none⟩ (.slice (some ⟨ga, 0, none⟩) (T.length + 1) ca) = W := ⟨_, rfl⟩
        rw [hW8] at HP ⊢
        clear hW8 rM7 rX7 hgrow hown7 hat hlt7 rMA rXA hownA hbA hsA hi hz0 hz1 hz2 m3 m4 m5 m6 m7
        go_wp2
        go_ret
        exact ⟨_, rfl, HP.out.1, by rw [HZ0.out], fun _ => ⟨_, HP.out.2⟩⟩
    · have hne : (E != 0) = true := by simpa using hE0
      go_wp2
      go_ret
      refine ⟨_, rfl, HBW.out, ?_, fun h => absurd h hE0⟩
      rw [HZ.out]
      by_cases h40 : 40 ≤ m
      · rw [if_pos h40]; exact ⟨fun h => absurd h hE0, fun h => by cases h⟩
      · rw [if_neg h40]
end Go.Proofs.YtfolnlgceighbaaGreatDoor
