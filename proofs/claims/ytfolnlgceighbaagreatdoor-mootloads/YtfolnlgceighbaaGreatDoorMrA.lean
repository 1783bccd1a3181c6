/- Chains, the document's side: Run, walked. -/
import Derived.Test.YtfolnlgceighbaaGreatDoorCe1
import Derived.Test.YtfolnlgceighbaaGreatDoorCdI
namespace Go.Proofs.YtfolnlgceighbaaGreatDoor
open Go.RowKit
attribute [local go_sem ↓] Go.wp_at_zero Go.wp_at_succ

def NxEq (num : Int) (ns os : List Int) (k g s E n : Int) (G' O' : List Nat) : Prop :=
  (E = 0 → ∃ (gs o : List Nat) (K G S : Nat), ns = zi gs ∧ os = zi o ∧ k = K ∧ g = G ∧ s = S ∧ gs ∈ subs0 ∧ o ∈ owners0 gs ∧ okK K G S gs ∧ 0 ≤ num ∧ num < 1099511627776 ∧ n = num + 1 ∧ G' = nG K G gs ∧ O' = nO K G S gs o ∧ G' ∈ subs0 ∧ O' ∈ owners0 G') ∧ (E ≠ 0 → n = 0 ∧ G' = [] ∧ O' = [0, 0, 0, 0])
set_option maxRecDepth 20000 in
set_option maxHeartbeats 1500000 in
theorem Run_any (l : List C3) (v : Value) (w : World) (h : Cs w v l) (hl : l.length ≤ 1000) :
    Calls Tryz.prog 79 #[v] w fun e W' => ∃ u L, e = .returned u ∧ cls L = runC [] l ∧ RunAt w.heap.size W' u L ∧ Below w.heap.size w W' := by
  obtain ⟨va, vc, rfl⟩ := h.slice
  have HC : Hid (Cs w (.slice va l.length vc) l) := h
  have hb0 : Below w.heap.size w (w.alloc (.cells (cf 0 (.slice none 0 0) 0 0 0 0) 32)) := (Below.refl _ _).alloc (Nat.le_refl _) _
  have hR0 : RunAt w.heap.size (w.alloc (.cells (cf 0 (.slice none 0 0) 0 0 0 0) 32)) (.slice (some ⟨w.heap.size, 0, none⟩) 1 1) [] := ⟨by rw [show rcsF 1 [] = [] from rfl, List.append_nil]; exact World.ownsRow_lit w (cf 0 (.slice none 0 0) 0 0 0 0) 1 (Nat.le_refl _) (by unfold maxLen; omega) rfl, fun i r hr => by cases hr⟩
  have HR0 : Hid (RunAt w.heap.size (w.alloc (.cells (cf 0 (.slice none 0 0) 0 0 0 0) 32)) (.slice (some ⟨w.heap.size, 0, none⟩) 1 1) []) := hR0
  obtain ⟨W0, hW0⟩ : ∃ W, w.alloc (.cells (cf 0 (.slice none 0 0) 0 0 0 0) 32) = W := ⟨_, rfl⟩
  have HV : Hid (w.alloc (.cells (cf 0 (.slice none 0 0) 0 0 0 0) 32) = W0) := hW0
  rw [hW0] at hb0 HR0
  obtain ⟨i0, hi, hz0, hz1, hz2⟩ := info_parts (show (Tryz.prog.info? 32).map (fun i => (i.zero, i.size, i.bytes)) = some (some (.agg (cf 0 (.slice none 0 0) 0 0 0 0)), 6, 64) by kernel_rfl)
  have HINF : Hid (Tryz.prog.info? 32 = some i0 ∧ i0.zero = some (.agg (cf 0 (.slice none 0 0) 0 0 0 0)) ∧ i0.size = 6 ∧ i0.bytes = 64) := ⟨hi, hz0, hz1, hz2⟩
  clear hW0 h hR0 hi hz0 hz1 hz2
  go_enter Tryz.func79, Tryz.ntmps79
  go_upto_region 2 with fail
  rw [HV.out]
  clear HV
  go_wp2_with fail
  go_loopg [3, 12] l.length (fun gk u i wr => ∃ (j : Nat) (L : List Rc), j + gk = l.length ∧ i = .int .i64 j ∧ RunAt w.heap.size wr u L ∧ cls L = runC [] (l.take j) ∧ Below w.heap.size w wr)
  case atStart => exact ⟨0, [], by omega, rfl, HR0.out, rfl, hb0⟩
  case round =>
    obtain ⟨j, L, hj, rfl, hR, hcl, hB⟩ := hrel
    clear HR0
    have hL40 : L.length ≤ 40 := by rw [← cls_len, hcl]; exact runC_len _ _ (by simp)
    by_cases hlt : j < l.length
    · obtain ⟨x, hx⟩ : ∃ x, l[j]? = some x := ⟨_, List.getElem?_eq_getElem hlt⟩
      obtain ⟨k1, g1, s1⟩ := x
      obtain ⟨cb, co, hva, y0, y1, y2⟩ := (HC.out.next hB).at hx
      subst hva
      have htk : l.take (j + 1) = l.take j ++ [(k1, g1, s1)] := by rw [List.take_add_one, hx]; rfl
      have hnext : runC [] (l.take (j + 1)) = doC (cls L) k1 g1 s1 := by rw [htk, runC_snoc, ← hcl]
      have HNX : Hid (runC [] (l.take (j + 1)) = doC (cls L) k1 g1 s1) := hnext
      obtain ⟨ra, rc, rfl⟩ := owns_slice hR.own
      have HRA : Hid (RunAt w.heap.size wr (.slice ra (L.length + 1) rc) L) := hR
      have HBW : Hid (Below w.heap.size w wr) := hB
      have HCL : Hid (cls L = runC [] (l.take j)) := hcl
      have j0 : (0 : Int) ≤ (j : Int) := by omega
      have j1 : (j : Int) < (l.length : Int) := by omega
      clear hx htk hnext hR hB hcl
      go_upto_region 5 with fail
      obtain ⟨D, hD⟩ : ∃ D, wr.heap.size = D := ⟨_, rfl⟩
      have hbA := (Below.refl wr.heap.size wr).alloc (Nat.le_refl _) (.cells #[.int .i64 k1, .int .i64 g1, .int .i64 s1] 100)
      have rD := heap_alloc_new wr (.cells #[.int .i64 k1, .int .i64 g1, .int .i64 s1] 100)
      obtain ⟨WA, hWA⟩ : ∃ W, wr.alloc (.cells #[.int .i64 k1, .int .i64 g1, .int .i64 s1] 100) = W := ⟨_, rfl⟩
      have hDs : D < WA.heap.size := by rw [← hWA, ← hD]; simp
      rw [hWA] at hbA rD ⊢
      rw [hD] at rD ⊢
      obtain ⟨m, hm⟩ : ∃ m, L.length = m := ⟨_, rfl⟩
      obtain ⟨rg, rcap, gv, a, b, c, d, hu, ho4, hgv, hrow, hm1, hm2⟩ := (HRA.out.next hbA).row (Nat.le_refl L.length)
      injection hu with hu _ hu2
      subst hu hu2
      obtain ⟨gs, hgs⟩ : ∃ gs, (cfgAt L L.length).1 = gs := ⟨_, rfl⟩
      rw [hgs] at hgv hm1 hm2
      rw [ho4] at hm2
      rw [hm] at hrow
      have hdE : doE (cls L) k1 g1 s1 = if 40 ≤ m then 151 else nxE (m : Int) (zi gs) [(a : Int), b, c, d] k1 g1 s1 := by
        unfold doE
        rw [cls_len, ← cfgAt_cls, hgs, ho4, hm]
        rfl
      have hdC : doC (cls L) k1 g1 s1 = if doE (cls L) k1 g1 s1 = 0 then cls L ++ [nextC (gs, [a, b, c, d]) k1 g1 s1] else cls L := by
        unfold doC
        rw [cls_len, ← cfgAt_cls, show cfgAt L L.length = (gs, [a, b, c, d]) from Prod.ext hgs ho4]
      obtain ⟨E, hE⟩ : ∃ E, nxE (m : Int) (zi gs) [(a : Int), b, c, d] k1 g1 s1 = E := ⟨_, rfl⟩
      rw [hE] at hdE
      have HNx : Hid (∀ W, Below WA.heap.size WA W → Calls Tryz.prog 67 #[.agg (cf (m : Int) gv a b c d), .agg #[.int .i64 k1, .int .i64 g1, .int .i64 s1]] W fun e W' => ∃ x, e = .returned (.tuple #[x, .int .i64 E]) ∧ NxAll (m : Int) (zi gs) [(a : Int), b, c, d] k1 g1 s1 E W x W') := fun W hW => by
        have := rNext_all (m : Int) gv (zi gs) a b c d k1 g1 s1 W (hgv.next hW) (by rw [zi_len]; have := (conf_of hm1).1; omega)
        rw [hE] at this
        exact this
      have hrgs : rg < WA.heap.size := by
        have h0 := hrow 0 _ rfl
        exact World.block_lt_of_cell? WA _ h0
      have HSB : Hid (∀ W, Below WA.heap.size WA W → (W).rangeAt rg (m * 6) (cfL (m : Int) gv a b c d) ∧ (W).heap[D]? = some (.cells #[.int .i64 k1, .int .i64 g1, .int .i64 s1] 100)) := fun W hW => ⟨fun jj x hx => (hW.cell (p := ⟨rg, m * 6 + jj, none⟩) hrgs).trans (hrow jj x hx), (hW.block _ hDs).trans rD⟩
      have HRG : Hid (rg < WA.heap.size) := hrgs
      have HDE : Hid (doE (cls L) k1 g1 s1 = if 40 ≤ m then 151 else E) := hdE
      have HDC : Hid (doC (cls L) k1 g1 s1 = if doE (cls L) k1 g1 s1 = 0 then cls L ++ [nextC (gs, [a, b, c, d]) k1 g1 s1] else cls L) := hdC
      have HBA : Hid (Below wr.heap.size wr WA) := hbA
      have HLM : Hid (L.length = m) := hm
      obtain ⟨M, hM⟩ : ∃ M : Nat, m + 1 = M := ⟨_, rfl⟩
      have HM : Hid (m + 1 = M) := hM
      rw [hm, hM]
      rw [hm] at hL40
      have e1 : IntKind.i64.wrap ((M : Int) - 1) = (m : Int) := by rw [← hM]; simp [IntKind.wrap, IntKind.bits, IntKind.signed]; omega
      have e3 : IntKind.i64.wrap (m : Int) = (m : Int) := by simp [IntKind.wrap, IntKind.bits, IntKind.signed]; omega
      have m0 : (0 : Int) ≤ (m : Int) := by omega
      have m1 : (m : Int) < (M : Int) := by omega
      clear hbA rD hWA hD hDs hgv hrow hm1 hm2 hdE hdC hE hgs ho4 hm hM hrgs y0 y1 y2
      go_cut [6, 7] (fun p6 p7 wx => ∃ (X : Nat) (v : Value) (n : Int) (G' O' : List Nat) (p q r t : Nat), p6 = .pointer (some ⟨X, 0, none⟩) ∧ p7 = .int .i64 E ∧ Hid (Il wx v (zi G') ∧ O' = [p, q, r, t] ∧ wx.heap[X]? = some (.cells (cf n v p q r t) 32) ∧ Below WA.heap.size WA wx ∧ WA.heap.size ≤ X ∧ (∀ j, v.ownBlock = some j → WA.heap.size ≤ j ∧ j < wx.heap.size) ∧ NxEq (m : Int) (zi gs) [(a : Int), b, c, d] k1 g1 s1 E n G' O'))
      case first =>
        refine region_Z 99 (fun w' => (w').rangeAt rg (m * 6) (cfL (m : Int) gv a b c d) ∧ (w').heap[D]? = some (.cells #[.int .i64 k1, .int .i64 g1, .int .i64 s1] 100)) (by kernel_rfl) ?_
        have hS0 := HSB.out WA.drew (below_drew (Below.refl _ _))
        refine Y_take (i := 0) (v := ?_) rfl (by kernel_rfl) (by kernel_rfl) (by kernel_rfl) (by kernel_rfl) (fun _ _ _ h => h) (by rfl) hS0 ?_ ?_
        rotate_left
        · (intro w' hSw; have f0 := cellB hSw.2 0 _ rfl; have f1 := cellB hSw.2 1 _ rfl; have f2 := cellB hSw.2 2 _ rfl; go_simp; (try with_reducible rfl))
        simp only [Act.put, List.setIfInBounds_toArray]
        refine Y_take (i := 1) (v := ?_) rfl (by kernel_rfl) (by kernel_rfl) (by kernel_rfl) (by kernel_rfl) (fun _ _ _ h => h) (by rfl) hS0 ?_ ?_
        rotate_left
        · (intro w' hSw; have f0 := cellB hSw.2 0 _ rfl; have f1 := cellB hSw.2 1 _ rfl; have f2 := cellB hSw.2 2 _ rfl; go_simp; (try with_reducible rfl))
        simp only [Act.put]
        refine Y_take (i := 2) (v := ?_) rfl (by kernel_rfl) (by kernel_rfl) (by kernel_rfl) (by kernel_rfl) (fun _ _ _ h => h) (by rfl) hS0 ?_ ?_
        rotate_left
        · (intro w' hSw; have f0 := cellB hSw.2 0 _ rfl; have f1 := cellB hSw.2 1 _ rfl; have f2 := cellB hSw.2 2 _ rfl; go_simp; (try with_reducible rfl))
        simp only [Act.put]
        refine Y_take (i := 3) (v := ?_) rfl (by kernel_rfl) (by kernel_rfl) (by kernel_rfl) (by kernel_rfl) (fun _ _ _ h => h) (by rfl) hS0 ?_ ?_
        rotate_left
        · (intro w' hSw; have f0 := cellB hSw.2 0 _ rfl; have f1 := cellB hSw.2 1 _ rfl; have f2 := cellB hSw.2 2 _ rfl; go_simp; (try with_reducible rfl))
        simp only [Act.put]
        refine Y_take (i := 4) (v := ?_) rfl (by kernel_rfl) (by kernel_rfl) (by kernel_rfl) (by kernel_rfl) (fun _ _ _ h => h) (by rfl) hS0 ?_ ?_
        rotate_left
        · (intro w' hSw; have f0 := cellB hSw.2 0 _ rfl; have f1 := cellB hSw.2 1 _ rfl; have f2 := cellB hSw.2 2 _ rfl; go_simp; (try with_reducible rfl))
        simp only [Act.put]
        refine Y_takeY (i := 5) (v := .agg (cfL (m : Int) gv a b c d).toArray) rfl (by kernel_rfl) (by kernel_rfl) (by kernel_rfl) (by kernel_rfl) (fun _ _ _ h => h) (yieldsIf_load_mid (by rfl) 32 _ rfl rg (m * 6) (by rfl) (cfL (m : Int) gv a b c d) _ (fun w h => h.1) Tryz.underlying32 rfl Tryz.size32) hS0 ?_
        simp only [Act.put]
        refine Y_take (i := 6) (v := ?_) rfl (by kernel_rfl) (by kernel_rfl) (by kernel_rfl) (by kernel_rfl) (fun _ _ _ h => h) (by rfl) hS0 ?_ ?_
        rotate_left
        · (intro w' hSw; have f0 := cellB hSw.2 0 _ rfl; have f1 := cellB hSw.2 1 _ rfl; have f2 := cellB hSw.2 2 _ rfl; go_simp; (try with_reducible rfl))
        simp only [Act.put]
        refine Z_two (i := 7) (j := 11) (by kernel_rfl) rfl rfl (fun K hK => ?_) (fun K hK => ?_)
        · go_simp
          have hbD : Below WA.heap.size WA WA.drew := below_drew (Below.refl _ _)
          refine (HNx.out _ (hbD)).mono ?_
          rintro e w2 ⟨x, rfl, v, n, G', O', p, q, r, t, rfl, j1, j2, j3, j4, j4', j5, j6, j7⟩
          have hb2 := (hbD).trans (j5.mono (hbD).size)
          have hS2 := HSB.out _ (hb2)
          obtain ⟨qa, qc, rfl⟩ := j1.slice
          refine hK _ _ (fun _ => hS2) ?_
          clear hK K
          refine Y_take (i := 8) (v := ?_) rfl (by kernel_rfl) (by kernel_rfl) (by kernel_rfl) (by kernel_rfl) (fun _ _ _ h => h) (by rfl) hS2 ?_ ?_
          rotate_left
          · (intro w' hSw; have f0 := cellB hSw.2 0 _ rfl; have f1 := cellB hSw.2 1 _ rfl; have f2 := cellB hSw.2 2 _ rfl; go_simp; (try with_reducible rfl))
          simp only [Act.put]
          refine Y_take (i := 9) (v := ?_) rfl (by kernel_rfl) (by kernel_rfl) (by kernel_rfl) (by kernel_rfl) (fun _ _ _ h => h) (by rfl) hS2 ?_ ?_
          rotate_left
          · (intro w' hSw; have f0 := cellB hSw.2 0 _ rfl; have f1 := cellB hSw.2 1 _ rfl; have f2 := cellB hSw.2 2 _ rfl; go_simp; (try with_reducible rfl))
          simp only [Act.put]
          refine Y_take (i := 10) (v := ?_) rfl (by kernel_rfl) (by kernel_rfl) (by kernel_rfl) (by kernel_rfl) (fun _ _ _ h => h) (by rfl) hS2 ?_ ?_
          rotate_left
          · (intro w' hSw; have f0 := cellB hSw.2 0 _ rfl; have f1 := cellB hSw.2 1 _ rfl; have f2 := cellB hSw.2 2 _ rfl; go_simp; (try with_reducible rfl))
          simp only [Act.put]
          refine Z_step (i := 11) (by kernel_rfl) rfl (fun K hK => ?_)
          go_simp
          have hb3 := hb2.alloc hb2.size (.cells (cf 0 (.slice none 0 0) 0 0 0 0) 32)
          have hS3 := HSB.out _ (hb3)
          refine hK _ _ (fun _ => hS3) ?_
          clear hK K
          have hzz : (w2.alloc (.cells (cf 0 (.slice none 0 0) 0 0 0 0) 32)).heap[w2.heap.size]? = some (.cells (cf 0 (.slice none 0 0) 0 0 0 0) 32) := heap_alloc_new w2 _
          refine Z_step (i := 12) (by kernel_rfl) rfl (fun K hK => ?_)
          refine step_store_mid (by rfl) 32 _ _ (by rfl) w2.heap.size 0 (cf n (.slice qa (zi G').length qc) p q r t) (by rfl) (by rfl) (blk_there hzz 0 6 (Nat.le_refl _)) Tryz.size32 (cf_ones _ _ _ _ _ _ _ _) ?_
          have hfr : ∀ j, (Value.slice qa (zi G').length qc).ownBlock = some j → j ≠ w2.heap.size := fun j hj => Nat.ne_of_lt (j4' j hj)
          have hX : WA.heap.size ≤ w2.heap.size := hb2.size
          have hz := blk_set hzz (L := cfL n (.slice qa (zi G').length qc) p q r t) rfl
          have hbW : Below WA.heap.size WA (w2.alloc (.cells (cf 0 (.slice none 0 0) 0 0 0 0) 32)) := hb3
          have hbZ := blk_below hX (cfL n (.slice qa (zi G').length qc) p q r t) 0 _ hbW
          have hilZ : Il ((w2.alloc (.cells (cf 0 (.slice none 0 0) 0 0 0 0) 32)).setCells (w2.heap.size) 0 (cfL n (.slice qa (zi G').length qc) p q r t)) (.slice qa (zi G').length qc) (zi G') := Il_ne (j1.next ((Below.refl _ w2).alloc (Nat.le_refl _) _)) hfr
          have hjj : ∀ j, (Value.slice qa (zi G').length qc).ownBlock = some j → WA.heap.size ≤ j ∧ j < ((w2.alloc (.cells (cf 0 (.slice none 0 0) 0 0 0 0) 32)).setCells (w2.heap.size) 0 (cfL n (.slice qa (zi G').length qc) p q r t)).heap.size := fun j hj => ⟨j4 j hj, by rw [blk_size]; exact by have := j4' j hj; simp; omega⟩
          have hSZ := HSB.out _ (hbZ)
          refine hK _ _ (fun _ => hSZ) ?_
          clear hK K
          simp only [Act.put]
          refine Z_step (i := 13) (by kernel_rfl) rfl (fun K hK => ?_)
          go_simp
          refine hK _ _ (fun _ => hSZ) (Z_done (by kernel_rfl) ?_ _)
          clear hK K
          obtain ⟨WZ, hWZ⟩ : ∃ W, (w2.alloc (.cells (cf 0 (.slice none 0 0) 0 0 0 0) 32)).setCells (w2.heap.size) 0 (cfL n (.slice qa (zi G').length qc) p q r t) = W := ⟨_, rfl⟩
          rw [hWZ] at hilZ hz hbZ hjj ⊢
          have HF : Hid (Il WZ (.slice qa (zi G').length qc) (zi G') ∧ O' = [p, q, r, t] ∧ WZ.heap[w2.heap.size]? = some (.cells (cf n (.slice qa (zi G').length qc) p q r t) 32) ∧ Below WA.heap.size WA WZ ∧ WA.heap.size ≤ w2.heap.size ∧ (∀ j, (Value.slice qa (zi G').length qc).ownBlock = some j → WA.heap.size ≤ j ∧ j < WZ.heap.size) ∧ NxEq (m : Int) (zi gs) [(a : Int), b, c, d] k1 g1 s1 E n G' O') := ⟨hilZ, j2, hz, hbZ, hX, hjj, j6, j7⟩
          clear hilZ j1 j2 j3 j4 j4' j5 j6 j7 hfr hX hz hbZ hbW hzz hSZ hWZ hjj
          go_wp2_with fail
          go_meet
          exact ⟨_, _, n, G', O', p, q, r, t, rfl, rfl, HF⟩
        · go_simp
          have hba : Below WA.heap.size WA (WA.alloc (.cells (cf 0 (.slice none 0 0) 0 0 0 0) 32)).drew := below_drew ((Below.refl _ _).alloc (Nat.le_refl _) _)
          have hSa := HSB.out _ (hba)
          refine hK _ _ (fun _ => hSa) ?_
          clear hK K
          refine Z_step (i := 7) (by kernel_rfl) rfl (fun K hK => ?_)
          go_simp
          refine (HNx.out _ (hba)).mono ?_
          rintro e w2 ⟨x, rfl, v, n, G', O', p, q, r, t, rfl, j1, j2, j3, j4, j4', j5, j6, j7⟩
          have hb2 := (hba).trans (j5.mono (hba).size)
          have hS2 := HSB.out _ (hb2)
          obtain ⟨qa, qc, rfl⟩ := j1.slice
          refine hK _ _ (fun _ => hS2) ?_
          clear hK K
          refine Y_take (i := 8) (v := ?_) rfl (by kernel_rfl) (by kernel_rfl) (by kernel_rfl) (by kernel_rfl) (fun _ _ _ h => h) (by rfl) hS2 ?_ ?_
          rotate_left
          · (intro w' hSw; have f0 := cellB hSw.2 0 _ rfl; have f1 := cellB hSw.2 1 _ rfl; have f2 := cellB hSw.2 2 _ rfl; go_simp; (try with_reducible rfl))
          simp only [Act.put]
          refine Y_take (i := 9) (v := ?_) rfl (by kernel_rfl) (by kernel_rfl) (by kernel_rfl) (by kernel_rfl) (fun _ _ _ h => h) (by rfl) hS2 ?_ ?_
          rotate_left
          · (intro w' hSw; have f0 := cellB hSw.2 0 _ rfl; have f1 := cellB hSw.2 1 _ rfl; have f2 := cellB hSw.2 2 _ rfl; go_simp; (try with_reducible rfl))
          simp only [Act.put]
          refine Y_take (i := 10) (v := ?_) rfl (by kernel_rfl) (by kernel_rfl) (by kernel_rfl) (by kernel_rfl) (fun _ _ _ h => h) (by rfl) hS2 ?_ ?_
          rotate_left
          · (intro w' hSw; have f0 := cellB hSw.2 0 _ rfl; have f1 := cellB hSw.2 1 _ rfl; have f2 := cellB hSw.2 2 _ rfl; go_simp; (try with_reducible rfl))
          simp only [Act.put]
          have hzz : (w2).heap[WA.heap.size]? = some (.cells (cf 0 (.slice none 0 0) 0 0 0 0) 32) := (j5.block _ (by simp)).trans (heap_alloc_new WA _)
          refine Z_step (i := 12) (by kernel_rfl) rfl (fun K hK => ?_)
          refine step_store_mid (by rfl) 32 _ _ (by rfl) WA.heap.size 0 (cf n (.slice qa (zi G').length qc) p q r t) (by rfl) (by rfl) (blk_there hzz 0 6 (Nat.le_refl _)) Tryz.size32 (cf_ones _ _ _ _ _ _ _ _) ?_
          have hfr : ∀ j, (Value.slice qa (zi G').length qc).ownBlock = some j → j ≠ WA.heap.size := fun j hj => lt_ne2 (j4 j hj) (Nat.le_refl _)
          have hX : WA.heap.size ≤ WA.heap.size := Nat.le_refl _
          have hz := blk_set hzz (L := cfL n (.slice qa (zi G').length qc) p q r t) rfl
          have hbW : Below WA.heap.size WA (w2) := hb2
          have hbZ := blk_below hX (cfL n (.slice qa (zi G').length qc) p q r t) 0 _ hbW
          have hilZ : Il ((w2).setCells (WA.heap.size) 0 (cfL n (.slice qa (zi G').length qc) p q r t)) (.slice qa (zi G').length qc) (zi G') := Il_ne (j1) hfr
          have hjj : ∀ j, (Value.slice qa (zi G').length qc).ownBlock = some j → WA.heap.size ≤ j ∧ j < ((w2).setCells (WA.heap.size) 0 (cfL n (.slice qa (zi G').length qc) p q r t)).heap.size := fun j hj => ⟨Nat.le_trans hba.size (j4 j hj), by rw [blk_size]; exact j4' j hj⟩
          have hSZ := HSB.out _ (hbZ)
          refine hK _ _ (fun _ => hSZ) ?_
          clear hK K
          simp only [Act.put]
          refine Z_step (i := 13) (by kernel_rfl) rfl (fun K hK => ?_)
          go_simp
          refine hK _ _ (fun _ => hSZ) (Z_done (by kernel_rfl) ?_ _)
          clear hK K
          obtain ⟨WZ, hWZ⟩ : ∃ W, (w2).setCells (WA.heap.size) 0 (cfL n (.slice qa (zi G').length qc) p q r t) = W := ⟨_, rfl⟩
          rw [hWZ] at hilZ hz hbZ hjj ⊢
          have HF : Hid (Il WZ (.slice qa (zi G').length qc) (zi G') ∧ O' = [p, q, r, t] ∧ WZ.heap[WA.heap.size]? = some (.cells (cf n (.slice qa (zi G').length qc) p q r t) 32) ∧ Below WA.heap.size WA WZ ∧ WA.heap.size ≤ WA.heap.size ∧ (∀ j, (Value.slice qa (zi G').length qc).ownBlock = some j → WA.heap.size ≤ j ∧ j < WZ.heap.size) ∧ NxEq (m : Int) (zi gs) [(a : Int), b, c, d] k1 g1 s1 E n G' O') := ⟨hilZ, j2, hz, hbZ, hX, hjj, j6, j7⟩
          clear hilZ j1 j2 j3 j4 j4' j5 j6 j7 hfr hX hz hbZ hbW hzz hSZ hWZ hjj
          go_wp2_with fail
          go_meet
          exact ⟨_, _, n, G', O', p, q, r, t, rfl, rfl, HF⟩
      case rest =>
        obtain ⟨X, v2, n, G', O', p, q, r, t, rfl, rfl, HQ⟩ := hcut
        clear HNx HSB
        obtain ⟨q1, q2, q3, q4, q5, q6, q7⟩ := HQ.out
        have hbc := HBA.out.trans (q4.mono HBA.out.size)
        have hRc := HRA.out.next hbc
        have hBc := HBW.out.trans (hbc.mono HBW.out.size)
        have HRC : Hid (RunAt w.heap.size wc (.slice (some ⟨rg, 0, none⟩) (L.length + 1) rc) L) := hRc
        have HBC : Hid (Below w.heap.size w wc) := hBc
        by_cases hE0 : E = 0 ∧ m < 40
        · obtain ⟨hE0, hm40⟩ := hE0
          subst hE0
          obtain ⟨gs', o', K, G, S, e1', e2', e3', e4', e5', hg', ho', hk', _, _, e6', e7', e8', m1', m2'⟩ := q7.1 rfl
          have a1 : gs = gs' := zi_inj _ _ e1'
          have a2 : [a, b, c, d] = o' := zi_inj _ _ e2'
          subst a1 a2 e6'
          have hlast : doC (cls L) k1 g1 s1 = cls L ++ [(G', O')] := by
            have hd0 : doE (cls L) k1 g1 s1 = 0 := by rw [HDE.out, if_neg (by omega)]
            rw [HDC.out, if_pos hd0]
            unfold nextC
            rw [e3', e4', e5']
            simp only [Int.toNat_natCast]
            rw [← e7', ← e8']
          have hq1 := q1
          obtain ⟨qa, qc, hv2⟩ := q1.slice
          subst hv2
          rw [zi_len] at hq1 q3 q6
          have d40 : (M : Int) ≤ 40 := by have := HM.out; omega
          have KX : Hid (wc.rangeAt X 0 (cfL ((m : Int) + 1) (.slice qa G'.length qc) p q r t)) := blk_range (L := cfL ((m : Int) + 1) (.slice qa G'.length qc) p q r t) q3
          have hown := hRc.own
          rw [HLM.out] at hown
          rw [HM.out] at hown
          have hml : M + 1 ≤ maxLen := by unfold maxLen; omega
          have hkb : (M + 1) * 64 ≤ 140737488355328 := by omega
          have HOWN : Hid (wc.ownsRow w.heap.size 32 6 (.slice (some ⟨rg, 0, none⟩) M rc) M (cfL 0 (.slice none 0 0) 0 0 0 0 ++ rcsF 1 L)) := hown
          clear hown
          have hws := hBc.size
          have HLAST : Hid (doC (cls L) k1 g1 s1 = cls L ++ [(G', O')]) := hlast
          have HQ2 : Hid (Il wc (.slice qa G'.length qc) (zi G') ∧ O' = [p, q, r, t] ∧ Below WA.heap.size WA wc ∧ (∀ j, (Value.slice qa G'.length qc).ownBlock = some j → WA.heap.size ≤ j ∧ j < wc.heap.size) ∧ G' ∈ subs0 ∧ O' ∈ owners0 G') := ⟨hq1, q2, q4, q6, m1', m2'⟩
          clear q1 q2 q3 q4 q5 q6 q7 hbc hRc hBc hlast e1' e2' e3' e4' e5' hg' ho' hk' e7' e8' m1' m2' hq1 HQ HDE HDC
          go_wp2_with (first
            | (refine wpList_load_mid rfl 32 _ rfl X 0 rfl (cfL ((m : Int) + 1) (.slice qa G'.length qc) p q r t) _ KX.out Tryz.underlying32 rfl Tryz.size32 ?_)
            | (at_builtin; refine wpList_append_lies _ rfl _ _ 133 rfl w.heap.size 32 i0 (.agg (cf 0 (.slice none 0 0) 0 0 0 0)) 6 64 (show Tryz.prog.underlying 133 = some (.slice 32) by kernel_rfl) HINF.out.1 HINF.out.2.1 HINF.out.2.2.1 HINF.out.2.2.2 rfl (by decide) (.slice (some ⟨rg, 0, none⟩) M rc) M (cfL 0 (.slice none 0 0) 0 0 0 0 ++ rcsF 1 L) rfl (HOWN.out.alloc _) _ 1 1 (cfL ((m : Int) + 1) (.slice qa G'.length qc) p q r t) rfl rfl (World.news_of_block (heap_alloc_new _ _)) (by simp [Value.oneCell']) (by decide) hml hkb (by simp; omega) _ rfl ?_; intro gb cap w5 i1 i2 i3 i4; have HK : Hid (_ ∧ _ ∧ _) := ⟨i1, i2, i3⟩; clear i1 i2 i3 i4))
          go_roundg (l.length - (j + 1))
          case measure => omega
          case rel =>
            obtain ⟨i1, i2, i3⟩ := HK.out
            obtain ⟨hq1, q2, q4, q6, m1', m2'⟩ := HQ2.out
            have hbN := (Below.refl wc.heap.size wc).alloc (Nat.le_refl _) (.cells (cf ((m : Int) + 1) (.slice qa G'.length qc) p q r t) 32)
            have hsN : (wc.alloc (.cells (cf ((m : Int) + 1) (.slice qa G'.length qc) p q r t) 32)).heap.size = wc.heap.size + 1 := by simp
            have hrgW : rg < WA.heap.size := HRG.out
            have hkeep : ∀ jj, jj < wc.heap.size → jj ≠ rg → w5.heap[jj]? = wc.heap[jj]? := fun jj h1 h2 => (i2.block jj (Nat.lt_of_lt_of_le h1 hbN.size) (fun h => h2 (by simpa [Value.ownBlock] using h))).trans (hbN.block jj h1)
            have hga : ∀ jj, jj < wc.heap.size → jj ≠ rg → gb ≠ jj := fun jj h1 h2 => by
              rintro rfl
              rcases i3 with i3 | i3
              · exact h2 (by have : rg = gb := by simpa [Value.ownBlock] using i3
                             exact this.symm)
              · have : wc.heap.size + 1 = gb := hsN.symm.trans i3.symm
                omega
            have hs5 : wc.heap.size ≤ w5.heap.size := Nat.le_trans hbN.size i2.size
            have hML : L.length + 1 = M := by rw [HLM.out]; exact HM.out
            have hcat : cfL 0 (.slice none 0 0) 0 0 0 0 ++ rcsF 1 (L ++ [((.slice qa G'.length qc, G', O') : Rc)]) = cfL 0 (.slice none 0 0) 0 0 0 0 ++ rcsF 1 L ++ cfL ((m : Int) + 1) (.slice qa G'.length qc) p q r t := by
              rw [rcsF_snoc, ← List.append_assoc]
              congr 1
              show Value.int .i64 ((1 + L.length : Nat) : Int) :: Value.slice qa G'.length qc :: owL O' = _
              rw [q2, show ((1 + L.length : Nat) : Int) = (m : Int) + 1 by have := HLM.out; omega]
              rfl
            refine ⟨j + 1, L ++ [(.slice qa G'.length qc, G', O')], by omega, by go_num, ⟨?_, ?_⟩, ?_, ?_⟩
            · rw [hcat, List.length_append, show L.length + [((.slice qa G'.length qc, G', O') : Rc)].length + 1 = M + 1 by simp; omega]
              exact i1
            · intro i r' hr'
              by_cases hi' : i < L.length
              · rw [List.getElem?_append_left hi'] at hr'
                obtain ⟨o1, o2, o3, o4⟩ := HRC.out.ok i r' hr'
                refine ⟨o1, o2, Il_blk o3 (fun jj hjj => by obtain ⟨f1, f2⟩ := o4 jj hjj; exact hkeep jj f1 (fun e => f2 (by rw [e]; rfl))) hs5, fun jj hjj => ?_⟩
                obtain ⟨f1, f2⟩ := o4 jj hjj
                refine ⟨by omega, fun h => ?_⟩
                have : gb = jj := by simpa [Value.ownBlock] using h
                exact hga jj f1 (fun e => f2 (by rw [e]; rfl)) this
              · rw [List.getElem?_append_right (by omega)] at hr'
                have hi2 : i - L.length = 0 := by
                  have := (List.getElem?_eq_some_iff.1 hr').1
                  simp only [List.length_cons, List.length_nil] at this
                  omega
                rw [hi2] at hr'
                have hr3 : ((.slice qa G'.length qc, G', O') : Rc) = r' := by simpa using hr'
                subst hr3
                refine ⟨m1', m2', Il_blk hq1 (fun jj hjj => by obtain ⟨f1, f2⟩ := q6 jj hjj; exact hkeep jj f2 (by omega)) hs5, fun jj hjj => ?_⟩
                obtain ⟨f1, f2⟩ := q6 jj hjj
                refine ⟨by omega, fun h => ?_⟩
                have : gb = jj := by simpa [Value.ownBlock] using h
                exact hga jj f2 (by omega) this
            · rw [HNX.out, HLAST.out]
              simp [cls]
            · have hb1 := HBC.out
              have hb2 := (hb1.alloc hb1.size (.cells (cf ((m : Int) + 1) (.slice qa G'.length qc) p q r t) 32)).grown i2 (Nat.le_trans hb1.size hbN.size) (fun qq hq => (HOWN.out.lt qq hq).1)
              exact hb2
        · have hsame : doC (cls L) k1 g1 s1 = cls L := by
            rw [HDC.out]
            by_cases h4 : 40 ≤ m
            · rw [HDE.out, if_pos h4]; rfl
            · rw [HDE.out, if_neg h4, if_neg (fun h => hE0 ⟨h, by omega⟩)]
          have HSM : Hid (runC [] (l.take (j + 1)) = cls L) := by show _ = _; rw [HNX.out, hsame]
          have HLM2 : Hid (L.length + 1 = M) := by show _ = _; rw [HLM.out]; exact HM.out
          clear q1 q2 q3 q4 q5 q6 q7 hbc hRc hBc hsame HQ HDE HDC
          by_cases hEz : E = 0
          · subst hEz
            have d40 : ¬ (M : Int) ≤ 40 := by have := HM.out; omega
            go_wp2
            go_roundg (l.length - (j + 1))
            case measure => omega
            case rel => exact ⟨j + 1, L, by omega, by go_num, by rw [← HLM2.out]; exact HRC.out, HSM.out.symm, HBC.out⟩
          · have hne : (E == 0) = false := by simpa using hEz
            go_wp2
            go_roundg (l.length - (j + 1))
            case measure => omega
            case rel => exact ⟨j + 1, L, by omega, by go_num, by rw [← HLM2.out]; exact HRC.out, HSM.out.symm, HBC.out⟩
    · have hkl : j = l.length := by omega
      subst hkl
      rw [List.take_length] at hcl
      obtain ⟨ra, rc, rfl⟩ := owns_slice hR.own
      have HRR : Hid (RunAt w.heap.size wr (.slice ra (L.length + 1) rc) L) := hR
      clear hR
      go_wp2
      go_ret
      exact ⟨_, L, rfl, hcl, HRR.out, hB⟩
end Go.Proofs.YtfolnlgceighbaaGreatDoor
