/- Moots: MootChain, walked. -/
import Derived.Test.YtkamjfcnipjpkaaMoH
import Derived.Test.YtkamjfcnipjpkaaCdI
namespace Go.Proofs.Ytkamjfcnipjpkaa
open Go.RowKit
attribute [local go_sem ↓] Go.wp_at_zero Go.wp_at_succ

set_option maxRecDepth 20000 in
set_option maxHeartbeats 8000000 in
theorem chain_any (l : List S5) (v : Value) (w : World) (h : Ss w v l) :
    Calls Try.prog 3 #[v] w fun e W' => e = .returned (.bool true) ∧ Below w.heap.size w W' := by
  have hO := fun W => one_any W
  have hN := MNew_any w
  obtain ⟨va, vc, rfl⟩ := h.slice
  have HS : Hid (Ss w (.slice va l.length vc) l) := h
  clear h
  by_cases hbig : 80 < l.length
  · have hq : (80 : Int) < (l.length : Int) := by omega
    go_enter Try.func3, Try.ntmps3
    go_wp2_with (first
      | (go_at_call 5; refine hN.mono ?_; rintro e w1 ⟨M, B, rfl, hM0, hb1⟩; clear hM0)
      | (go_at_call 6; refine (hO _).mono ?_; rintro e w5 ⟨rfl, hb5⟩; have hB5 := hb1.trans (hb5.mono hb1.size)))
    go_ret
    exact ⟨rfl, hB5⟩
  have hq : ¬ (80 : Int) < (l.length : Int) := by omega
  have HLN : Hid (l.length ≤ 80) := by show _ ≤ _; omega
  clear hbig
  go_enter Try.func3, Try.ntmps3
  go_upto_region 2 with (first
    | (go_at_call 5; refine hN.mono ?_; rintro e w1 ⟨M, B, rfl, hM0, hb1⟩; have HM0 : Hid (MtAt w.heap.size w1 M B (.slice none 0 0) (.slice none 0 0) [] [] zK ∧ Below w.heap.size w w1) := ⟨hM0, hb1⟩; clear hM0 hb1))
  clear hN
  go_upto_region 5 with fail
  obtain ⟨hM0, hb1⟩ := HM0.out
  have hbA := (Below.refl w1.heap.size w1).alloc (Nat.le_refl _) (.cells (cf 0 (.slice none 0 0) 0 0 0 0) 29)
  have HR0 : Hid (Rx w M B (.slice none 0 0) (.slice none 0 0) [] [] zK w1.heap.size ((([] : List Rc).length : Nat) : Int) (.slice none 0 0) [] 0 0 0 0 (w1.alloc (.cells (cf 0 (.slice none 0 0) 0 0 0 0) 29))) := ⟨hM0.next hbA, hb1.alloc hb1.size _, heap_alloc_new _ _, .inl ⟨rfl, none, 0, rfl⟩, hb1.size, (fun ho => by have := (hM0.own_lt ho).2; omega), (fun k hk => by cases hk)⟩
  obtain ⟨W0, hW0⟩ : ∃ W, w1.alloc (.cells (cf 0 (.slice none 0 0) 0 0 0 0) 29) = W := ⟨_, rfl⟩
  obtain ⟨K, hKK⟩ : ∃ K, w1.heap.size = K := ⟨_, rfl⟩
  rw [hW0] at HR0
  first | rw [hW0] | skip
  rw [hKK] at HR0 ⊢
  clear hW0 hKK hM0 hb1 hbA HM0
  go_wp2_with fail
  clear hq
  go_loopg [31] l.length (fun gk i wr => ∃ (j : Nat) (vv ut : Value) (L : List Rc) (T : List C3) (cl : List Kn) (gv : Value) (gs : List Nat) (a b c d : Nat), j + gk = l.length ∧ i = .int .i64 j ∧ Rx w M B vv ut L T cl K (L.length : Int) gv gs a b c d wr ∧ cfgAt L L.length = (gs, [a, b, c, d]) ∧ ∃ ha hc, gv = .slice ha (zi gs).length hc)
  case atStart => exact ⟨0, _, _, [], [], zK, _, [], 0, 0, 0, 0, by omega, rfl, HR0.out, rfl, ⟨none, 0, rfl⟩⟩
  case round =>
    obtain ⟨j, vv, ut, L, T, cl, gv, gs, a, b, c, d, hj, rfl, hR, hcfg, hgvs⟩ := hrel
    clear HR0
    by_cases hlt : j < l.length
    · obtain ⟨x, hx⟩ : ∃ x, l[j]? = some x := ⟨_, List.getElem?_eq_getElem hlt⟩
      obtain ⟨c1, n1, k1, g1, s1⟩ := x
      obtain ⟨cb, co, hva, y0, y1, y2, y3, y4⟩ := (HS.out.next hR.bel).at hx
      subst hva
      have hbA := (Below.refl wr.heap.size wr).alloc (Nat.le_refl _) (.cells #[.int .i64 c1, .int .i64 n1, .int .i64 k1, .int .i64 g1, .int .i64 s1] 33)
      have hRA := hR.next hbA
      have rD := heap_alloc_new wr (.cells #[.int .i64 c1, .int .i64 n1, .int .i64 k1, .int .i64 g1, .int .i64 s1] 33)
      have hnD : ¬ MOwn M B vv ut L wr.heap.size := fun e => by have := (hR.mt.own_lt e).2; omega
      obtain ⟨m, hm⟩ : ∃ m, L.length = m := ⟨_, rfl⟩
      have hLa := MLast_any _ M B vv ut L T cl _ hRA.mt
      rw [hm] at hLa hRA
      obtain ⟨WA, hWA⟩ : ∃ W, wr.alloc (.cells #[.int .i64 c1, .int .i64 n1, .int .i64 k1, .int .i64 g1, .int .i64 s1] 33) = W := ⟨_, rfl⟩
      have hDs : wr.heap.size < WA.heap.size := by rw [← hWA]; simp
      rw [hWA] at rD hRA hLa
      obtain ⟨Dk, hD⟩ : ∃ D, wr.heap.size = D := ⟨_, rfl⟩
      have HV : Hid (wr.alloc (.cells #[.int .i64 c1, .int .i64 n1, .int .i64 k1, .int .i64 g1, .int .i64 s1] 33) = WA) := hWA
      have HD : Hid (wr.heap.size = Dk) := hD
      rw [hD] at rD hnD hDs
      have HRA : Hid (Rx w M B vv ut L T cl K (m : Int) gv gs a b c d WA) := hRA
      have HRD : Hid (WA.heap[Dk]? = some (.cells #[.int .i64 c1, .int .i64 n1, .int .i64 k1, .int .i64 g1, .int .i64 s1] 33) ∧ ¬ MOwn M B vv ut L Dk ∧ Dk < WA.heap.size) := ⟨rD, hnD, hDs⟩
      have HCFG : Hid (cfgAt L L.length = (gs, [a, b, c, d])) := hcfg
      have HGV : Hid (∃ ha hc, gv = .slice ha (zi gs).length hc) := hgvs
      have HLM0 : Hid (L.length = m) := hm
      have z3 : ∀ v a b c d W, (Instr.field 34 (.agg (cf (m : Int) v a b c d)) 0).run Try.prog W = .ok (.int .i64 (m : Int)) W := fun v a b c d W => fld0 m v a b c d W
      have hg4 : gs.length ≤ 4 := by
        have h1 := (cfg_mem hR.mt.ch (Nat.le_refl L.length)).1
        rw [hcfg] at h1
        exact (conf_of h1).1
      have HG40 : Hid (gs.length ≤ 4) := hg4
      have j0 : (0 : Int) ≤ (j : Int) := by omega
      have j1 : (j : Int) < (l.length : Int) := by omega
      have hgk : gk = l.length - j := by omega
      subst hgk
      clear hx hR hbA hRA rD hnD hWA hDs hD hcfg hgvs hm hg4
      go_upto_region 8 with fail
      rw [HV.out, HD.out]
      clear HV y0 y1 y2 y3 y4 HD
      go_upto_region 9 with (first
        | (go_at_call 7; refine hLa.mono ?_; rintro e w1 ⟨x, rfl, u5, a5, b5, c5, d5, q1, rfl, q3, q4, q5⟩; have HB1 : Hid (Below WA.heap.size WA w1) := q5; obtain ⟨ua, uc, rfl⟩ := q3.slice; clear q1 q4 q5))
      clear hLa q3
      have hR1 := HRA.out.next HB1.out
      have rD1 := (HB1.out.block Dk HRD.out.2.2).trans HRD.out.1
      have hDs1 : Dk < w1.heap.size := Nat.lt_of_lt_of_le HRD.out.2.2 HB1.out.size
      have f0 := cellB rD1 0 _ rfl
      have f1 := cellB rD1 1 _ rfl
      have f2 := cellB rD1 2 _ rfl
      have f3 := cellB rD1 3 _ rfl
      have f4 := cellB rD1 4 _ rfl
      have HR1 : Hid (Rx w M B vv ut L T cl K (m : Int) gv gs a b c d w1) := hR1
      have HRD1 : Hid (w1.heap[Dk]? = some (.cells #[.int .i64 c1, .int .i64 n1, .int .i64 k1, .int .i64 g1, .int .i64 s1] 33) ∧ Dk < w1.heap.size) := ⟨rD1, hDs1⟩
      rcases mo_split (cls L) cl c1 n1 k1 g1 s1 with ⟨hr, hml, hE0⟩ | ⟨hml, a9, b9, E9, hr, hcase⟩
      · have hDo := MDo_told hR1.mt rfl hr
        have HE0 : Hid (doE (cls L) k1 g1 s1 = 0) := hE0
        have HML : Hid (moL (cls L) cl c1 n1 k1 g1 s1 = doC (cls L) k1 g1 s1) := hml
        clear hr hml hE0 hR1 rD1 hDs1
        go_upto_region 10 with (first
          | (go_at_call 8; refine hDo.mono ?_; rintro e w2 ⟨rfl, v2, ut2, L2, T2, d1, d2, d3⟩; have rD2 := (d3.block Dk HRD1.out.2 HRD.out.2.1).trans HRD1.out.1; have HR2 : Hid (Rx w M B v2 ut2 L2 T2 (moC (cls L) cl c1 n1 k1 g1 s1) K (m : Int) gv gs a b c d w2) := HR1.out.did d2 d3; have HD2 : Hid (w2.heap[Dk]? = some (.cells #[.int .i64 c1, .int .i64 n1, .int .i64 k1, .int .i64 g1, .int .i64 s1] 33) ∧ ¬ MOwn M B v2 ut2 L2 Dk) := ⟨rD2, fun e => (d3.new Dk e).elim HRD.out.2.1 (fun q => by have := HRD1.out.2; omega)⟩; have HCL2 : Hid (cls L2 = moL (cls L) cl c1 n1 k1 g1 s1) := d1; clear rD2 d1 d2 d3))
        obtain ⟨CL, hCL⟩ : ∃ CL, moC (cls L) cl c1 n1 k1 g1 s1 = CL := ⟨_, rfl⟩
        rw [hCL] at HR2
        clear hDo f0 f1 f2 f3 f4 hCL
        obtain ⟨WB, rfl⟩ : ∃ WB, WB = wr := ⟨_, rfl⟩
        obtain ⟨hl2, hc2⟩ := cfg_next (HCL2.out.trans HML.out) HE0.out
        rw [HCFG.out] at hc2
        have hnx := nx_taken HCFG.out HE0.out
        rw [HLM0.out] at hl2 hnx
        have HNx : Hid (∀ W, Below w2.heap.size w2 W → Calls Try.prog 9 #[.agg (cf (m : Int) gv a b c d), .agg #[.int .i64 k1, .int .i64 g1, .int .i64 s1]] W fun e W' => ∃ x, e = .returned (.tuple #[x, .int .i64 0]) ∧ NxAll (m : Int) (zi gs) [(a : Int), b, c, d] k1 g1 s1 0 W x W') := fun W hW => by
          have := rNext_all (m : Int) gv (zi gs) a b c d k1 g1 s1 W (HR2.out.il.next hW) (by rw [zi_len]; have := HG40.out; omega)
          rw [hnx] at this
          exact this
        have HRf : Hid (∀ W, Calls Try.prog 10 #[.agg #[.int .i64 k1, .int .i64 g1, .int .i64 s1]] W fun e W' => e = .returned (.agg #[.int .i64 k1, .int .i64 g1, .int .i64 s1]) ∧ Below W.heap.size W W') := fun W => mref_any k1 g1 s1 W
        have HSB : Hid (∀ W, Below w2.heap.size w2 W → W.heap[K]? = some (.cells (cf (m : Int) gv a b c d) 29) ∧ W.heap[Dk]? = some (.cells #[.int .i64 c1, .int .i64 n1, .int .i64 k1, .int .i64 g1, .int .i64 s1] 33)) := fun W hW => ⟨(hW.block K (Array.getElem?_eq_some_iff.1 HR2.out.blk).1).trans HR2.out.blk, (hW.block Dk (Array.getElem?_eq_some_iff.1 HD2.out.1).1).trans HD2.out.1⟩
        have HC2 : Hid (L2.length = m + 1 ∧ cfgAt L2 L2.length = nextC (gs, [a, b, c, d]) k1 g1 s1) := ⟨hl2, hc2⟩
        clear hl2 hc2 hnx
        go_upto_region 11 with fail
        go_cut [11, 12] (fun p11 p12 wx => ∃ (X : Nat) (qa : Option Addr) (qc : Nat) (G' : List Nat) (p q r t : Nat), p11 = .pointer (some ⟨X, 0, none⟩) ∧ p12 = .int .i64 0 ∧ Hid (Il wx (.slice qa (zi G').length qc) (zi G') ∧ wx.heap[X]? = some (.cells (cf ((m : Int) + 1) (.slice qa (zi G').length qc) p q r t) 29) ∧ Below w2.heap.size w2 wx ∧ w2.heap.size ≤ X ∧ (∀ j, (Value.slice qa (zi G').length qc).ownBlock = some j → w2.heap.size ≤ j ∧ j < wx.heap.size) ∧ (G', [p, q, r, t]) = nextC (gs, [a, b, c, d]) k1 g1 s1))
        case first =>
          refine region_Z 99 (fun w' => w'.heap[K]? = some (.cells (cf (m : Int) gv a b c d) 29) ∧ w'.heap[Dk]? = some (.cells #[.int .i64 c1, .int .i64 n1, .int .i64 k1, .int .i64 g1, .int .i64 s1] 33)) (by kernel_rfl) ?_
          have hbD : Below w2.heap.size w2 w2.drew := below_drew (Below.refl _ _)
          have hS0 := HSB.out _ hbD
          obtain ⟨ga, gc, hgv⟩ := HGV.out
          subst hgv
          refine Y_take (i := 0) (v := ?_) rfl (by kernel_rfl) (by kernel_rfl) (by kernel_rfl) (by kernel_rfl) (fun _ _ _ h => h) (by rfl) hS0 ?_ ?_
          rotate_left
          · (intro w' hSw; have e0 := cellB hSw.1 0 _ rfl; have e1 := cellB hSw.1 1 _ rfl; have e2 := cellB hSw.1 2 _ rfl; have e3 := cellB hSw.1 3 _ rfl; have e4 := cellB hSw.1 4 _ rfl; have e5 := cellB hSw.1 5 _ rfl; have f2 := cellB hSw.2 2 _ rfl; have f3 := cellB hSw.2 3 _ rfl; have f4 := cellB hSw.2 4 _ rfl; go_simp; (try with_reducible rfl))
          simp only [Act.put, List.setIfInBounds_toArray]
          refine Y_take (i := 1) (v := ?_) rfl (by kernel_rfl) (by kernel_rfl) (by kernel_rfl) (by kernel_rfl) (fun _ _ _ h => h) (by rfl) hS0 ?_ ?_
          rotate_left
          · (intro w' hSw; have e0 := cellB hSw.1 0 _ rfl; have e1 := cellB hSw.1 1 _ rfl; have e2 := cellB hSw.1 2 _ rfl; have e3 := cellB hSw.1 3 _ rfl; have e4 := cellB hSw.1 4 _ rfl; have e5 := cellB hSw.1 5 _ rfl; have f2 := cellB hSw.2 2 _ rfl; have f3 := cellB hSw.2 3 _ rfl; have f4 := cellB hSw.2 4 _ rfl; go_simp; (try with_reducible rfl))
          simp only [Act.put]
          refine Y_take (i := 2) (v := ?_) rfl (by kernel_rfl) (by kernel_rfl) (by kernel_rfl) (by kernel_rfl) (fun _ _ _ h => h) (by rfl) hS0 ?_ ?_
          rotate_left
          · (intro w' hSw; have e0 := cellB hSw.1 0 _ rfl; have e1 := cellB hSw.1 1 _ rfl; have e2 := cellB hSw.1 2 _ rfl; have e3 := cellB hSw.1 3 _ rfl; have e4 := cellB hSw.1 4 _ rfl; have e5 := cellB hSw.1 5 _ rfl; have f2 := cellB hSw.2 2 _ rfl; have f3 := cellB hSw.2 3 _ rfl; have f4 := cellB hSw.2 4 _ rfl; go_simp; (try with_reducible rfl))
          simp only [Act.put]
          refine Z_two (i := 3) (j := 8) (by kernel_rfl) rfl rfl (fun K hK => ?_) (fun K hK => ?_)
          · go_simp
            refine (HRf.out _).mono ?_
            rintro e w3 ⟨rfl, hbr⟩
            have hb3 := hbD.trans (hbr.mono hbD.size)
            have hS3 := HSB.out _ hb3
            refine hK _ _ (fun _ => hS3) ?_
            clear hK K
            refine Z_two (i := 4) (j := 8) (by kernel_rfl) rfl rfl (fun K hK => ?_) (fun K hK => ?_)
            · go_simp
              refine (HNx.out _ hb3).mono ?_
              rintro e w4 ⟨x, rfl, v9, n, G', O', p, q, r, t, rfl, j1, j2, j3, j4, j4', j5, j6, j7⟩
              have hb4 := hb3.trans (j5.mono hb3.size)
              have hbc := hb3.size
              have hS4 := HSB.out _ hb4
              obtain ⟨qa, qc, rfl⟩ := j1.slice
              refine hK _ _ (fun _ => hS4) ?_
              clear hK K
              refine Y_take (i := 5) (v := ?_) rfl (by kernel_rfl) (by kernel_rfl) (by kernel_rfl) (by kernel_rfl) (fun _ _ _ h => h) (by rfl) hS4 ?_ ?_
              rotate_left
              · (intro w' hSw; go_simp; (try with_reducible rfl))
              simp only [Act.put]
              refine Y_take (i := 6) (v := ?_) rfl (by kernel_rfl) (by kernel_rfl) (by kernel_rfl) (by kernel_rfl) (fun _ _ _ h => h) (by rfl) hS4 ?_ ?_
              rotate_left
              · (intro w' hSw; go_simp; (try with_reducible rfl))
              simp only [Act.put]
              refine Y_take (i := 7) (v := ?_) rfl (by kernel_rfl) (by kernel_rfl) (by kernel_rfl) (by kernel_rfl) (fun _ _ _ h => h) (by rfl) hS4 ?_ ?_
              rotate_left
              · (intro w' hSw; go_simp; (try with_reducible rfl))
              simp only [Act.put]
              refine Z_step (i := 8) (by kernel_rfl) rfl (fun K hK => ?_)
              go_simp
              have hb5 := hb4.alloc hb4.size (.cells (cf 0 (.slice none 0 0) 0 0 0 0) 29)
              have hS5 := HSB.out _ hb5
              have hzz := heap_alloc_new w4 (.cells (cf 0 (.slice none 0 0) 0 0 0 0) 29)
              have hX : w2.heap.size ≤ w4.heap.size := hb4.size
              have hXn : ∀ j, (Value.slice qa (zi G').length qc).ownBlock = some j → j ≠ w4.heap.size := fun j hj => by have := j4' j hj; omega
              have hil5 := j1.next ((Below.refl _ w4).alloc (Nat.le_refl _) (.cells (cf 0 (.slice none 0 0) 0 0 0 0) 29))
              have hlt5 : ∀ j, (Value.slice qa (zi G').length qc).ownBlock = some j → j < (w4.alloc (.cells (cf 0 (.slice none 0 0) 0 0 0 0) 29)).heap.size := fun j hj => by have := j4' j hj; simp; omega
              obtain ⟨w5, hw5⟩ : ∃ W, w4.alloc (.cells (cf 0 (.slice none 0 0) 0 0 0 0) 29) = W := ⟨_, rfl⟩
              obtain ⟨X, hXX⟩ : ∃ X, w4.heap.size = X := ⟨_, rfl⟩
              rw [hw5] at hb5 hS5 hzz hil5 hlt5 ⊢
              rw [hXX] at hzz hX hXn ⊢
              clear hw5 hXX
              refine hK _ _ (fun _ => hS5) ?_
              clear hK K
              have hfr : ∀ j, (Value.slice qa (zi G').length qc).ownBlock = some j → w2.heap.size ≤ j := fun j hj => Nat.le_trans hbc (j4 j hj)
              refine Z_step (i := 9) (by kernel_rfl) rfl (fun K hK => ?_)
              refine step_store_mid (by rfl) 29 _ _ (by rfl) X 0 (cf n (.slice qa (zi G').length qc) p q r t) (by rfl) (by rfl) (blk_there hzz 0 6 (Nat.le_refl _)) Try.size29 (cf_ones _ _ _ _ _ _ _ _) ?_
              have hbZ := blk_below hX (cfL n (.slice qa (zi G').length qc) p q r t) 0 _ hb5
              have rZ := blk_set hzz (L := cfL n (.slice qa (zi G').length qc) p q r t) rfl
              have hilZ := Il_ne (o := 0) (L := cfL n (.slice qa (zi G').length qc) p q r t) hil5 hXn
              have hltZ : ∀ j, (Value.slice qa (zi G').length qc).ownBlock = some j → w2.heap.size ≤ j ∧ j < (w5.setCells X 0 (cfL n (.slice qa (zi G').length qc) p q r t)).heap.size := fun j hj => ⟨hfr j hj, by rw [blk_size]; exact hlt5 j hj⟩
              have hSZ := HSB.out _ hbZ
              refine hK _ _ (fun _ => hSZ) ?_
              clear hK K
              simp only [Act.put]
              refine Z_step (i := 10) (by kernel_rfl) rfl (fun K hK => ?_)
              go_simp
              refine hK _ _ (fun _ => hSZ) (Z_done (by kernel_rfl) ?_ _)
              clear hK K
              obtain ⟨WZ, hWZ⟩ : ∃ W, w5.setCells X 0 (cfL n (.slice qa (zi G').length qc) p q r t) = W := ⟨_, rfl⟩
              rw [hWZ] at hilZ hltZ rZ hbZ ⊢
              obtain ⟨gs', o', K', G2, S', z1, z2, z3, z4, z5, z6, z7, z8, z9, z10, z11, z12, z13, z14, z15⟩ := j6 rfl
              have hnc : (G', [p, q, r, t]) = nextC (gs, [a, b, c, d]) k1 g1 s1 := by
                have y1 : gs = gs' := zi_inj _ _ z1
                have y2 : [a, b, c, d] = o' := zi_inj _ _ z2
                unfold nextC
                rw [z3, z4, z5, Int.toNat_natCast, Int.toNat_natCast, Int.toNat_natCast, z12, ← j2, z13, y1, y2]
              have HF : Hid (Il WZ (.slice qa (zi G').length qc) (zi G') ∧ WZ.heap[X]? = some (.cells (cf ((m : Int) + 1) (.slice qa (zi G').length qc) p q r t) 29) ∧ Below w2.heap.size w2 WZ ∧ w2.heap.size ≤ X ∧ (∀ j, (Value.slice qa (zi G').length qc).ownBlock = some j → w2.heap.size ≤ j ∧ j < WZ.heap.size) ∧ (G', [p, q, r, t]) = nextC (gs, [a, b, c, d]) k1 g1 s1) := ⟨hilZ, by rw [← z11]; exact rZ, hbZ, hX, hltZ, hnc⟩
              clear hilZ hltZ rZ hbZ hWZ hSZ hS5 hb5 hil5 hlt5 hfr hzz hX hXn j1 j2 j3 j4 j4' j5 j6 j7 z1 z2 z3 z4 z5 z6 z7 z8 z9 z10 z11 z12 z13 z14 z15 hnc hS4 hb4 hbc
              go_wp2_with fail
              go_meet
              exact ⟨X, _, _, G', p, q, r, t, rfl, rfl, HF⟩
            · go_simp
              have hb3a := hb3.alloc hb3.size (.cells (cf 0 (.slice none 0 0) 0 0 0 0) 29)
              have hS3a := HSB.out _ hb3a
              have hs3a : (w3.alloc (.cells (cf 0 (.slice none 0 0) 0 0 0 0) 29)).heap.size = w3.heap.size + 1 := by simp
              have r3a := heap_alloc_new w3 (.cells (cf 0 (.slice none 0 0) 0 0 0 0) 29)
              have hX : w2.heap.size ≤ w3.heap.size := hb3.size
              obtain ⟨w3a, hw3a⟩ : ∃ W, w3.alloc (.cells (cf 0 (.slice none 0 0) 0 0 0 0) 29) = W := ⟨_, rfl⟩
              obtain ⟨X, hXX⟩ : ∃ X, w3.heap.size = X := ⟨_, rfl⟩
              rw [hw3a] at hb3a hS3a hs3a r3a ⊢
              rw [hXX] at hs3a r3a hX ⊢
              clear hw3a hXX
              refine hK _ _ (fun _ => hS3a) ?_
              clear hK K
              refine Z_step (i := 4) (by kernel_rfl) rfl (fun K hK => ?_)
              go_simp
              refine (HNx.out _ hb3a).mono ?_
              rintro e w4 ⟨x, rfl, v9, n, G', O', p, q, r, t, rfl, j1, j2, j3, j4, j4', j5, j6, j7⟩
              have hb4 := hb3a.trans (j5.mono hb3a.size)
              have hbc := hb3a.size
              have hS4 := HSB.out _ hb4
              obtain ⟨qa, qc, rfl⟩ := j1.slice
              have hzz := (j5.block X (by omega)).trans r3a
              have hXn : ∀ j, (Value.slice qa (zi G').length qc).ownBlock = some j → j ≠ X := fun j hj => by have := j4 j hj; omega
              refine hK _ _ (fun _ => hS4) ?_
              clear hK K
              refine Y_take (i := 5) (v := ?_) rfl (by kernel_rfl) (by kernel_rfl) (by kernel_rfl) (by kernel_rfl) (fun _ _ _ h => h) (by rfl) hS4 ?_ ?_
              rotate_left
              · (intro w' hSw; go_simp; (try with_reducible rfl))
              simp only [Act.put]
              refine Y_take (i := 6) (v := ?_) rfl (by kernel_rfl) (by kernel_rfl) (by kernel_rfl) (by kernel_rfl) (fun _ _ _ h => h) (by rfl) hS4 ?_ ?_
              rotate_left
              · (intro w' hSw; go_simp; (try with_reducible rfl))
              simp only [Act.put]
              refine Y_take (i := 7) (v := ?_) rfl (by kernel_rfl) (by kernel_rfl) (by kernel_rfl) (by kernel_rfl) (fun _ _ _ h => h) (by rfl) hS4 ?_ ?_
              rotate_left
              · (intro w' hSw; go_simp; (try with_reducible rfl))
              simp only [Act.put]
              have hb5 := hb4
              have hS5 := hS4
              have hil5 := j1
              have hlt5 := j4'
              obtain ⟨w5, hw5⟩ : ∃ W, w4 = W := ⟨_, rfl⟩
              rw [hw5] at hb5 hS5 hil5 hlt5 hzz ⊢
              clear hw5
              have hfr : ∀ j, (Value.slice qa (zi G').length qc).ownBlock = some j → w2.heap.size ≤ j := fun j hj => Nat.le_trans hbc (j4 j hj)
              refine Z_step (i := 9) (by kernel_rfl) rfl (fun K hK => ?_)
              refine step_store_mid (by rfl) 29 _ _ (by rfl) X 0 (cf n (.slice qa (zi G').length qc) p q r t) (by rfl) (by rfl) (blk_there hzz 0 6 (Nat.le_refl _)) Try.size29 (cf_ones _ _ _ _ _ _ _ _) ?_
              have hbZ := blk_below hX (cfL n (.slice qa (zi G').length qc) p q r t) 0 _ hb5
              have rZ := blk_set hzz (L := cfL n (.slice qa (zi G').length qc) p q r t) rfl
              have hilZ := Il_ne (o := 0) (L := cfL n (.slice qa (zi G').length qc) p q r t) hil5 hXn
              have hltZ : ∀ j, (Value.slice qa (zi G').length qc).ownBlock = some j → w2.heap.size ≤ j ∧ j < (w5.setCells X 0 (cfL n (.slice qa (zi G').length qc) p q r t)).heap.size := fun j hj => ⟨hfr j hj, by rw [blk_size]; exact hlt5 j hj⟩
              have hSZ := HSB.out _ hbZ
              refine hK _ _ (fun _ => hSZ) ?_
              clear hK K
              simp only [Act.put]
              refine Z_step (i := 10) (by kernel_rfl) rfl (fun K hK => ?_)
              go_simp
              refine hK _ _ (fun _ => hSZ) (Z_done (by kernel_rfl) ?_ _)
              clear hK K
              obtain ⟨WZ, hWZ⟩ : ∃ W, w5.setCells X 0 (cfL n (.slice qa (zi G').length qc) p q r t) = W := ⟨_, rfl⟩
              rw [hWZ] at hilZ hltZ rZ hbZ ⊢
              obtain ⟨gs', o', K', G2, S', z1, z2, z3, z4, z5, z6, z7, z8, z9, z10, z11, z12, z13, z14, z15⟩ := j6 rfl
              have hnc : (G', [p, q, r, t]) = nextC (gs, [a, b, c, d]) k1 g1 s1 := by
                have y1 : gs = gs' := zi_inj _ _ z1
                have y2 : [a, b, c, d] = o' := zi_inj _ _ z2
                unfold nextC
                rw [z3, z4, z5, Int.toNat_natCast, Int.toNat_natCast, Int.toNat_natCast, z12, ← j2, z13, y1, y2]
              have HF : Hid (Il WZ (.slice qa (zi G').length qc) (zi G') ∧ WZ.heap[X]? = some (.cells (cf ((m : Int) + 1) (.slice qa (zi G').length qc) p q r t) 29) ∧ Below w2.heap.size w2 WZ ∧ w2.heap.size ≤ X ∧ (∀ j, (Value.slice qa (zi G').length qc).ownBlock = some j → w2.heap.size ≤ j ∧ j < WZ.heap.size) ∧ (G', [p, q, r, t]) = nextC (gs, [a, b, c, d]) k1 g1 s1) := ⟨hilZ, by rw [← z11]; exact rZ, hbZ, hX, hltZ, hnc⟩
              clear hilZ hltZ rZ hbZ hWZ hSZ hS5 hb5 hil5 hlt5 hfr hzz hX hXn j1 j2 j3 j4 j4' j5 j6 j7 z1 z2 z3 z4 z5 z6 z7 z8 z9 z10 z11 z12 z13 z14 z15 hnc hS4 hb4 hbc
              go_wp2_with fail
              go_meet
              exact ⟨X, _, _, G', p, q, r, t, rfl, rfl, HF⟩
          · go_simp
            have hbDa := hbD.alloc hbD.size (.cells (cf 0 (.slice none 0 0) 0 0 0 0) 29)
            have hSDa := HSB.out _ hbDa
            have hsDa : (w2.drew.alloc (.cells (cf 0 (.slice none 0 0) 0 0 0 0) 29)).heap.size = w2.heap.size + 1 := by simp
            have rDa := heap_alloc_new w2.drew (.cells (cf 0 (.slice none 0 0) 0 0 0 0) 29)
            have hX : w2.heap.size ≤ w2.heap.size := Nat.le_refl _
            obtain ⟨wda, hwda⟩ : ∃ W, (w2.alloc (.cells (cf 0 (.slice none 0 0) 0 0 0 0) 29)).drew = W := ⟨_, rfl⟩
            have hwdb : w2.drew.alloc (.cells (cf 0 (.slice none 0 0) 0 0 0 0) 29) = wda := hwda
            obtain ⟨X, hXX⟩ : ∃ X, w2.heap.size = X := ⟨_, rfl⟩
            have hX2 : w2.heap.size ≤ X := Nat.le_of_eq hXX
            have hXd : w2.drew.heap.size = X := hXX
            rw [hwdb] at hbDa hSDa hsDa rDa
            rw [hwda]
            rw [hXX] at hsDa
            rw [hXd] at rDa
            first | rw [hXd] | rw [hXX] | skip
            clear hwda hwdb hXX hX hXd
            refine hK _ _ (fun _ => hSDa) ?_
            clear hK K
            refine Z_step (i := 3) (by kernel_rfl) rfl (fun K hK => ?_)
            go_simp
            refine (HRf.out _).mono ?_
            rintro e w3 ⟨rfl, hbr⟩
            have hb3 := hbDa.trans (hbr.mono hbDa.size)
            have hS3 := HSB.out _ hb3
            have r3 := (hbr.block X (by omega)).trans rDa
            have hs3 := hbr.size
            refine hK _ _ (fun _ => hS3) ?_
            clear hK K
            refine Z_step (i := 4) (by kernel_rfl) rfl (fun K hK => ?_)
            go_simp
            refine (HNx.out _ hb3).mono ?_
            rintro e w4 ⟨x, rfl, v9, n, G', O', p, q, r, t, rfl, j1, j2, j3, j4, j4', j5, j6, j7⟩
            have hb4 := hb3.trans (j5.mono hb3.size)
            have hbc := hb3.size
            have hS4 := HSB.out _ hb4
            obtain ⟨qa, qc, rfl⟩ := j1.slice
            have hzz := (j5.block X (by omega)).trans r3
            have hXn : ∀ j, (Value.slice qa (zi G').length qc).ownBlock = some j → j ≠ X := fun j hj => by have := j4 j hj; omega
            have hX := hX2
            refine hK _ _ (fun _ => hS4) ?_
            clear hK K
            refine Y_take (i := 5) (v := ?_) rfl (by kernel_rfl) (by kernel_rfl) (by kernel_rfl) (by kernel_rfl) (fun _ _ _ h => h) (by rfl) hS4 ?_ ?_
            rotate_left
            · (intro w' hSw; go_simp; (try with_reducible rfl))
            simp only [Act.put]
            refine Y_take (i := 6) (v := ?_) rfl (by kernel_rfl) (by kernel_rfl) (by kernel_rfl) (by kernel_rfl) (fun _ _ _ h => h) (by rfl) hS4 ?_ ?_
            rotate_left
            · (intro w' hSw; go_simp; (try with_reducible rfl))
            simp only [Act.put]
            refine Y_take (i := 7) (v := ?_) rfl (by kernel_rfl) (by kernel_rfl) (by kernel_rfl) (by kernel_rfl) (fun _ _ _ h => h) (by rfl) hS4 ?_ ?_
            rotate_left
            · (intro w' hSw; go_simp; (try with_reducible rfl))
            simp only [Act.put]
            have hb5 := hb4
            have hS5 := hS4
            have hil5 := j1
            have hlt5 := j4'
            obtain ⟨w5, hw5⟩ : ∃ W, w4 = W := ⟨_, rfl⟩
            rw [hw5] at hb5 hS5 hil5 hlt5 hzz ⊢
            clear hw5
            have hfr : ∀ j, (Value.slice qa (zi G').length qc).ownBlock = some j → w2.heap.size ≤ j := fun j hj => Nat.le_trans hbc (j4 j hj)
            refine Z_step (i := 9) (by kernel_rfl) rfl (fun K hK => ?_)
            refine step_store_mid (by rfl) 29 _ _ (by rfl) X 0 (cf n (.slice qa (zi G').length qc) p q r t) (by rfl) (by rfl) (blk_there hzz 0 6 (Nat.le_refl _)) Try.size29 (cf_ones _ _ _ _ _ _ _ _) ?_
            have hbZ := blk_below hX (cfL n (.slice qa (zi G').length qc) p q r t) 0 _ hb5
            have rZ := blk_set hzz (L := cfL n (.slice qa (zi G').length qc) p q r t) rfl
            have hilZ := Il_ne (o := 0) (L := cfL n (.slice qa (zi G').length qc) p q r t) hil5 hXn
            have hltZ : ∀ j, (Value.slice qa (zi G').length qc).ownBlock = some j → w2.heap.size ≤ j ∧ j < (w5.setCells X 0 (cfL n (.slice qa (zi G').length qc) p q r t)).heap.size := fun j hj => ⟨hfr j hj, by rw [blk_size]; exact hlt5 j hj⟩
            have hSZ := HSB.out _ hbZ
            refine hK _ _ (fun _ => hSZ) ?_
            clear hK K
            simp only [Act.put]
            refine Z_step (i := 10) (by kernel_rfl) rfl (fun K hK => ?_)
            go_simp
            refine hK _ _ (fun _ => hSZ) (Z_done (by kernel_rfl) ?_ _)
            clear hK K
            obtain ⟨WZ, hWZ⟩ : ∃ W, w5.setCells X 0 (cfL n (.slice qa (zi G').length qc) p q r t) = W := ⟨_, rfl⟩
            rw [hWZ] at hilZ hltZ rZ hbZ ⊢
            obtain ⟨gs', o', K', G2, S', z1, z2, z3, z4, z5, z6, z7, z8, z9, z10, z11, z12, z13, z14, z15⟩ := j6 rfl
            have hnc : (G', [p, q, r, t]) = nextC (gs, [a, b, c, d]) k1 g1 s1 := by
              have y1 : gs = gs' := zi_inj _ _ z1
              have y2 : [a, b, c, d] = o' := zi_inj _ _ z2
              unfold nextC
              rw [z3, z4, z5, Int.toNat_natCast, Int.toNat_natCast, Int.toNat_natCast, z12, ← j2, z13, y1, y2]
            have HF : Hid (Il WZ (.slice qa (zi G').length qc) (zi G') ∧ WZ.heap[X]? = some (.cells (cf ((m : Int) + 1) (.slice qa (zi G').length qc) p q r t) 29) ∧ Below w2.heap.size w2 WZ ∧ w2.heap.size ≤ X ∧ (∀ j, (Value.slice qa (zi G').length qc).ownBlock = some j → w2.heap.size ≤ j ∧ j < WZ.heap.size) ∧ (G', [p, q, r, t]) = nextC (gs, [a, b, c, d]) k1 g1 s1) := ⟨hilZ, by rw [← z11]; exact rZ, hbZ, hX, hltZ, hnc⟩
            clear hilZ hltZ rZ hbZ hWZ hSZ hS5 hb5 hil5 hlt5 hfr hzz hX hXn j1 j2 j3 j4 j4' j5 j6 j7 z1 z2 z3 z4 z5 z6 z7 z8 z9 z10 z11 z12 z13 z14 z15 hnc hS4 hb4 hbc
            go_wp2_with fail
            go_meet
            exact ⟨X, _, _, G', p, q, r, t, rfl, rfl, HF⟩
        case rest =>
          obtain ⟨X, qa, qc, G', p, q, r, t, rfl, rfl, HQ⟩ := hcut
          clear HNx HRf HSB
          obtain ⟨q1, q2, q3, q4, q5, q6⟩ := HQ.out
          have hRx := HR2.out.next q3
          have hKlt : K < w2.heap.size := (Array.getElem?_eq_some_iff.1 HR2.out.blk).1
          have hR3 := hRx.put (n' := ((m : Int) + 1)) (gv' := .slice qa (zi G').length qc) (gs' := G') (p := p) (q := q) (r := r) (t := t) q1 (fun k hk => ⟨fun ho => by have := (HR2.out.mt.own_lt ho).2; have := (q5 k hk).1; omega, by have := (q5 k hk).1; omega, (q5 k hk).2⟩)
          have K1 : Hid (wc.rangeAt X 0 (cfL ((m : Int) + 1) (.slice qa (zi G').length qc) p q r t)) := blk_range q2
          have K2 : Hid (wc.there K 0 6) := blk_there hRx.blk 0 6 (Nat.le_refl _)
          have HR3 : Hid (Rx w M B v2 ut2 L2 T2 CL K ((m : Int) + 1) (.slice qa (zi G').length qc) G' p q r t (wc.setCells K 0 (cfL ((m : Int) + 1) (.slice qa (zi G').length qc) p q r t))) := hR3
          have HQ6 : Hid ((G', [p, q, r, t]) = nextC (gs, [a, b, c, d]) k1 g1 s1) := q6
          clear q1 q2 q3 q4 q5 q6 hRx hKlt hR3 HQ
          go_upto_region 14 with fail
          go_upto_region 17 with (first
            | (refine wpList_load_mid rfl 29 _ rfl X 0 rfl (cfL ((m : Int) + 1) (.slice qa (zi G').length qc) p q r t) _ K1.out Try.underlying29 rfl Try.size29 ?_)
            | (refine wpList_store_mid rfl 29 _ _ rfl K 0 (cf ((m : Int) + 1) (.slice qa (zi G').length qc) p q r t) rfl rfl K2.out Try.size29 (cf_ones _ _ _ _ _ _ _ _) ?_))
          obtain ⟨W3, hW3⟩ : ∃ W, wc.setCells K 0 (cfL ((m : Int) + 1) (.slice qa (zi G').length qc) p q r t) = W := ⟨_, rfl⟩
          rw [hW3] at HR3
          first | rw [hW3] | skip
          obtain ⟨m2, hm2⟩ : ∃ m2 : Nat, m + 1 = m2 := ⟨_, rfl⟩
          have hm3 : (m : Int) + 1 = (m2 : Int) := by omega
          rw [hm3] at HR3
          have HRX : Hid (Rx w M B v2 ut2 L2 T2 CL K (m2 : Int) (.slice qa (zi G').length qc) G' p q r t W3) := HR3.out
          have HLM : Hid (L2.length = m2) := HC2.out.1.trans hm2
          have HCF : Hid (cfgAt L2 L2.length = (G', [p, q, r, t])) := HC2.out.2.trans HQ6.out.symm
          have HGV2 : Hid (∃ ha hc, (Value.slice qa (zi G').length qc) = .slice ha (zi G').length hc) := ⟨qa, qc, rfl⟩
          have HG4 : Hid (G'.length ≤ 4) := by
            have h1 := (cfg_mem HRX.out.mt.ch (Nat.le_refl L2.length)).1
            rw [HCF.out] at h1
            exact (conf_of h1).1
          clear hW3 hm2 hm3 HR3 K1 K2 z3
          obtain ⟨hmt, _, hbk, hil, _, _, _⟩ := HRX.out
          have hG4 : G'.length ≤ 4 := HG4.out
          have hGet : Calls Try.prog 11 #[.pointer (some ⟨M, 0, none⟩), .int .i64 (m2 : Int)] W3 fun e W' => ∃ ga' gc', e = .returned (.tuple #[.agg (cf (m2 : Int) (.slice ga' (zi G').length gc') p q r t), .int .i64 0]) ∧ Il W' (.slice ga' (zi G').length gc') (zi G') ∧ Below W3.heap.size W3 W' := by
            refine (MGet_ok m2 w.heap.size M B v2 ut2 L2 T2 CL W3 hmt (Nat.le_of_eq HLM.out.symm)).mono ?_
            rintro e W' ⟨x, rfl, u, a', b', c', d', i1, rfl, i3, i4, i5⟩
            rw [← HLM.out, HCF.out] at i1 i3
            obtain ⟨rfl, rfl, rfl, rfl⟩ := four_eq i1.symm
            obtain ⟨ga', gc', rfl⟩ := i3.slice
            exact ⟨ga', gc', rfl, i3, i5⟩
          have y0 := cellB hbk 0 _ rfl
          have HLs : Hid (∀ W, Below W3.heap.size W3 W → Calls Try.prog 7 #[.pointer (some ⟨M, 0, none⟩)] W fun e W' => ∃ la lc, e = .returned (.agg (cf (m2 : Int) (.slice la (zi G').length lc) p q r t)) ∧ Il W' (.slice la (zi G').length lc) (zi G') ∧ Below W.heap.size W W') := fun W hW => by
            refine (MLast_any w.heap.size M B v2 ut2 L2 T2 CL W (hmt.next hW)).mono ?_
            rintro e W' ⟨x, rfl, u, a', b', c', d', i1, rfl, i3, i4, i5⟩
            rw [HCF.out] at i1 i3
            obtain ⟨rfl, rfl, rfl, rfl⟩ := four_eq i1.symm
            obtain ⟨la, lc, rfl⟩ := i3.slice
            exact ⟨la, lc, by rw [HLM.out], i3, i5⟩
          have HKB : Hid (W3.heap[K]? = some (.cells (cf (m2 : Int) (.slice qa (zi G').length qc) p q r t) 29) ∧ K < W3.heap.size ∧ Il W3 (.slice qa (zi G').length qc) (zi G')) := ⟨hbk, (Array.getElem?_eq_some_iff.1 hbk).1, hil⟩
          clear hmt hbk hil
          go_upto_region 18 with (first
            | (go_at_call 11; refine hGet.mono ?_; rintro e w6 ⟨ga', gc', rfl, i3, i5⟩; have HI6 : Hid (Il w6 (.slice ga' (zi G').length gc') (zi G') ∧ Below W3.heap.size W3 w6) := ⟨i3, i5⟩; clear i3 i5))
          clear hGet y0
          obtain ⟨i3, i5⟩ := HI6.out
          obtain ⟨hbk, hKs, hil⟩ := HKB.out
          have hb7 := i5.alloc i5.size (.cells (cf (m2 : Int) (.slice ga' (zi G').length gc') p q r t) 34)
          have rY := heap_alloc_new w6 (.cells (cf (m2 : Int) (.slice ga' (zi G').length gc') p q r t) 34)
          have rK := (hb7.block K hKs).trans hbk
          have hil7 := i3.next ((Below.refl _ w6).alloc (Nat.le_refl _) (.cells (cf (m2 : Int) (.slice ga' (zi G').length gc') p q r t) 34))
          have hil8 := hil.next hb7
          have hYs : w6.heap.size < (w6.alloc (.cells (cf (m2 : Int) (.slice ga' (zi G').length gc') p q r t) 34)).heap.size := by simp
          obtain ⟨W7, hW7⟩ : ∃ W, w6.alloc (.cells (cf (m2 : Int) (.slice ga' (zi G').length gc') p q r t) 34) = W := ⟨_, rfl⟩
          obtain ⟨Y, hY⟩ : ∃ Y, w6.heap.size = Y := ⟨_, rfl⟩
          rw [hW7] at hb7 rY rK hil7 hil8 hYs ⊢
          rw [hY] at rY hYs ⊢
          have hK7 : K < W7.heap.size := Nat.lt_of_lt_of_le hKs hb7.size
          have HSC : Hid (∀ W, Below W7.heap.size W7 W → W.heap[Y]? = some (.cells (cf (m2 : Int) (.slice ga' (zi G').length gc') p q r t) 34) ∧ W.heap[K]? = some (.cells (cf (m2 : Int) (.slice qa (zi G').length qc) p q r t) 29)) := fun W hW => ⟨(hW.block Y hYs).trans rY, (hW.block K hK7).trans rK⟩
          have H7 : Hid (Below W3.heap.size W3 W7) := hb7
          have HI7 : Hid (Il W7 (.slice ga' (zi G').length gc') (zi G') ∧ Il W7 (.slice qa (zi G').length qc) (zi G')) := ⟨hil7, hil8⟩
          clear hb7 rY rK hil7 hil8 hYs hW7 hY hK7 i3 i5 hbk hKs hil HI6 HKB
          refine region_Z 99 (fun w' => w'.heap[Y]? = some (.cells (cf (m2 : Int) (.slice ga' (zi G').length gc') p q r t) 34) ∧ w'.heap[K]? = some (.cells (cf (m2 : Int) (.slice qa (zi G').length qc) p q r t) 29)) (by kernel_rfl) ?_
          have hbD : Below W7.heap.size W7 W7.drew := below_drew (Below.refl _ _)
          have hS0 := HSC.out _ hbD
          refine Y_take (i := 0) (v := ?_) rfl (by kernel_rfl) (by kernel_rfl) (by kernel_rfl) (by kernel_rfl) (fun _ _ _ h => h) (by rfl) hS0 ?_ ?_
          rotate_left
          · (intro w' hSw; go_simp; (try with_reducible rfl))
          simp only [Act.put, List.getElem_toArray, List.getElem_cons_zero, List.setIfInBounds_toArray, List.set_cons_succ, List.set_cons_zero]
          refine Y_take (i := 1) (v := ?_) rfl (by kernel_rfl) (by kernel_rfl) (by kernel_rfl) (by kernel_rfl) (fun _ _ _ h => h) (by rfl) hS0 ?_ ?_
          rotate_left
          · (intro w' hSw; go_simp; (try with_reducible rfl))
          simp only [Act.put, List.getElem_toArray, List.getElem_cons_succ, List.getElem_cons_zero, List.setIfInBounds_toArray, List.set_cons_succ, List.set_cons_zero]
          refine Y_take (i := 2) (v := ?_) rfl (by kernel_rfl) (by kernel_rfl) (by kernel_rfl) (by kernel_rfl) (fun _ _ _ h => h) (by rfl) hS0 ?_ ?_
          rotate_left
          · (intro w' hSw; go_simp; (try with_reducible rfl))
          simp only [Act.put, List.getElem_toArray, List.getElem_cons_succ, List.getElem_cons_zero, List.setIfInBounds_toArray, List.set_cons_succ, List.set_cons_zero]
          refine Y_take (i := 3) (v := ?_) rfl (by kernel_rfl) (by kernel_rfl) (by kernel_rfl) (by kernel_rfl) (fun _ _ _ h => h) (by rfl) hS0 ?_ ?_
          rotate_left
          · (intro w' hSw; have e0 := cellB hSw.1 0 _ rfl; have e1 := cellB hSw.1 1 _ rfl; have e2 := cellB hSw.1 2 _ rfl; have e3 := cellB hSw.1 3 _ rfl; have e4 := cellB hSw.1 4 _ rfl; have e5 := cellB hSw.1 5 _ rfl; have f0 := cellB hSw.2 0 _ rfl; have f1 := cellB hSw.2 1 _ rfl; have f2 := cellB hSw.2 2 _ rfl; have f3 := cellB hSw.2 3 _ rfl; have f4 := cellB hSw.2 4 _ rfl; have f5 := cellB hSw.2 5 _ rfl; go_simp; (try with_reducible rfl))
          simp only [Act.put, List.getElem_toArray, List.getElem_cons_succ, List.getElem_cons_zero, List.setIfInBounds_toArray, List.set_cons_succ, List.set_cons_zero]
          refine Y_take (i := 4) (v := ?_) rfl (by kernel_rfl) (by kernel_rfl) (by kernel_rfl) (by kernel_rfl) (fun _ _ _ h => h) (by rfl) hS0 ?_ ?_
          rotate_left
          · (intro w' hSw; have e0 := cellB hSw.1 0 _ rfl; have e1 := cellB hSw.1 1 _ rfl; have e2 := cellB hSw.1 2 _ rfl; have e3 := cellB hSw.1 3 _ rfl; have e4 := cellB hSw.1 4 _ rfl; have e5 := cellB hSw.1 5 _ rfl; have f0 := cellB hSw.2 0 _ rfl; have f1 := cellB hSw.2 1 _ rfl; have f2 := cellB hSw.2 2 _ rfl; have f3 := cellB hSw.2 3 _ rfl; have f4 := cellB hSw.2 4 _ rfl; have f5 := cellB hSw.2 5 _ rfl; go_simp; (try with_reducible rfl))
          simp only [Act.put, List.getElem_toArray, List.getElem_cons_succ, List.getElem_cons_zero, List.setIfInBounds_toArray, List.set_cons_succ, List.set_cons_zero]
          refine Z_step (i := 5) (by kernel_rfl) rfl (fun K' hK => ?_)
          go_simp
          refine (same_any (m2 : Int) (zi G') (.slice ga' (zi G').length gc') (.slice qa (zi G').length qc) p q r t _ (HI7.out.1.next hbD) (HI7.out.2.next hbD) (by rw [zi_len]; omega)).mono ?_
          rintro e w8 ⟨rfl, hb8'⟩
          have hb8 := hbD.trans (hb8'.mono hbD.size)
          have hS8 := HSC.out _ hb8
          refine hK _ _ (fun _ => hS8) ?_
          clear hK K'
          refine Y_take (i := 6) (v := ?_) rfl (by kernel_rfl) (by kernel_rfl) (by kernel_rfl) (by kernel_rfl) (fun _ _ _ h => h) (by rfl) hS8 ?_ ?_
          rotate_left
          · (intro w' hSw; go_simp; (try with_reducible rfl))
          simp only [Act.put, List.getElem_toArray, List.getElem_cons_succ, List.getElem_cons_zero, List.setIfInBounds_toArray, List.set_cons_succ, List.set_cons_zero]
          refine Y_take (i := 7) (v := ?_) rfl (by kernel_rfl) (by kernel_rfl) (by kernel_rfl) (by kernel_rfl) (fun _ _ _ h => h) (by rfl) hS8 ?_ ?_
          rotate_left
          · (intro w' hSw; go_simp; (try with_reducible rfl))
          simp only [Act.put, List.getElem_toArray, List.getElem_cons_succ, List.getElem_cons_zero, List.setIfInBounds_toArray, List.set_cons_succ, List.set_cons_zero]
          refine Y_take (i := 8) (v := ?_) rfl (by kernel_rfl) (by kernel_rfl) (by kernel_rfl) (by kernel_rfl) (fun _ _ _ h => h) (by rfl) hS8 ?_ ?_
          rotate_left
          · (intro w' hSw; go_simp; (try with_reducible rfl))
          simp only [Act.put, List.getElem_toArray, List.getElem_cons_succ, List.getElem_cons_zero, List.setIfInBounds_toArray, List.set_cons_succ, List.set_cons_zero]
          refine Y_take (i := 9) (v := ?_) rfl (by kernel_rfl) (by kernel_rfl) (by kernel_rfl) (by kernel_rfl) (fun _ _ _ h => h) (by rfl) hS8 ?_ ?_
          rotate_left
          · (intro w' hSw; go_simp; (try with_reducible rfl))
          simp only [Act.put, List.getElem_toArray, List.getElem_cons_succ, List.getElem_cons_zero, List.setIfInBounds_toArray, List.set_cons_succ, List.set_cons_zero]
          refine Y_take (i := 11) (v := ?_) rfl (by kernel_rfl) (by kernel_rfl) (by kernel_rfl) (by kernel_rfl) (fun _ _ _ h => h) (by rfl) hS8 ?_ ?_
          rotate_left
          · (intro w' hSw; have e0 := cellB hSw.1 0 _ rfl; have e1 := cellB hSw.1 1 _ rfl; have e2 := cellB hSw.1 2 _ rfl; have e3 := cellB hSw.1 3 _ rfl; have e4 := cellB hSw.1 4 _ rfl; have e5 := cellB hSw.1 5 _ rfl; have f0 := cellB hSw.2 0 _ rfl; have f1 := cellB hSw.2 1 _ rfl; have f2 := cellB hSw.2 2 _ rfl; have f3 := cellB hSw.2 3 _ rfl; have f4 := cellB hSw.2 4 _ rfl; have f5 := cellB hSw.2 5 _ rfl; go_simp; (try with_reducible rfl))
          simp only [Act.put, List.getElem_toArray, List.getElem_cons_succ, List.getElem_cons_zero, List.setIfInBounds_toArray, List.set_cons_succ, List.set_cons_zero]
          refine Z_step (i := 10) (by kernel_rfl) rfl (fun K' hK => ?_)
          go_simp
          refine (HLs.out _ (H7.out.trans (hb8.mono H7.out.size))).mono ?_
          rintro e w9 ⟨la, lc, rfl, hil9, hb9'⟩
          have hb9 := hb8.trans (hb9'.mono hb8.size)
          have hS9 := HSC.out _ hb9
          refine hK _ _ (fun _ => hS9) ?_
          clear hK K'
          refine Z_step (i := 12) (by kernel_rfl) rfl (fun K' hK => ?_)
          go_simp
          refine (same_any (m2 : Int) (zi G') (.slice la (zi G').length lc) (.slice qa (zi G').length qc) p q r t _ hil9 (HI7.out.2.next hb9) (by rw [zi_len]; omega)).mono ?_
          rintro e w10 ⟨rfl, hb10'⟩
          have hb10 := hb9.trans (hb10'.mono hb9.size)
          have hS10 := HSC.out _ hb10
          refine hK _ _ (fun _ => hS10) ?_
          clear hK K'
          refine Z_step (i := 13) (by kernel_rfl) rfl (fun K' hK => ?_)
          go_simp
          refine hK _ _ (fun _ => hS10) ?_
          clear hK K'
          refine Z_step (i := 14) (by kernel_rfl) rfl (fun K' hK => ?_)
          go_simp
          refine hK _ _ (fun _ => hS10) (Z_done (by kernel_rfl) ?_ _)
          clear hK K'
          have HBF : Hid (Below W3.heap.size W3 w10) := H7.out.trans (hb10.mono H7.out.size)
          clear hS0 hS8 hS9 hS10 hb8 hb9 hb10 hb8' hb9' hb10' hil9 hbD H7 HI7 HSC HLs
          go_wp2_with fail
          go_roundg (l.length - (j + 1))
          case measure => omega
          case rel => exact ⟨j + 1, v2, ut2, L2, T2, CL, _, G', p, q, r, t, by omega, by go_num, by rw [HLM.out]; exact HRX.out.next HBF.out, HCF.out, ⟨qa, qc, rfl⟩⟩
      · rcases hcase with hE | ⟨rfl, rfl⟩ | ⟨rfl, rfl, hA⟩
        · have hE1 : (E9 == 0) = false := by rw [beq_eq_false_iff_ne]; exact hE
          clear hE
          have hDo := MDo_told hR1.mt rfl hr
          have HML : Hid (moL (cls L) cl c1 n1 k1 g1 s1 = cls L) := hml
          clear hr hml hR1 rD1 hDs1
          go_upto_region 10 with (first
            | (go_at_call 8; refine hDo.mono ?_; rintro e w2 ⟨rfl, v2, ut2, L2, T2, d1, d2, d3⟩; have rD2 := (d3.block Dk HRD1.out.2 HRD.out.2.1).trans HRD1.out.1; have HR2 : Hid (Rx w M B v2 ut2 L2 T2 (moC (cls L) cl c1 n1 k1 g1 s1) K (m : Int) gv gs a b c d w2) := HR1.out.did d2 d3; have HD2 : Hid (w2.heap[Dk]? = some (.cells #[.int .i64 c1, .int .i64 n1, .int .i64 k1, .int .i64 g1, .int .i64 s1] 33) ∧ ¬ MOwn M B v2 ut2 L2 Dk) := ⟨rD2, fun e => (d3.new Dk e).elim HRD.out.2.1 (fun q => by have := HRD1.out.2; omega)⟩; have HCL2 : Hid (cls L2 = moL (cls L) cl c1 n1 k1 g1 s1) := d1; clear rD2 d1 d2 d3))
          obtain ⟨CL, hCL⟩ : ∃ CL, moC (cls L) cl c1 n1 k1 g1 s1 = CL := ⟨_, rfl⟩
          rw [hCL] at HR2
          clear hDo f0 f1 f2 f3 f4 hCL
          obtain ⟨WB, rfl⟩ : ∃ WB, WB = wr := ⟨_, rfl⟩
          obtain ⟨hl2, hc2⟩ := cfg_same (HCL2.out.trans HML.out)
          rw [HCFG.out] at hc2
          rw [HLM0.out] at hl2
          have hLa2 := MLast_any _ M B v2 ut2 L2 T2 CL _ HR2.out.mt
          rw [hl2] at hLa2
          have HLM : Hid (L2.length = m) := hl2
          have HCF : Hid (cfgAt L2 L2.length = (gs, [a, b, c, d])) := hc2
          clear hl2 hc2
          go_upto_region 17 with (first
            | (go_at_call 7; refine hLa2.mono ?_; rintro e w3 ⟨x, rfl, u6, a6, b6, c6, d6, q1, rfl, q3, q4, q5⟩; have HB3 : Hid (Below w2.heap.size w2 w3) := q5; obtain ⟨xa, xc, rfl⟩ := q3.slice; clear q1 q4 q5))
          clear hLa2 q3 z3
          have HRX : Hid (Rx w M B v2 ut2 L2 T2 CL K (m : Int) gv gs a b c d w3) := HR2.out.next HB3.out
          have HGV2 : Hid (∃ ha hc, gv = .slice ha (zi gs).length hc) := HGV.out
          have HG4 : Hid (gs.length ≤ 4) := HG40.out
          clear HGV
          obtain ⟨hmt, _, hbk, hil, _, _, _⟩ := HRX.out
          have hG4 : gs.length ≤ 4 := HG4.out
          have hGet : Calls Try.prog 11 #[.pointer (some ⟨M, 0, none⟩), .int .i64 (m : Int)] w3 fun e W' => ∃ ga' gc', e = .returned (.tuple #[.agg (cf (m : Int) (.slice ga' (zi gs).length gc') a b c d), .int .i64 0]) ∧ Il W' (.slice ga' (zi gs).length gc') (zi gs) ∧ Below w3.heap.size w3 W' := by
            refine (MGet_ok m w.heap.size M B v2 ut2 L2 T2 CL w3 hmt (Nat.le_of_eq HLM.out.symm)).mono ?_
            rintro e W' ⟨x, rfl, u, a', b', c', d', i1, rfl, i3, i4, i5⟩
            rw [← HLM.out, HCF.out] at i1 i3
            obtain ⟨rfl, rfl, rfl, rfl⟩ := four_eq i1.symm
            obtain ⟨ga', gc', rfl⟩ := i3.slice
            exact ⟨ga', gc', rfl, i3, i5⟩
          have y0 := cellB hbk 0 _ rfl
          have HLs : Hid (∀ W, Below w3.heap.size w3 W → Calls Try.prog 7 #[.pointer (some ⟨M, 0, none⟩)] W fun e W' => ∃ la lc, e = .returned (.agg (cf (m : Int) (.slice la (zi gs).length lc) a b c d)) ∧ Il W' (.slice la (zi gs).length lc) (zi gs) ∧ Below W.heap.size W W') := fun W hW => by
            refine (MLast_any w.heap.size M B v2 ut2 L2 T2 CL W (hmt.next hW)).mono ?_
            rintro e W' ⟨x, rfl, u, a', b', c', d', i1, rfl, i3, i4, i5⟩
            rw [HCF.out] at i1 i3
            obtain ⟨rfl, rfl, rfl, rfl⟩ := four_eq i1.symm
            obtain ⟨la, lc, rfl⟩ := i3.slice
            exact ⟨la, lc, by rw [HLM.out], i3, i5⟩
          have HKB : Hid (w3.heap[K]? = some (.cells (cf (m : Int) gv a b c d) 29) ∧ K < w3.heap.size ∧ Il w3 gv (zi gs)) := ⟨hbk, (Array.getElem?_eq_some_iff.1 hbk).1, hil⟩
          clear hmt hbk hil
          go_upto_region 18 with (first
            | (go_at_call 11; refine hGet.mono ?_; rintro e w6 ⟨ga', gc', rfl, i3, i5⟩; have HI6 : Hid (Il w6 (.slice ga' (zi gs).length gc') (zi gs) ∧ Below w3.heap.size w3 w6) := ⟨i3, i5⟩; clear i3 i5))
          clear hGet y0
          obtain ⟨i3, i5⟩ := HI6.out
          obtain ⟨hbk, hKs, hil⟩ := HKB.out
          have hb7 := i5.alloc i5.size (.cells (cf (m : Int) (.slice ga' (zi gs).length gc') a b c d) 34)
          have rY := heap_alloc_new w6 (.cells (cf (m : Int) (.slice ga' (zi gs).length gc') a b c d) 34)
          have rK := (hb7.block K hKs).trans hbk
          have hil7 := i3.next ((Below.refl _ w6).alloc (Nat.le_refl _) (.cells (cf (m : Int) (.slice ga' (zi gs).length gc') a b c d) 34))
          have hil8 := hil.next hb7
          have hYs : w6.heap.size < (w6.alloc (.cells (cf (m : Int) (.slice ga' (zi gs).length gc') a b c d) 34)).heap.size := by simp
          obtain ⟨W7, hW7⟩ : ∃ W, w6.alloc (.cells (cf (m : Int) (.slice ga' (zi gs).length gc') a b c d) 34) = W := ⟨_, rfl⟩
          obtain ⟨Y, hY⟩ : ∃ Y, w6.heap.size = Y := ⟨_, rfl⟩
          rw [hW7] at hb7 rY rK hil7 hil8 hYs ⊢
          rw [hY] at rY hYs ⊢
          have hK7 : K < W7.heap.size := Nat.lt_of_lt_of_le hKs hb7.size
          have HSC : Hid (∀ W, Below W7.heap.size W7 W → W.heap[Y]? = some (.cells (cf (m : Int) (.slice ga' (zi gs).length gc') a b c d) 34) ∧ W.heap[K]? = some (.cells (cf (m : Int) gv a b c d) 29)) := fun W hW => ⟨(hW.block Y hYs).trans rY, (hW.block K hK7).trans rK⟩
          have H7 : Hid (Below w3.heap.size w3 W7) := hb7
          have HI7 : Hid (Il W7 (.slice ga' (zi gs).length gc') (zi gs) ∧ Il W7 gv (zi gs)) := ⟨hil7, hil8⟩
          clear hb7 rY rK hil7 hil8 hYs hW7 hY hK7 i3 i5 hbk hKs hil HI6 HKB
          obtain ⟨ha, hc, hgv⟩ := HGV2.out
          subst hgv
          refine region_Z 99 (fun w' => w'.heap[Y]? = some (.cells (cf (m : Int) (.slice ga' (zi gs).length gc') a b c d) 34) ∧ w'.heap[K]? = some (.cells (cf (m : Int) (.slice ha (zi gs).length hc) a b c d) 29)) (by kernel_rfl) ?_
          have hbD : Below W7.heap.size W7 W7.drew := below_drew (Below.refl _ _)
          have hS0 := HSC.out _ hbD
          refine Y_take (i := 0) (v := ?_) rfl (by kernel_rfl) (by kernel_rfl) (by kernel_rfl) (by kernel_rfl) (fun _ _ _ h => h) (by rfl) hS0 ?_ ?_
          rotate_left
          · (intro w' hSw; go_simp; (try with_reducible rfl))
          simp only [Act.put, List.getElem_toArray, List.getElem_cons_zero, List.setIfInBounds_toArray, List.set_cons_succ, List.set_cons_zero]
          refine Y_take (i := 1) (v := ?_) rfl (by kernel_rfl) (by kernel_rfl) (by kernel_rfl) (by kernel_rfl) (fun _ _ _ h => h) (by rfl) hS0 ?_ ?_
          rotate_left
          · (intro w' hSw; go_simp; (try with_reducible rfl))
          simp only [Act.put, List.getElem_toArray, List.getElem_cons_succ, List.getElem_cons_zero, List.setIfInBounds_toArray, List.set_cons_succ, List.set_cons_zero]
          refine Y_take (i := 2) (v := ?_) rfl (by kernel_rfl) (by kernel_rfl) (by kernel_rfl) (by kernel_rfl) (fun _ _ _ h => h) (by rfl) hS0 ?_ ?_
          rotate_left
          · (intro w' hSw; go_simp; (try with_reducible rfl))
          simp only [Act.put, List.getElem_toArray, List.getElem_cons_succ, List.getElem_cons_zero, List.setIfInBounds_toArray, List.set_cons_succ, List.set_cons_zero]
          refine Y_take (i := 3) (v := ?_) rfl (by kernel_rfl) (by kernel_rfl) (by kernel_rfl) (by kernel_rfl) (fun _ _ _ h => h) (by rfl) hS0 ?_ ?_
          rotate_left
          · (intro w' hSw; have e0 := cellB hSw.1 0 _ rfl; have e1 := cellB hSw.1 1 _ rfl; have e2 := cellB hSw.1 2 _ rfl; have e3 := cellB hSw.1 3 _ rfl; have e4 := cellB hSw.1 4 _ rfl; have e5 := cellB hSw.1 5 _ rfl; have f0 := cellB hSw.2 0 _ rfl; have f1 := cellB hSw.2 1 _ rfl; have f2 := cellB hSw.2 2 _ rfl; have f3 := cellB hSw.2 3 _ rfl; have f4 := cellB hSw.2 4 _ rfl; have f5 := cellB hSw.2 5 _ rfl; go_simp; (try with_reducible rfl))
          simp only [Act.put, List.getElem_toArray, List.getElem_cons_succ, List.getElem_cons_zero, List.setIfInBounds_toArray, List.set_cons_succ, List.set_cons_zero]
          refine Y_take (i := 4) (v := ?_) rfl (by kernel_rfl) (by kernel_rfl) (by kernel_rfl) (by kernel_rfl) (fun _ _ _ h => h) (by rfl) hS0 ?_ ?_
          rotate_left
          · (intro w' hSw; have e0 := cellB hSw.1 0 _ rfl; have e1 := cellB hSw.1 1 _ rfl; have e2 := cellB hSw.1 2 _ rfl; have e3 := cellB hSw.1 3 _ rfl; have e4 := cellB hSw.1 4 _ rfl; have e5 := cellB hSw.1 5 _ rfl; have f0 := cellB hSw.2 0 _ rfl; have f1 := cellB hSw.2 1 _ rfl; have f2 := cellB hSw.2 2 _ rfl; have f3 := cellB hSw.2 3 _ rfl; have f4 := cellB hSw.2 4 _ rfl; have f5 := cellB hSw.2 5 _ rfl; go_simp; (try with_reducible rfl))
          simp only [Act.put, List.getElem_toArray, List.getElem_cons_succ, List.getElem_cons_zero, List.setIfInBounds_toArray, List.set_cons_succ, List.set_cons_zero]
          refine Z_step (i := 5) (by kernel_rfl) rfl (fun K' hK => ?_)
          go_simp
          refine (same_any (m : Int) (zi gs) (.slice ga' (zi gs).length gc') (.slice ha (zi gs).length hc) a b c d _ (HI7.out.1.next hbD) (HI7.out.2.next hbD) (by rw [zi_len]; omega)).mono ?_
          rintro e w8 ⟨rfl, hb8'⟩
          have hb8 := hbD.trans (hb8'.mono hbD.size)
          have hS8 := HSC.out _ hb8
          refine hK _ _ (fun _ => hS8) ?_
          clear hK K'
          refine Y_take (i := 6) (v := ?_) rfl (by kernel_rfl) (by kernel_rfl) (by kernel_rfl) (by kernel_rfl) (fun _ _ _ h => h) (by rfl) hS8 ?_ ?_
          rotate_left
          · (intro w' hSw; go_simp; (try with_reducible rfl))
          simp only [Act.put, List.getElem_toArray, List.getElem_cons_succ, List.getElem_cons_zero, List.setIfInBounds_toArray, List.set_cons_succ, List.set_cons_zero]
          refine Y_take (i := 7) (v := ?_) rfl (by kernel_rfl) (by kernel_rfl) (by kernel_rfl) (by kernel_rfl) (fun _ _ _ h => h) (by rfl) hS8 ?_ ?_
          rotate_left
          · (intro w' hSw; go_simp; (try with_reducible rfl))
          simp only [Act.put, List.getElem_toArray, List.getElem_cons_succ, List.getElem_cons_zero, List.setIfInBounds_toArray, List.set_cons_succ, List.set_cons_zero]
          refine Y_take (i := 8) (v := ?_) rfl (by kernel_rfl) (by kernel_rfl) (by kernel_rfl) (by kernel_rfl) (fun _ _ _ h => h) (by rfl) hS8 ?_ ?_
          rotate_left
          · (intro w' hSw; go_simp; (try with_reducible rfl))
          simp only [Act.put, List.getElem_toArray, List.getElem_cons_succ, List.getElem_cons_zero, List.setIfInBounds_toArray, List.set_cons_succ, List.set_cons_zero]
          refine Y_take (i := 9) (v := ?_) rfl (by kernel_rfl) (by kernel_rfl) (by kernel_rfl) (by kernel_rfl) (fun _ _ _ h => h) (by rfl) hS8 ?_ ?_
          rotate_left
          · (intro w' hSw; go_simp; (try with_reducible rfl))
          simp only [Act.put, List.getElem_toArray, List.getElem_cons_succ, List.getElem_cons_zero, List.setIfInBounds_toArray, List.set_cons_succ, List.set_cons_zero]
          refine Y_take (i := 11) (v := ?_) rfl (by kernel_rfl) (by kernel_rfl) (by kernel_rfl) (by kernel_rfl) (fun _ _ _ h => h) (by rfl) hS8 ?_ ?_
          rotate_left
          · (intro w' hSw; have e0 := cellB hSw.1 0 _ rfl; have e1 := cellB hSw.1 1 _ rfl; have e2 := cellB hSw.1 2 _ rfl; have e3 := cellB hSw.1 3 _ rfl; have e4 := cellB hSw.1 4 _ rfl; have e5 := cellB hSw.1 5 _ rfl; have f0 := cellB hSw.2 0 _ rfl; have f1 := cellB hSw.2 1 _ rfl; have f2 := cellB hSw.2 2 _ rfl; have f3 := cellB hSw.2 3 _ rfl; have f4 := cellB hSw.2 4 _ rfl; have f5 := cellB hSw.2 5 _ rfl; go_simp; (try with_reducible rfl))
          simp only [Act.put, List.getElem_toArray, List.getElem_cons_succ, List.getElem_cons_zero, List.setIfInBounds_toArray, List.set_cons_succ, List.set_cons_zero]
          refine Z_step (i := 10) (by kernel_rfl) rfl (fun K' hK => ?_)
          go_simp
          refine (HLs.out _ (H7.out.trans (hb8.mono H7.out.size))).mono ?_
          rintro e w9 ⟨la, lc, rfl, hil9, hb9'⟩
          have hb9 := hb8.trans (hb9'.mono hb8.size)
          have hS9 := HSC.out _ hb9
          refine hK _ _ (fun _ => hS9) ?_
          clear hK K'
          refine Z_step (i := 12) (by kernel_rfl) rfl (fun K' hK => ?_)
          go_simp
          refine (same_any (m : Int) (zi gs) (.slice la (zi gs).length lc) (.slice ha (zi gs).length hc) a b c d _ hil9 (HI7.out.2.next hb9) (by rw [zi_len]; omega)).mono ?_
          rintro e w10 ⟨rfl, hb10'⟩
          have hb10 := hb9.trans (hb10'.mono hb9.size)
          have hS10 := HSC.out _ hb10
          refine hK _ _ (fun _ => hS10) ?_
          clear hK K'
          refine Z_step (i := 13) (by kernel_rfl) rfl (fun K' hK => ?_)
          go_simp
          refine hK _ _ (fun _ => hS10) ?_
          clear hK K'
          refine Z_step (i := 14) (by kernel_rfl) rfl (fun K' hK => ?_)
          go_simp
          refine hK _ _ (fun _ => hS10) (Z_done (by kernel_rfl) ?_ _)
          clear hK K'
          have HBF : Hid (Below w3.heap.size w3 w10) := H7.out.trans (hb10.mono H7.out.size)
          clear hS0 hS8 hS9 hS10 hb8 hb9 hb10 hb8' hb9' hb10' hil9 hbD H7 HI7 HSC HLs
          go_wp2_with fail
          go_roundg (l.length - (j + 1))
          case measure => omega
          case rel => exact ⟨j + 1, v2, ut2, L2, T2, CL, _, gs, a, b, c, d, by omega, by go_num, by rw [HLM.out]; exact HRX.out.next HBF.out, HCF.out, ⟨ha, hc, rfl⟩⟩
        · have hDo := MDo_told hR1.mt rfl hr
          have HML : Hid (moL (cls L) cl c1 n1 k1 g1 s1 = cls L) := hml
          clear hr hml hR1 rD1 hDs1
          go_upto_region 10 with (first
            | (go_at_call 8; refine hDo.mono ?_; rintro e w2 ⟨rfl, v2, ut2, L2, T2, d1, d2, d3⟩; have rD2 := (d3.block Dk HRD1.out.2 HRD.out.2.1).trans HRD1.out.1; have HR2 : Hid (Rx w M B v2 ut2 L2 T2 (moC (cls L) cl c1 n1 k1 g1 s1) K (m : Int) gv gs a b c d w2) := HR1.out.did d2 d3; have HD2 : Hid (w2.heap[Dk]? = some (.cells #[.int .i64 c1, .int .i64 n1, .int .i64 k1, .int .i64 g1, .int .i64 s1] 33) ∧ ¬ MOwn M B v2 ut2 L2 Dk) := ⟨rD2, fun e => (d3.new Dk e).elim HRD.out.2.1 (fun q => by have := HRD1.out.2; omega)⟩; have HCL2 : Hid (cls L2 = moL (cls L) cl c1 n1 k1 g1 s1) := d1; clear rD2 d1 d2 d3))
          obtain ⟨CL, hCL⟩ : ∃ CL, moC (cls L) cl c1 n1 k1 g1 s1 = CL := ⟨_, rfl⟩
          rw [hCL] at HR2
          clear hDo f0 f1 f2 f3 f4 hCL
          obtain ⟨WB, rfl⟩ : ∃ WB, WB = wr := ⟨_, rfl⟩
          obtain ⟨hl2, hc2⟩ := cfg_same (HCL2.out.trans HML.out)
          rw [HCFG.out] at hc2
          rw [HLM0.out] at hl2
          have hLa2 := MLast_any _ M B v2 ut2 L2 T2 CL _ HR2.out.mt
          rw [hl2] at hLa2
          have HLM : Hid (L2.length = m) := hl2
          have HCF : Hid (cfgAt L2 L2.length = (gs, [a, b, c, d])) := hc2
          clear hl2 hc2
          go_upto_region 17 with (first
            | (go_at_call 7; refine hLa2.mono ?_; rintro e w3 ⟨x, rfl, u6, a6, b6, c6, d6, q1, rfl, q3, q4, q5⟩; have HB3 : Hid (Below w2.heap.size w2 w3) := q5; obtain ⟨xa, xc, rfl⟩ := q3.slice; clear q1 q4 q5))
          clear hLa2 q3 z3
          have HRX : Hid (Rx w M B v2 ut2 L2 T2 CL K (m : Int) gv gs a b c d w3) := HR2.out.next HB3.out
          have HGV2 : Hid (∃ ha hc, gv = .slice ha (zi gs).length hc) := HGV.out
          have HG4 : Hid (gs.length ≤ 4) := HG40.out
          clear HGV
          obtain ⟨hmt, _, hbk, hil, _, _, _⟩ := HRX.out
          have hG4 : gs.length ≤ 4 := HG4.out
          have hGet : Calls Try.prog 11 #[.pointer (some ⟨M, 0, none⟩), .int .i64 (m : Int)] w3 fun e W' => ∃ ga' gc', e = .returned (.tuple #[.agg (cf (m : Int) (.slice ga' (zi gs).length gc') a b c d), .int .i64 0]) ∧ Il W' (.slice ga' (zi gs).length gc') (zi gs) ∧ Below w3.heap.size w3 W' := by
            refine (MGet_ok m w.heap.size M B v2 ut2 L2 T2 CL w3 hmt (Nat.le_of_eq HLM.out.symm)).mono ?_
            rintro e W' ⟨x, rfl, u, a', b', c', d', i1, rfl, i3, i4, i5⟩
            rw [← HLM.out, HCF.out] at i1 i3
            obtain ⟨rfl, rfl, rfl, rfl⟩ := four_eq i1.symm
            obtain ⟨ga', gc', rfl⟩ := i3.slice
            exact ⟨ga', gc', rfl, i3, i5⟩
          have y0 := cellB hbk 0 _ rfl
          have HLs : Hid (∀ W, Below w3.heap.size w3 W → Calls Try.prog 7 #[.pointer (some ⟨M, 0, none⟩)] W fun e W' => ∃ la lc, e = .returned (.agg (cf (m : Int) (.slice la (zi gs).length lc) a b c d)) ∧ Il W' (.slice la (zi gs).length lc) (zi gs) ∧ Below W.heap.size W W') := fun W hW => by
            refine (MLast_any w.heap.size M B v2 ut2 L2 T2 CL W (hmt.next hW)).mono ?_
            rintro e W' ⟨x, rfl, u, a', b', c', d', i1, rfl, i3, i4, i5⟩
            rw [HCF.out] at i1 i3
            obtain ⟨rfl, rfl, rfl, rfl⟩ := four_eq i1.symm
            obtain ⟨la, lc, rfl⟩ := i3.slice
            exact ⟨la, lc, by rw [HLM.out], i3, i5⟩
          have HKB : Hid (w3.heap[K]? = some (.cells (cf (m : Int) gv a b c d) 29) ∧ K < w3.heap.size ∧ Il w3 gv (zi gs)) := ⟨hbk, (Array.getElem?_eq_some_iff.1 hbk).1, hil⟩
          clear hmt hbk hil
          go_upto_region 18 with (first
            | (go_at_call 11; refine hGet.mono ?_; rintro e w6 ⟨ga', gc', rfl, i3, i5⟩; have HI6 : Hid (Il w6 (.slice ga' (zi gs).length gc') (zi gs) ∧ Below w3.heap.size w3 w6) := ⟨i3, i5⟩; clear i3 i5))
          clear hGet y0
          obtain ⟨i3, i5⟩ := HI6.out
          obtain ⟨hbk, hKs, hil⟩ := HKB.out
          have hb7 := i5.alloc i5.size (.cells (cf (m : Int) (.slice ga' (zi gs).length gc') a b c d) 34)
          have rY := heap_alloc_new w6 (.cells (cf (m : Int) (.slice ga' (zi gs).length gc') a b c d) 34)
          have rK := (hb7.block K hKs).trans hbk
          have hil7 := i3.next ((Below.refl _ w6).alloc (Nat.le_refl _) (.cells (cf (m : Int) (.slice ga' (zi gs).length gc') a b c d) 34))
          have hil8 := hil.next hb7
          have hYs : w6.heap.size < (w6.alloc (.cells (cf (m : Int) (.slice ga' (zi gs).length gc') a b c d) 34)).heap.size := by simp
          obtain ⟨W7, hW7⟩ : ∃ W, w6.alloc (.cells (cf (m : Int) (.slice ga' (zi gs).length gc') a b c d) 34) = W := ⟨_, rfl⟩
          obtain ⟨Y, hY⟩ : ∃ Y, w6.heap.size = Y := ⟨_, rfl⟩
          rw [hW7] at hb7 rY rK hil7 hil8 hYs ⊢
          rw [hY] at rY hYs ⊢
          have hK7 : K < W7.heap.size := Nat.lt_of_lt_of_le hKs hb7.size
          have HSC : Hid (∀ W, Below W7.heap.size W7 W → W.heap[Y]? = some (.cells (cf (m : Int) (.slice ga' (zi gs).length gc') a b c d) 34) ∧ W.heap[K]? = some (.cells (cf (m : Int) gv a b c d) 29)) := fun W hW => ⟨(hW.block Y hYs).trans rY, (hW.block K hK7).trans rK⟩
          have H7 : Hid (Below w3.heap.size w3 W7) := hb7
          have HI7 : Hid (Il W7 (.slice ga' (zi gs).length gc') (zi gs) ∧ Il W7 gv (zi gs)) := ⟨hil7, hil8⟩
          clear hb7 rY rK hil7 hil8 hYs hW7 hY hK7 i3 i5 hbk hKs hil HI6 HKB
          obtain ⟨ha, hc, hgv⟩ := HGV2.out
          subst hgv
          refine region_Z 99 (fun w' => w'.heap[Y]? = some (.cells (cf (m : Int) (.slice ga' (zi gs).length gc') a b c d) 34) ∧ w'.heap[K]? = some (.cells (cf (m : Int) (.slice ha (zi gs).length hc) a b c d) 29)) (by kernel_rfl) ?_
          have hbD : Below W7.heap.size W7 W7.drew := below_drew (Below.refl _ _)
          have hS0 := HSC.out _ hbD
          refine Y_take (i := 0) (v := ?_) rfl (by kernel_rfl) (by kernel_rfl) (by kernel_rfl) (by kernel_rfl) (fun _ _ _ h => h) (by rfl) hS0 ?_ ?_
          rotate_left
          · (intro w' hSw; go_simp; (try with_reducible rfl))
          simp only [Act.put, List.getElem_toArray, List.getElem_cons_zero, List.setIfInBounds_toArray, List.set_cons_succ, List.set_cons_zero]
          refine Y_take (i := 1) (v := ?_) rfl (by kernel_rfl) (by kernel_rfl) (by kernel_rfl) (by kernel_rfl) (fun _ _ _ h => h) (by rfl) hS0 ?_ ?_
          rotate_left
          · (intro w' hSw; go_simp; (try with_reducible rfl))
          simp only [Act.put, List.getElem_toArray, List.getElem_cons_succ, List.getElem_cons_zero, List.setIfInBounds_toArray, List.set_cons_succ, List.set_cons_zero]
          refine Y_take (i := 2) (v := ?_) rfl (by kernel_rfl) (by kernel_rfl) (by kernel_rfl) (by kernel_rfl) (fun _ _ _ h => h) (by rfl) hS0 ?_ ?_
          rotate_left
          · (intro w' hSw; go_simp; (try with_reducible rfl))
          simp only [Act.put, List.getElem_toArray, List.getElem_cons_succ, List.getElem_cons_zero, List.setIfInBounds_toArray, List.set_cons_succ, List.set_cons_zero]
          refine Y_take (i := 3) (v := ?_) rfl (by kernel_rfl) (by kernel_rfl) (by kernel_rfl) (by kernel_rfl) (fun _ _ _ h => h) (by rfl) hS0 ?_ ?_
          rotate_left
          · (intro w' hSw; have e0 := cellB hSw.1 0 _ rfl; have e1 := cellB hSw.1 1 _ rfl; have e2 := cellB hSw.1 2 _ rfl; have e3 := cellB hSw.1 3 _ rfl; have e4 := cellB hSw.1 4 _ rfl; have e5 := cellB hSw.1 5 _ rfl; have f0 := cellB hSw.2 0 _ rfl; have f1 := cellB hSw.2 1 _ rfl; have f2 := cellB hSw.2 2 _ rfl; have f3 := cellB hSw.2 3 _ rfl; have f4 := cellB hSw.2 4 _ rfl; have f5 := cellB hSw.2 5 _ rfl; go_simp; (try with_reducible rfl))
          simp only [Act.put, List.getElem_toArray, List.getElem_cons_succ, List.getElem_cons_zero, List.setIfInBounds_toArray, List.set_cons_succ, List.set_cons_zero]
          refine Y_take (i := 4) (v := ?_) rfl (by kernel_rfl) (by kernel_rfl) (by kernel_rfl) (by kernel_rfl) (fun _ _ _ h => h) (by rfl) hS0 ?_ ?_
          rotate_left
          · (intro w' hSw; have e0 := cellB hSw.1 0 _ rfl; have e1 := cellB hSw.1 1 _ rfl; have e2 := cellB hSw.1 2 _ rfl; have e3 := cellB hSw.1 3 _ rfl; have e4 := cellB hSw.1 4 _ rfl; have e5 := cellB hSw.1 5 _ rfl; have f0 := cellB hSw.2 0 _ rfl; have f1 := cellB hSw.2 1 _ rfl; have f2 := cellB hSw.2 2 _ rfl; have f3 := cellB hSw.2 3 _ rfl; have f4 := cellB hSw.2 4 _ rfl; have f5 := cellB hSw.2 5 _ rfl; go_simp; (try with_reducible rfl))
          simp only [Act.put, List.getElem_toArray, List.getElem_cons_succ, List.getElem_cons_zero, List.setIfInBounds_toArray, List.set_cons_succ, List.set_cons_zero]
          refine Z_step (i := 5) (by kernel_rfl) rfl (fun K' hK => ?_)
          go_simp
          refine (same_any (m : Int) (zi gs) (.slice ga' (zi gs).length gc') (.slice ha (zi gs).length hc) a b c d _ (HI7.out.1.next hbD) (HI7.out.2.next hbD) (by rw [zi_len]; omega)).mono ?_
          rintro e w8 ⟨rfl, hb8'⟩
          have hb8 := hbD.trans (hb8'.mono hbD.size)
          have hS8 := HSC.out _ hb8
          refine hK _ _ (fun _ => hS8) ?_
          clear hK K'
          refine Y_take (i := 6) (v := ?_) rfl (by kernel_rfl) (by kernel_rfl) (by kernel_rfl) (by kernel_rfl) (fun _ _ _ h => h) (by rfl) hS8 ?_ ?_
          rotate_left
          · (intro w' hSw; go_simp; (try with_reducible rfl))
          simp only [Act.put, List.getElem_toArray, List.getElem_cons_succ, List.getElem_cons_zero, List.setIfInBounds_toArray, List.set_cons_succ, List.set_cons_zero]
          refine Y_take (i := 7) (v := ?_) rfl (by kernel_rfl) (by kernel_rfl) (by kernel_rfl) (by kernel_rfl) (fun _ _ _ h => h) (by rfl) hS8 ?_ ?_
          rotate_left
          · (intro w' hSw; go_simp; (try with_reducible rfl))
          simp only [Act.put, List.getElem_toArray, List.getElem_cons_succ, List.getElem_cons_zero, List.setIfInBounds_toArray, List.set_cons_succ, List.set_cons_zero]
          refine Y_take (i := 8) (v := ?_) rfl (by kernel_rfl) (by kernel_rfl) (by kernel_rfl) (by kernel_rfl) (fun _ _ _ h => h) (by rfl) hS8 ?_ ?_
          rotate_left
          · (intro w' hSw; go_simp; (try with_reducible rfl))
          simp only [Act.put, List.getElem_toArray, List.getElem_cons_succ, List.getElem_cons_zero, List.setIfInBounds_toArray, List.set_cons_succ, List.set_cons_zero]
          refine Y_take (i := 9) (v := ?_) rfl (by kernel_rfl) (by kernel_rfl) (by kernel_rfl) (by kernel_rfl) (fun _ _ _ h => h) (by rfl) hS8 ?_ ?_
          rotate_left
          · (intro w' hSw; go_simp; (try with_reducible rfl))
          simp only [Act.put, List.getElem_toArray, List.getElem_cons_succ, List.getElem_cons_zero, List.setIfInBounds_toArray, List.set_cons_succ, List.set_cons_zero]
          refine Y_take (i := 11) (v := ?_) rfl (by kernel_rfl) (by kernel_rfl) (by kernel_rfl) (by kernel_rfl) (fun _ _ _ h => h) (by rfl) hS8 ?_ ?_
          rotate_left
          · (intro w' hSw; have e0 := cellB hSw.1 0 _ rfl; have e1 := cellB hSw.1 1 _ rfl; have e2 := cellB hSw.1 2 _ rfl; have e3 := cellB hSw.1 3 _ rfl; have e4 := cellB hSw.1 4 _ rfl; have e5 := cellB hSw.1 5 _ rfl; have f0 := cellB hSw.2 0 _ rfl; have f1 := cellB hSw.2 1 _ rfl; have f2 := cellB hSw.2 2 _ rfl; have f3 := cellB hSw.2 3 _ rfl; have f4 := cellB hSw.2 4 _ rfl; have f5 := cellB hSw.2 5 _ rfl; go_simp; (try with_reducible rfl))
          simp only [Act.put, List.getElem_toArray, List.getElem_cons_succ, List.getElem_cons_zero, List.setIfInBounds_toArray, List.set_cons_succ, List.set_cons_zero]
          refine Z_step (i := 10) (by kernel_rfl) rfl (fun K' hK => ?_)
          go_simp
          refine (HLs.out _ (H7.out.trans (hb8.mono H7.out.size))).mono ?_
          rintro e w9 ⟨la, lc, rfl, hil9, hb9'⟩
          have hb9 := hb8.trans (hb9'.mono hb8.size)
          have hS9 := HSC.out _ hb9
          refine hK _ _ (fun _ => hS9) ?_
          clear hK K'
          refine Z_step (i := 12) (by kernel_rfl) rfl (fun K' hK => ?_)
          go_simp
          refine (same_any (m : Int) (zi gs) (.slice la (zi gs).length lc) (.slice ha (zi gs).length hc) a b c d _ hil9 (HI7.out.2.next hb9) (by rw [zi_len]; omega)).mono ?_
          rintro e w10 ⟨rfl, hb10'⟩
          have hb10 := hb9.trans (hb10'.mono hb9.size)
          have hS10 := HSC.out _ hb10
          refine hK _ _ (fun _ => hS10) ?_
          clear hK K'
          refine Z_step (i := 13) (by kernel_rfl) rfl (fun K' hK => ?_)
          go_simp
          refine hK _ _ (fun _ => hS10) ?_
          clear hK K'
          refine Z_step (i := 14) (by kernel_rfl) rfl (fun K' hK => ?_)
          go_simp
          refine hK _ _ (fun _ => hS10) (Z_done (by kernel_rfl) ?_ _)
          clear hK K'
          have HBF : Hid (Below w3.heap.size w3 w10) := H7.out.trans (hb10.mono H7.out.size)
          clear hS0 hS8 hS9 hS10 hb8 hb9 hb10 hb8' hb9' hb10' hil9 hbD H7 HI7 HSC HLs
          go_wp2_with fail
          go_roundg (l.length - (j + 1))
          case measure => omega
          case rel => exact ⟨j + 1, v2, ut2, L2, T2, CL, _, gs, a, b, c, d, by omega, by go_num, by rw [HLM.out]; exact HRX.out.next HBF.out, HCF.out, ⟨ha, hc, rfl⟩⟩
        · have hA1 : (a9 == 0) = false := by rw [beq_eq_false_iff_ne]; exact hA
          clear hA
          have hDo := MDo_told hR1.mt rfl hr
          have HML : Hid (moL (cls L) cl c1 n1 k1 g1 s1 = cls L) := hml
          clear hr hml hR1 rD1 hDs1
          go_upto_region 10 with (first
            | (go_at_call 8; refine hDo.mono ?_; rintro e w2 ⟨rfl, v2, ut2, L2, T2, d1, d2, d3⟩; have rD2 := (d3.block Dk HRD1.out.2 HRD.out.2.1).trans HRD1.out.1; have HR2 : Hid (Rx w M B v2 ut2 L2 T2 (moC (cls L) cl c1 n1 k1 g1 s1) K (m : Int) gv gs a b c d w2) := HR1.out.did d2 d3; have HD2 : Hid (w2.heap[Dk]? = some (.cells #[.int .i64 c1, .int .i64 n1, .int .i64 k1, .int .i64 g1, .int .i64 s1] 33) ∧ ¬ MOwn M B v2 ut2 L2 Dk) := ⟨rD2, fun e => (d3.new Dk e).elim HRD.out.2.1 (fun q => by have := HRD1.out.2; omega)⟩; have HCL2 : Hid (cls L2 = moL (cls L) cl c1 n1 k1 g1 s1) := d1; clear rD2 d1 d2 d3))
          obtain ⟨CL, hCL⟩ : ∃ CL, moC (cls L) cl c1 n1 k1 g1 s1 = CL := ⟨_, rfl⟩
          rw [hCL] at HR2
          clear hDo f0 f1 f2 f3 f4 hCL
          obtain ⟨WB, rfl⟩ : ∃ WB, WB = wr := ⟨_, rfl⟩
          obtain ⟨hl2, hc2⟩ := cfg_same (HCL2.out.trans HML.out)
          rw [HCFG.out] at hc2
          rw [HLM0.out] at hl2
          have hLa2 := MLast_any _ M B v2 ut2 L2 T2 CL _ HR2.out.mt
          rw [hl2] at hLa2
          have HLM : Hid (L2.length = m) := hl2
          have HCF : Hid (cfgAt L2 L2.length = (gs, [a, b, c, d])) := hc2
          clear hl2 hc2
          go_upto_region 17 with (first
            | (go_at_call 7; refine hLa2.mono ?_; rintro e w3 ⟨x, rfl, u6, a6, b6, c6, d6, q1, rfl, q3, q4, q5⟩; have HB3 : Hid (Below w2.heap.size w2 w3) := q5; obtain ⟨xa, xc, rfl⟩ := q3.slice; clear q1 q4 q5))
          clear hLa2 q3 z3
          have HRX : Hid (Rx w M B v2 ut2 L2 T2 CL K (m : Int) gv gs a b c d w3) := HR2.out.next HB3.out
          have HGV2 : Hid (∃ ha hc, gv = .slice ha (zi gs).length hc) := HGV.out
          have HG4 : Hid (gs.length ≤ 4) := HG40.out
          clear HGV
          obtain ⟨hmt, _, hbk, hil, _, _, _⟩ := HRX.out
          have hG4 : gs.length ≤ 4 := HG4.out
          have hGet : Calls Try.prog 11 #[.pointer (some ⟨M, 0, none⟩), .int .i64 (m : Int)] w3 fun e W' => ∃ ga' gc', e = .returned (.tuple #[.agg (cf (m : Int) (.slice ga' (zi gs).length gc') a b c d), .int .i64 0]) ∧ Il W' (.slice ga' (zi gs).length gc') (zi gs) ∧ Below w3.heap.size w3 W' := by
            refine (MGet_ok m w.heap.size M B v2 ut2 L2 T2 CL w3 hmt (Nat.le_of_eq HLM.out.symm)).mono ?_
            rintro e W' ⟨x, rfl, u, a', b', c', d', i1, rfl, i3, i4, i5⟩
            rw [← HLM.out, HCF.out] at i1 i3
            obtain ⟨rfl, rfl, rfl, rfl⟩ := four_eq i1.symm
            obtain ⟨ga', gc', rfl⟩ := i3.slice
            exact ⟨ga', gc', rfl, i3, i5⟩
          have y0 := cellB hbk 0 _ rfl
          have HLs : Hid (∀ W, Below w3.heap.size w3 W → Calls Try.prog 7 #[.pointer (some ⟨M, 0, none⟩)] W fun e W' => ∃ la lc, e = .returned (.agg (cf (m : Int) (.slice la (zi gs).length lc) a b c d)) ∧ Il W' (.slice la (zi gs).length lc) (zi gs) ∧ Below W.heap.size W W') := fun W hW => by
            refine (MLast_any w.heap.size M B v2 ut2 L2 T2 CL W (hmt.next hW)).mono ?_
            rintro e W' ⟨x, rfl, u, a', b', c', d', i1, rfl, i3, i4, i5⟩
            rw [HCF.out] at i1 i3
            obtain ⟨rfl, rfl, rfl, rfl⟩ := four_eq i1.symm
            obtain ⟨la, lc, rfl⟩ := i3.slice
            exact ⟨la, lc, by rw [HLM.out], i3, i5⟩
          have HKB : Hid (w3.heap[K]? = some (.cells (cf (m : Int) gv a b c d) 29) ∧ K < w3.heap.size ∧ Il w3 gv (zi gs)) := ⟨hbk, (Array.getElem?_eq_some_iff.1 hbk).1, hil⟩
          clear hmt hbk hil
          go_upto_region 18 with (first
            | (go_at_call 11; refine hGet.mono ?_; rintro e w6 ⟨ga', gc', rfl, i3, i5⟩; have HI6 : Hid (Il w6 (.slice ga' (zi gs).length gc') (zi gs) ∧ Below w3.heap.size w3 w6) := ⟨i3, i5⟩; clear i3 i5))
          clear hGet y0
          obtain ⟨i3, i5⟩ := HI6.out
          obtain ⟨hbk, hKs, hil⟩ := HKB.out
          have hb7 := i5.alloc i5.size (.cells (cf (m : Int) (.slice ga' (zi gs).length gc') a b c d) 34)
          have rY := heap_alloc_new w6 (.cells (cf (m : Int) (.slice ga' (zi gs).length gc') a b c d) 34)
          have rK := (hb7.block K hKs).trans hbk
          have hil7 := i3.next ((Below.refl _ w6).alloc (Nat.le_refl _) (.cells (cf (m : Int) (.slice ga' (zi gs).length gc') a b c d) 34))
          have hil8 := hil.next hb7
          have hYs : w6.heap.size < (w6.alloc (.cells (cf (m : Int) (.slice ga' (zi gs).length gc') a b c d) 34)).heap.size := by simp
          obtain ⟨W7, hW7⟩ : ∃ W, w6.alloc (.cells (cf (m : Int) (.slice ga' (zi gs).length gc') a b c d) 34) = W := ⟨_, rfl⟩
          obtain ⟨Y, hY⟩ : ∃ Y, w6.heap.size = Y := ⟨_, rfl⟩
          rw [hW7] at hb7 rY rK hil7 hil8 hYs ⊢
          rw [hY] at rY hYs ⊢
          have hK7 : K < W7.heap.size := Nat.lt_of_lt_of_le hKs hb7.size
          have HSC : Hid (∀ W, Below W7.heap.size W7 W → W.heap[Y]? = some (.cells (cf (m : Int) (.slice ga' (zi gs).length gc') a b c d) 34) ∧ W.heap[K]? = some (.cells (cf (m : Int) gv a b c d) 29)) := fun W hW => ⟨(hW.block Y hYs).trans rY, (hW.block K hK7).trans rK⟩
          have H7 : Hid (Below w3.heap.size w3 W7) := hb7
          have HI7 : Hid (Il W7 (.slice ga' (zi gs).length gc') (zi gs) ∧ Il W7 gv (zi gs)) := ⟨hil7, hil8⟩
          clear hb7 rY rK hil7 hil8 hYs hW7 hY hK7 i3 i5 hbk hKs hil HI6 HKB
          obtain ⟨ha, hc, hgv⟩ := HGV2.out
          subst hgv
          refine region_Z 99 (fun w' => w'.heap[Y]? = some (.cells (cf (m : Int) (.slice ga' (zi gs).length gc') a b c d) 34) ∧ w'.heap[K]? = some (.cells (cf (m : Int) (.slice ha (zi gs).length hc) a b c d) 29)) (by kernel_rfl) ?_
          have hbD : Below W7.heap.size W7 W7.drew := below_drew (Below.refl _ _)
          have hS0 := HSC.out _ hbD
          refine Y_take (i := 0) (v := ?_) rfl (by kernel_rfl) (by kernel_rfl) (by kernel_rfl) (by kernel_rfl) (fun _ _ _ h => h) (by rfl) hS0 ?_ ?_
          rotate_left
          · (intro w' hSw; go_simp; (try with_reducible rfl))
          simp only [Act.put, List.getElem_toArray, List.getElem_cons_zero, List.setIfInBounds_toArray, List.set_cons_succ, List.set_cons_zero]
          refine Y_take (i := 1) (v := ?_) rfl (by kernel_rfl) (by kernel_rfl) (by kernel_rfl) (by kernel_rfl) (fun _ _ _ h => h) (by rfl) hS0 ?_ ?_
          rotate_left
          · (intro w' hSw; go_simp; (try with_reducible rfl))
          simp only [Act.put, List.getElem_toArray, List.getElem_cons_succ, List.getElem_cons_zero, List.setIfInBounds_toArray, List.set_cons_succ, List.set_cons_zero]
          refine Y_take (i := 2) (v := ?_) rfl (by kernel_rfl) (by kernel_rfl) (by kernel_rfl) (by kernel_rfl) (fun _ _ _ h => h) (by rfl) hS0 ?_ ?_
          rotate_left
          · (intro w' hSw; go_simp; (try with_reducible rfl))
          simp only [Act.put, List.getElem_toArray, List.getElem_cons_succ, List.getElem_cons_zero, List.setIfInBounds_toArray, List.set_cons_succ, List.set_cons_zero]
          refine Y_take (i := 3) (v := ?_) rfl (by kernel_rfl) (by kernel_rfl) (by kernel_rfl) (by kernel_rfl) (fun _ _ _ h => h) (by rfl) hS0 ?_ ?_
          rotate_left
          · (intro w' hSw; have e0 := cellB hSw.1 0 _ rfl; have e1 := cellB hSw.1 1 _ rfl; have e2 := cellB hSw.1 2 _ rfl; have e3 := cellB hSw.1 3 _ rfl; have e4 := cellB hSw.1 4 _ rfl; have e5 := cellB hSw.1 5 _ rfl; have f0 := cellB hSw.2 0 _ rfl; have f1 := cellB hSw.2 1 _ rfl; have f2 := cellB hSw.2 2 _ rfl; have f3 := cellB hSw.2 3 _ rfl; have f4 := cellB hSw.2 4 _ rfl; have f5 := cellB hSw.2 5 _ rfl; go_simp; (try with_reducible rfl))
          simp only [Act.put, List.getElem_toArray, List.getElem_cons_succ, List.getElem_cons_zero, List.setIfInBounds_toArray, List.set_cons_succ, List.set_cons_zero]
          refine Y_take (i := 4) (v := ?_) rfl (by kernel_rfl) (by kernel_rfl) (by kernel_rfl) (by kernel_rfl) (fun _ _ _ h => h) (by rfl) hS0 ?_ ?_
          rotate_left
          · (intro w' hSw; have e0 := cellB hSw.1 0 _ rfl; have e1 := cellB hSw.1 1 _ rfl; have e2 := cellB hSw.1 2 _ rfl; have e3 := cellB hSw.1 3 _ rfl; have e4 := cellB hSw.1 4 _ rfl; have e5 := cellB hSw.1 5 _ rfl; have f0 := cellB hSw.2 0 _ rfl; have f1 := cellB hSw.2 1 _ rfl; have f2 := cellB hSw.2 2 _ rfl; have f3 := cellB hSw.2 3 _ rfl; have f4 := cellB hSw.2 4 _ rfl; have f5 := cellB hSw.2 5 _ rfl; go_simp; (try with_reducible rfl))
          simp only [Act.put, List.getElem_toArray, List.getElem_cons_succ, List.getElem_cons_zero, List.setIfInBounds_toArray, List.set_cons_succ, List.set_cons_zero]
          refine Z_step (i := 5) (by kernel_rfl) rfl (fun K' hK => ?_)
          go_simp
          refine (same_any (m : Int) (zi gs) (.slice ga' (zi gs).length gc') (.slice ha (zi gs).length hc) a b c d _ (HI7.out.1.next hbD) (HI7.out.2.next hbD) (by rw [zi_len]; omega)).mono ?_
          rintro e w8 ⟨rfl, hb8'⟩
          have hb8 := hbD.trans (hb8'.mono hbD.size)
          have hS8 := HSC.out _ hb8
          refine hK _ _ (fun _ => hS8) ?_
          clear hK K'
          refine Y_take (i := 6) (v := ?_) rfl (by kernel_rfl) (by kernel_rfl) (by kernel_rfl) (by kernel_rfl) (fun _ _ _ h => h) (by rfl) hS8 ?_ ?_
          rotate_left
          · (intro w' hSw; go_simp; (try with_reducible rfl))
          simp only [Act.put, List.getElem_toArray, List.getElem_cons_succ, List.getElem_cons_zero, List.setIfInBounds_toArray, List.set_cons_succ, List.set_cons_zero]
          refine Y_take (i := 7) (v := ?_) rfl (by kernel_rfl) (by kernel_rfl) (by kernel_rfl) (by kernel_rfl) (fun _ _ _ h => h) (by rfl) hS8 ?_ ?_
          rotate_left
          · (intro w' hSw; go_simp; (try with_reducible rfl))
          simp only [Act.put, List.getElem_toArray, List.getElem_cons_succ, List.getElem_cons_zero, List.setIfInBounds_toArray, List.set_cons_succ, List.set_cons_zero]
          refine Y_take (i := 8) (v := ?_) rfl (by kernel_rfl) (by kernel_rfl) (by kernel_rfl) (by kernel_rfl) (fun _ _ _ h => h) (by rfl) hS8 ?_ ?_
          rotate_left
          · (intro w' hSw; go_simp; (try with_reducible rfl))
          simp only [Act.put, List.getElem_toArray, List.getElem_cons_succ, List.getElem_cons_zero, List.setIfInBounds_toArray, List.set_cons_succ, List.set_cons_zero]
          refine Y_take (i := 9) (v := ?_) rfl (by kernel_rfl) (by kernel_rfl) (by kernel_rfl) (by kernel_rfl) (fun _ _ _ h => h) (by rfl) hS8 ?_ ?_
          rotate_left
          · (intro w' hSw; go_simp; (try with_reducible rfl))
          simp only [Act.put, List.getElem_toArray, List.getElem_cons_succ, List.getElem_cons_zero, List.setIfInBounds_toArray, List.set_cons_succ, List.set_cons_zero]
          refine Y_take (i := 11) (v := ?_) rfl (by kernel_rfl) (by kernel_rfl) (by kernel_rfl) (by kernel_rfl) (fun _ _ _ h => h) (by rfl) hS8 ?_ ?_
          rotate_left
          · (intro w' hSw; have e0 := cellB hSw.1 0 _ rfl; have e1 := cellB hSw.1 1 _ rfl; have e2 := cellB hSw.1 2 _ rfl; have e3 := cellB hSw.1 3 _ rfl; have e4 := cellB hSw.1 4 _ rfl; have e5 := cellB hSw.1 5 _ rfl; have f0 := cellB hSw.2 0 _ rfl; have f1 := cellB hSw.2 1 _ rfl; have f2 := cellB hSw.2 2 _ rfl; have f3 := cellB hSw.2 3 _ rfl; have f4 := cellB hSw.2 4 _ rfl; have f5 := cellB hSw.2 5 _ rfl; go_simp; (try with_reducible rfl))
          simp only [Act.put, List.getElem_toArray, List.getElem_cons_succ, List.getElem_cons_zero, List.setIfInBounds_toArray, List.set_cons_succ, List.set_cons_zero]
          refine Z_step (i := 10) (by kernel_rfl) rfl (fun K' hK => ?_)
          go_simp
          refine (HLs.out _ (H7.out.trans (hb8.mono H7.out.size))).mono ?_
          rintro e w9 ⟨la, lc, rfl, hil9, hb9'⟩
          have hb9 := hb8.trans (hb9'.mono hb8.size)
          have hS9 := HSC.out _ hb9
          refine hK _ _ (fun _ => hS9) ?_
          clear hK K'
          refine Z_step (i := 12) (by kernel_rfl) rfl (fun K' hK => ?_)
          go_simp
          refine (same_any (m : Int) (zi gs) (.slice la (zi gs).length lc) (.slice ha (zi gs).length hc) a b c d _ hil9 (HI7.out.2.next hb9) (by rw [zi_len]; omega)).mono ?_
          rintro e w10 ⟨rfl, hb10'⟩
          have hb10 := hb9.trans (hb10'.mono hb9.size)
          have hS10 := HSC.out _ hb10
          refine hK _ _ (fun _ => hS10) ?_
          clear hK K'
          refine Z_step (i := 13) (by kernel_rfl) rfl (fun K' hK => ?_)
          go_simp
          refine hK _ _ (fun _ => hS10) ?_
          clear hK K'
          refine Z_step (i := 14) (by kernel_rfl) rfl (fun K' hK => ?_)
          go_simp
          refine hK _ _ (fun _ => hS10) (Z_done (by kernel_rfl) ?_ _)
          clear hK K'
          have HBF : Hid (Below w3.heap.size w3 w10) := H7.out.trans (hb10.mono H7.out.size)
          clear hS0 hS8 hS9 hS10 hb8 hb9 hb10 hb8' hb9' hb10' hil9 hbD H7 HI7 HSC HLs
          go_wp2_with fail
          go_roundg (l.length - (j + 1))
          case measure => omega
          case rel => exact ⟨j + 1, v2, ut2, L2, T2, CL, _, gs, a, b, c, d, by omega, by go_num, by rw [HLM.out]; exact HRX.out.next HBF.out, HCF.out, ⟨ha, hc, rfl⟩⟩
    · have hkl : j = l.length := by omega
      subst hkl
      have hO1 := hO wr
      have hbel := hR.bel
      clear hR hcfg hgvs
      go_wp2_with (first
        | (go_at_call 6; refine hO1.mono ?_; rintro e w5 ⟨rfl, hb5⟩; have hB5 := hbel.trans (hb5.mono hbel.size)))
      go_ret
      exact ⟨rfl, hB5⟩
end Go.Proofs.Ytkamjfcnipjpkaa
