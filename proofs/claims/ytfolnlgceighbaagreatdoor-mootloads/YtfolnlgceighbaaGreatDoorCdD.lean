/- Chains, the document's side: give, walked. -/
import Derived.Test.YtfolnlgceighbaaGreatDoorCdC
namespace Go.Proofs.YtfolnlgceighbaaGreatDoor
open Go.RowKit
attribute [local go_sem ↓] Go.wp_at_zero Go.wp_at_succ

/-- The document's configuration on its way: its block, the answer's block. -/
structure Gw (w : World) (num : Int) (gv : Value) (o : List Nat) (wr : World) : Prop where
  bel : Below w.heap.size w wr
  cfg : wr.heap[w.heap.size]? = some (.cells (cfO num gv o) 32)
  ans : wr.heap[w.heap.size + 1]? = some (.cells (cf 0 (.slice none 0 0) 0 0 0 0) 32)
  len : o.length = 4
theorem Gw.next {w : World} {num : Int} {gv : Value} {o : List Nat} {wr w' : World} (h : Gw w num gv o wr) (hb : Below wr.heap.size wr w') : Gw w num gv o w' :=
  ⟨h.bel.trans (hb.mono h.bel.size), (hb.block _ (Array.getElem?_eq_some_iff.1 h.cfg).1).trans h.cfg, (hb.block _ (Array.getElem?_eq_some_iff.1 h.ans).1).trans h.ans, h.len⟩
theorem Gw.set {w : World} {num : Int} {gv : Value} {o : List Nat} {wr : World} (h : Gw w num gv o wr) (i v : Nat) : Gw w num gv (o.set i v) (wr.setCell ⟨w.heap.size, 2 + i, none⟩ (.int .i64 v)) :=
  ⟨h.bel.setCell (p := ⟨w.heap.size, 2 + i, none⟩) (Nat.le_refl _) _, by rw [setB h.cfg (2 + i), cfO_set], (set_far (by omega) _ _).trans h.ans, by rw [List.length_set]; exact h.len⟩
theorem Gw.cell {w : World} {num : Int} {gv : Value} {o : List Nat} {wr : World} (h : Gw w num gv o wr) {i t : Nat} (ht : o[i]? = some t) : wr.cell? ⟨w.heap.size, 2 + i, none⟩ = some (.int .i64 t) := cellB h.cfg _ _ (cfO_at num gv o i t ht)
theorem Gw.frozen {w : World} {num : Int} {gv : Value} {o : List Nat} {wr : World} (h : Gw w num gv o wr) (i : Nat) : wr.frozen? ⟨w.heap.size, i, none⟩ = false := frozenB h.cfg _
theorem getD_of {o : List Nat} {i t : Nat} (h : o[i]? = some t) : o.getD i 0 = t := by rw [List.getD_eq_getElem?_getD, h]; rfl
theorem idx_first : ∀ {o : List Nat} {j A : Nat}, (∀ n, n < j → o[n]? ≠ some A) → o[j]? = some A → o.idxOf A = j
  | [], _, _, _, h => by cases h
  | x :: o, 0, A, _, h => by
    have : x = A := by simpa using h
    subst this
    simp
  | x :: o, j + 1, A, hn, h => by
    have hx : x ≠ A := fun e => hn 0 (by omega) (by rw [e]; rfl)
    rw [List.idxOf_cons, show (x == A) = false by simpa using hx]
    have h1 : ∀ n, n < j → o[n]? ≠ some A := fun n hn' => by have := hn (n + 1) (Nat.succ_lt_succ hn'); simpa using this
    rw [idx_first h1 (by simpa using h)]
    rfl
set_option maxRecDepth 20000 in
set_option maxHeartbeats 8000000 in
theorem rGive_any (num : Int) (gv : Value) (gs : List Nat) (a b c d : Nat) (w : World) (hu : Il w gv (zi gs)) (hl0 : 0 < gs.length) (hl : gs.length ≤ 1000) :
    Calls Tryz.prog 80 #[.agg (cf num gv a b c d)] w fun e W' => ∃ p q r t : Nat, e = .returned (.agg (cf num gv p q r t)) ∧ [p, q, r, t] = rGv gs [a, b, c, d] ∧ Below w.heap.size w W' := by
  obtain ⟨W0, hW0⟩ : ∃ W, (w.alloc (.cells (cf num gv a b c d) 32)).alloc (.cells (cf 0 (.slice none 0 0) 0 0 0 0) 32) = W := ⟨_, rfl⟩
  have hG0 : Gw w num gv [a, b, c, d] W0 := by
    rw [← hW0]
    refine ⟨((Below.refl _ w).alloc (Nat.le_refl _) _).alloc (by simp) _, (Below.heap_alloc _ _ _ (by simp)).trans (heap_alloc_new _ _), ?_, rfl⟩
    have := heap_alloc_new (w.alloc (.cells (cf num gv a b c d) 32)) (.cells (cf 0 (.slice none 0 0) 0 0 0 0) 32)
    rwa [show (w.alloc (.cells (cf num gv a b c d) 32)).heap.size = w.heap.size + 1 by simp] at this
  have HV : Hid ((w.alloc (.cells (cf num gv a b c d) 32)).alloc (.cells (cf 0 (.slice none 0 0) 0 0 0 0) 32) = W0) := hW0
  have HG0 : Hid (Gw w num gv [a, b, c, d] W0) := hG0
  have HU : Hid (Il w gv (zi gs)) := hu
  obtain ⟨pa, pc, hpv⟩ := hu.slice
  rw [zi_len] at hpv
  subst hpv
  have hsl : ∃ x n c, (Value.slice pa gs.length pc) = .slice x n c := ⟨_, _, _, rfl⟩
  have HI : Hid (∀ (x : Nat) W, Below w.heap.size w W → Calls Tryz.prog 44 #[.slice pa gs.length pc, .int .i64 (x : Int)] W fun e W' => e = .returned (.bool (gs.contains x)) ∧ W' = W) := fun x W hW => by
    have := rIn_any (zi gs) x (.slice pa gs.length pc) W (HU.out.next hW) (by rw [zi_len]; omega)
    rw [isIn_zi'] at this
    exact this
  obtain ⟨o0, ho0⟩ : ∃ o0, [a, b, c, d] = o0 := ⟨_, rfl⟩
  have HRES : Hid (rGv gs o0 = rvT gs 4 (gvT gs (zrT gs o0 4) 4)) := rfl
  have ho4 : o0.length = 4 := by rw [← ho0]; rfl
  rw [ho0] at HG0 ⊢
  clear hW0 hG0 hu ho0
  go_enter Tryz.func80, Tryz.ntmps80
  go_upto_region 1 with fail
  rw [HV.out]
  clear HV
  go_wp2_with fail
  go_loopg [3] 4 (fun gk i wr => ∃ k : Nat, k + gk = 4 ∧ i = .int .i64 k ∧ Gw w num (.slice pa gs.length pc) (zrT gs o0 k) wr)
  case atStart => exact ⟨0, by omega, rfl, HG0.out⟩
  case round =>
    obtain ⟨k, hk, rfl, hG⟩ := hrel
    clear HG0
    by_cases hlt : k < 4
    · have hlen := hG.len
      obtain ⟨t, ht⟩ : ∃ t, (zrT gs o0 k)[k]? = some t := ⟨_, List.getElem?_eq_getElem (by omega)⟩
      have hS := zrT_succ gs o0 k
      rw [getD_of ht] at hS
      have x1 := cellB hG.cfg 1 _ rfl
      have x2 := hG.cell ht
      have x3 := hG.frozen (2 + k)
      have hIn := fun n => HI.out t (wr.drewN n) (below_drewN hG.bel n)
      have k0 : (0 : Int) ≤ (k : Int) := by omega
      have k1 : (k : Int) < 4 := by omega
      have HG : Hid (Gw w num (.slice pa gs.length pc) (zrT gs o0 k) wr) := hG
      obtain ⟨B, hB⟩ : ∃ B, gs.contains t = B := ⟨_, rfl⟩
      rw [hB] at hS
      simp only [hB] at hIn
      clear ht hG hlen hB
      cases B with
      | true =>
        have HT : Hid (zrT gs o0 (k + 1) = zrT gs o0 k) := hS
        clear hS
        go_upto_region 4 with fail
        go_quiet (first | (go_at_call 44; refine Calls.quiet_of_same (hIn _)))
        go_wp2
        go_roundg (4 - (k + 1))
        case measure => omega
        case rel => exact ⟨k + 1, by omega, by go_num, by rw [HT.out]; exact HG.out.next (below_drewN (Below.refl _ _) _)⟩
      | false =>
        have HT : Hid (zrT gs o0 (k + 1) = (zrT gs o0 k).set k 0) := hS
        clear hS
        go_upto_region 4 with fail
        go_quiet (first | (go_at_call 44; refine Calls.quiet_of_same (hIn _)))
        have hGd := HG.out.next (below_drewN (Below.refl _ wr) nq)
        obtain ⟨WD, hWD⟩ : ∃ W, wr.drewN nq = W := ⟨_, rfl⟩
        rw [hWD] at hGd ⊢
        obtain ⟨t2, ht2⟩ : ∃ t, (zrT gs o0 k)[k]? = some t := ⟨_, List.getElem?_eq_getElem (by rw [hGd.len]; exact hlt)⟩
        have y2 := hGd.cell ht2
        have y3 := hGd.frozen (2 + k)
        have HGD : Hid (Gw w num (.slice pa gs.length pc) (zrT gs o0 k) WD) := hGd
        clear hGd hWD ht2 x1 x2 x3 hIn
        go_wp2
        go_roundg (4 - (k + 1))
        case measure => omega
        case rel => exact ⟨k + 1, by omega, by go_num, by rw [HT.out]; exact HGD.out.set k 0⟩
    · have hkl : k = 4 := by omega
      subst hkl
      obtain ⟨o1, ho1⟩ : ∃ o1, zrT gs o0 4 = o1 := ⟨_, rfl⟩
      rw [ho1] at hG HRES
      obtain ⟨W1, rfl⟩ : ∃ W1, W1 = wr := ⟨_, rfl⟩
      have HG0 : Hid (Gw w num (.slice pa gs.length pc) o1 W1) := hG
      clear ho1 hG
      go_wp2_with fail
      go_loopg [4] 4 (fun gk i wr => ∃ k : Nat, k + gk = 4 ∧ i = .int .i64 k ∧ Gw w num (.slice pa gs.length pc) (gvT gs o1 k) wr)
      case atStart => exact ⟨0, by omega, rfl, HG0.out⟩
      case round =>
        obtain ⟨k, hk, rfl, hG⟩ := hrel
        clear HG0
        by_cases hlt : k < 4
        · have hlen := hG.len
          obtain ⟨t, ht⟩ : ∃ t, (gvT gs o1 k)[k]? = some t := ⟨_, List.getElem?_eq_getElem (by omega)⟩
          have hS := gvT_succ gs o1 k
          rw [getD_of ht] at hS
          have x2 := hG.cell ht
          have k0 : (0 : Int) ≤ (k : Int) := by omega
          have k1 : (k : Int) < 4 := by omega
          have HG : Hid (Gw w num (.slice pa gs.length pc) (gvT gs o1 k) wr) := hG
          by_cases h0 : t = 0
          · subst h0
            have HT : Hid (gvT gs o1 (k + 1) = (gvT gs o1 k).set k (fewF (cnt (gvT gs o1 k)) gs)) := hS
            obtain ⟨p, q, r, s, hpq⟩ := four_of hlen
            have hFe := rFew_any num (.slice pa gs.length pc) gs p q r s wr (HU.out.next hG.bel) hl0 hl
            rw [← hpq] at hFe
            have KX : Hid (wr.rangeAt w.heap.size 0 (cfL num (.slice pa gs.length pc) p q r s)) := by
              have h9 := hG.cfg
              rw [hpq] at h9
              exact blk_range (L := cfL num (.slice pa gs.length pc) p q r s) h9
            obtain ⟨fw, hfw⟩ : ∃ fw, fewF (cnt (gvT gs o1 k)) gs = fw := ⟨_, rfl⟩
            rw [hfw] at hFe HT
            clear ht hG hlen hS hpq hfw
            go_wp2_with (first
              | (refine wpList_load_mid rfl 32 _ rfl w.heap.size 0 rfl (cfL num (.slice pa gs.length pc) p q r s) _ KX.out Tryz.underlying32 rfl Tryz.size32 ?_)
              | (go_at_call 94; refine hFe.mono ?_; rintro e w2 ⟨rfl, hb2⟩; have hG2 := HG.out.next hb2; obtain ⟨t2, ht2⟩ : ∃ t, (gvT gs o1 k)[k]? = some t := ⟨_, List.getElem?_eq_getElem (by rw [hG2.len]; exact hlt)⟩; have y2 := hG2.cell ht2; have y3 := hG2.frozen (2 + k); have HG2 : Hid (Gw w num (.slice pa gs.length pc) (gvT gs o1 k) w2) := hG2; clear hG2 ht2 hb2))
            go_roundg (4 - (k + 1))
            case measure => omega
            case rel => exact ⟨k + 1, by omega, by go_num, by rw [HT.out]; exact HG2.out.set k fw⟩
          · have hne : ((t : Int) == 0) = false := by rw [beq_eq_false_iff_ne]; omega
            have HT : Hid (gvT gs o1 (k + 1) = gvT gs o1 k) := by show _ = _; rw [hS, if_neg (by simpa using h0)]
            clear ht hG hlen hS h0
            go_wp2
            go_roundg (4 - (k + 1))
            case measure => omega
            case rel => exact ⟨k + 1, by omega, by go_num, by rw [HT.out]; exact HG.out⟩
        · have hkl : k = 4 := by omega
          subst hkl
          obtain ⟨o2, ho2⟩ : ∃ o2, gvT gs o1 4 = o2 := ⟨_, rfl⟩
          rw [ho2] at hG HRES
          obtain ⟨W2, rfl⟩ : ∃ W2, W2 = wr := ⟨_, rfl⟩
          have HG0 : Hid (Gw w num (.slice pa gs.length pc) o2 W2) := hG
          clear ho2 hG
          go_wp2_with fail
          go_loopg [5] 4 (fun gk i wr => ∃ (k : Nat) (o : List Nat), k + gk = 4 ∧ i = .int .i64 k ∧ Gw w num (.slice pa gs.length pc) o wr ∧ rGv gs o0 = rvT gs gk o)
          case atStart => exact ⟨0, o2, by omega, rfl, HG0.out, HRES.out⟩
          case round =>
            obtain ⟨k, o, hk, rfl, hG, hres⟩ := hrel
            clear HG0 HRES
            have HRS : Hid (rGv gs o0 = rvT gs gk o) := hres
            obtain ⟨p, q, r, s, rfl⟩ := four_of hG.len
            have KX : Hid (wr.rangeAt w.heap.size 0 (cfL num (.slice pa gs.length pc) p q r s)) := blk_range (L := cfL num (.slice pa gs.length pc) p q r s) hG.cfg
            have HG : Hid (Gw w num (.slice pa gs.length pc) [p, q, r, s] wr) := hG
            clear hres
            by_cases hlt : k < 4
            · obtain ⟨m, rfl⟩ : ∃ m, gk = m + 1 := ⟨gk - 1, by omega⟩
              have k1 : (k : Int) < 4 := by omega
              have hMa := rMany_any num (.slice pa gs.length pc) gs p q r s wr (HU.out.next hG.bel) hl0 hl
              have HFe : Hid (∀ W, Below w.heap.size w W → Calls Tryz.prog 94 #[.agg (cf num (.slice pa gs.length pc) p q r s)] W fun e W' => e = .returned (.int .i64 (fewF (cnt [p, q, r, s]) gs : Nat)) ∧ Below W.heap.size W W') := fun W hW => rFew_any num (.slice pa gs.length pc) gs p q r s W (HU.out.next hW) hl0 hl
              have HLd : Hid (∀ (g : Nat) W, Calls Tryz.prog 15 #[.agg (cf num (.slice pa gs.length pc) p q r s), .int .i64 (g : Int)] W fun e W' => e = .returned (.int .i64 (cnt [p, q, r, s] g : Nat)) ∧ Below W.heap.size W W') := fun g W => rLoad_any num (.slice pa gs.length pc) hsl p q r s g W
              obtain ⟨f, hf⟩ : ∃ f, cnt [p, q, r, s] = f := ⟨_, rfl⟩
              obtain ⟨A, hA⟩ : ∃ A, manyF f gs = A := ⟨_, rfl⟩
              obtain ⟨Bf, hBf⟩ : ∃ B, fewF f gs = B := ⟨_, rfl⟩
              have hf4 : ∀ x, f x ≤ 4 := fun x => by rw [← hf]; exact cnt_le [p, q, r, s] x
              have hmem : ¬ f A < f Bf + 2 → A ∈ [p, q, r, s] := fun h => cnt_mem [p, q, r, s] A (by rw [hf]; omega)
              have HRV : Hid (rGv gs o0 = if f A < f Bf + 2 then [p, q, r, s] else rvT gs m ([p, q, r, s].set ([p, q, r, s].idxOf A) Bf)) := by
                show _ = _
                rw [HRS.out, ← hBf, ← hA, ← hf]
                rfl
              rw [hf] at hMa HFe HLd
              rw [hA] at hMa
              rw [hBf] at HFe
              have HMM : Hid (¬ f A < f Bf + 2 → A ∈ [p, q, r, s]) := hmem
              clear hf hA hBf hmem HRS hG
              go_upto_region 15 with (first
                | (refine wpList_load_mid rfl 32 _ rfl w.heap.size 0 rfl (cfL num (.slice pa gs.length pc) p q r s) _ KX.out Tryz.underlying32 rfl Tryz.size32 ?_)
                | (go_at_call 95; refine hMa.mono ?_; rintro e w1 ⟨rfl, hb1⟩; have HG1 : Hid (Gw w num (.slice pa gs.length pc) [p, q, r, s] w1) := HG.out.next hb1; clear hb1))
              have hFe := HFe.out _ HG1.out.bel
              have KX1 : Hid (w1.rangeAt w.heap.size 0 (cfL num (.slice pa gs.length pc) p q r s)) := blk_range (L := cfL num (.slice pa gs.length pc) p q r s) HG1.out.cfg
              clear hMa KX HG
              go_upto_region 16 with (first
                | (refine wpList_load_mid rfl 32 _ rfl w.heap.size 0 rfl (cfL num (.slice pa gs.length pc) p q r s) _ KX1.out Tryz.underlying32 rfl Tryz.size32 ?_)
                | (go_at_call 94; refine hFe.mono ?_; rintro e w2 ⟨rfl, hb2⟩; have HG2 : Hid (Gw w num (.slice pa gs.length pc) [p, q, r, s] w2) := HG1.out.next hb2; clear hb2))
              clear hFe KX1 HG1 HFe
              have gL : ∀ (x : Cw w2) (g : Nat), Calls Tryz.prog 15 #[.agg (cf num (.slice pa gs.length pc) p q r s), .int .i64 (g : Int)] x.w fun e w'' => e = .returned (.int .i64 (f g : Nat)) ∧ ∃ y : Cw w2, w'' = y.w := fun x g => growC (W0 := w2) (fun W _ => HLd.out g W) x
              have HC : Hid (∀ x : Cw w2, x.w.heap[w.heap.size]? = some (.cells (cf num (.slice pa gs.length pc) p q r s) 32)) := fun x => (HG2.out.next x.h).cfg
              have c0 : ∀ x : Cw w2, x.w.cell? ⟨w.heap.size, 0, none⟩ = some (.int .i64 num) := fun x => cellB (HC.out x) 0 _ rfl
              have c1 : ∀ x : Cw w2, x.w.cell? ⟨w.heap.size, 1, none⟩ = some (.slice pa gs.length pc) := fun x => cellB (HC.out x) 1 _ rfl
              have c2 : ∀ x : Cw w2, x.w.cell? ⟨w.heap.size, 2, none⟩ = some (.int .i64 p) := fun x => cellB (HC.out x) 2 _ rfl
              have c3 : ∀ x : Cw w2, x.w.cell? ⟨w.heap.size, 3, none⟩ = some (.int .i64 q) := fun x => cellB (HC.out x) 3 _ rfl
              have c4 : ∀ x : Cw w2, x.w.cell? ⟨w.heap.size, 4, none⟩ = some (.int .i64 r) := fun x => cellB (HC.out x) 4 _ rfl
              have c5 : ∀ x : Cw w2, x.w.cell? ⟨w.heap.size, 5, none⟩ = some (.int .i64 s) := fun x => cellB (HC.out x) 5 _ rfl
              have hne : Nonempty (Cw w2) := ⟨⟨w2, Below.refl _ _⟩⟩
              have fA4 := hf4 A
              have fB4 := hf4 Bf
              obtain ⟨D, hD⟩ : ∃ D : Int, (f A : Int) - (f Bf : Int) = D := ⟨_, rfl⟩
              have e1 : IntKind.i64.wrap ((f A : Int) - (f Bf : Int)) = D := by rw [hD]; simp [IntKind.wrap, IntKind.bits, IntKind.signed]; omega
              by_cases hc : f A < f Bf + 2
              · have hd : decide (D < 2) = true := by simp; omega
                have HEQ : Hid ([p, q, r, s] = rGv gs o0) := by show _ = _; rw [HRV.out, if_pos hc]
                clear hc hD hf4
                refine wp_region_grow (W0 := w2) (by kernel_rfl) (by kernel_rfl) (Below.refl _ _) ?_
                repeat (quiet_step (first
                  | (go_at_call 15; exact gL _ _)))
                refine wpQuiet_nil ?_
                rintro _ ⟨xx, rfl⟩
                clear c0 c1 c2 c3 c4 c5 gL HC
                have hG3 := HG2.out.next xx.h
                obtain ⟨W3, hW3⟩ : ∃ W, xx.w = W := ⟨_, rfl⟩
                rw [hW3] at hG3 ⊢
                have KX3 : Hid (W3.rangeAt w.heap.size 0 (cfL num (.slice pa gs.length pc) p q r s)) := blk_range (L := cfL num (.slice pa gs.length pc) p q r s) hG3.cfg
                have KS : Hid (W3.there (w.heap.size + 1) 0 6) := blk_there hG3.ans 0 6 (Nat.le_refl _)
                have K4 : Hid ((W3.setCells (w.heap.size + 1) 0 (cfL num (.slice pa gs.length pc) p q r s)).rangeAt (w.heap.size + 1) 0 (cfL num (.slice pa gs.length pc) p q r s)) := blk_range (blk_set hG3.ans (L := cfL num (.slice pa gs.length pc) p q r s) rfl)
                have K3 : Hid (Below w.heap.size w (W3.setCells (w.heap.size + 1) 0 (cfL num (.slice pa gs.length pc) p q r s))) := blk_below (by omega) _ _ _ hG3.bel
                clear hG3 hW3 HG2
                go_wp2_with (first
                  | (refine wpList_load_mid rfl 32 _ rfl w.heap.size 0 rfl (cfL num (.slice pa gs.length pc) p q r s) _ KX3.out Tryz.underlying32 rfl Tryz.size32 ?_)
                  | (refine wpList_store_mid rfl 32 _ _ rfl (w.heap.size + 1) 0 (cf num (.slice pa gs.length pc) p q r s) rfl rfl KS.out Tryz.size32 (cf_ones _ _ _ _ _ _ _ _) ?_))
                exact bodyPost_ret (v := .agg (cf num (.slice pa gs.length pc) p q r s)) (results_one rfl rfl (res32 K4.out rfl)) rfl ⟨p, q, r, s, rfl, HEQ.out, K3.out⟩
              · have hd : decide (D < 2) = false := by simp; omega
                have hAm := HMM.out hc
                have HRV2 : Hid (rGv gs o0 = rvT gs m ([p, q, r, s].set ([p, q, r, s].idxOf A) Bf)) := by show _ = _; rw [HRV.out, if_neg hc]
                clear hc hD hf4
                refine wp_region_grow (W0 := w2) (by kernel_rfl) (by kernel_rfl) (Below.refl _ _) ?_
                repeat (quiet_step (first
                  | (go_at_call 15; exact gL _ _)))
                refine wpQuiet_nil ?_
                rintro _ ⟨xx, rfl⟩
                clear c0 c1 c2 c3 c4 c5 gL HC
                have hG3 := HG2.out.next xx.h
                obtain ⟨W3, hW3⟩ : ∃ W, xx.w = W := ⟨_, rfl⟩
                rw [hW3] at hG3 ⊢
                have HG3 : Hid (Gw w num (.slice pa gs.length pc) [p, q, r, s] W3) := hG3
                obtain ⟨o, ho⟩ : ∃ o, [p, q, r, s] = o := ⟨_, rfl⟩
                rw [ho] at HG3 HRV2 hAm
                have hol : o.length = 4 := by rw [← ho]; rfl
                have HAM : Hid (A ∈ o) := hAm
                clear hG3 hW3 HG2 ho hAm HMM HRV
                go_wp2_with fail
                go_loopg [8] 4 (fun gk i wr => ∃ j : Nat, j + gk = 4 ∧ i = .int .i64 j ∧ wr = W3 ∧ ∀ n, n < j → o[n]? ≠ some A)
                case atStart => exact ⟨0, by omega, rfl, rfl, fun n hn => by omega⟩
                case round =>
                  obtain ⟨j, hj, rfl, hwr, hno⟩ := hrel
                  subst wr
                  have HNO : Hid (∀ n, n < j → o[n]? ≠ some A) := hno
                  clear hno
                  by_cases hj4 : j < 4
                  · obtain ⟨t, ht⟩ : ∃ t, o[j]? = some t := ⟨_, List.getElem?_eq_getElem (by omega)⟩
                    have y1 := HG3.out.cell ht
                    have y2 := HG3.out.frozen (2 + j)
                    have j0 : (0 : Int) ≤ (j : Int) := by omega
                    have j1 : (j : Int) < 4 := by omega
                    by_cases he : t = A
                    · subst he
                      have HIX : Hid (o.idxOf t = j) := idx_first HNO.out ht
                      clear ht
                      go_wp2
                      go_roundg m
                      case measure => omega
                      case rel => exact ⟨k + 1, o.set j Bf, by omega, by go_num, HG3.out.set j Bf, by rw [HRV2.out, HIX.out]⟩
                    · have hne : ((t : Int) == (A : Int)) = false := by rw [beq_eq_false_iff_ne]; omega
                      have HN2 : Hid (∀ n, n < j + 1 → o[n]? ≠ some A) := fun n hn => by
                        by_cases e : n = j
                        · subst e; rw [ht]; intro h; injection h with h; exact he h
                        · exact HNO.out n (by omega)
                      clear ht he
                      go_wp2
                      go_roundg (4 - (j + 1))
                      case measure => omega
                      case rel => exact ⟨j + 1, by omega, by go_num, rfl, HN2.out⟩
                  · exfalso
                    obtain ⟨n, hn, he⟩ := List.mem_iff_getElem.1 HAM.out
                    exact HNO.out n (by omega) (by rw [List.getElem?_eq_getElem hn, he])
            · have hkl : k = 4 := by omega
              have hg0 : gk = 0 := by omega
              subst hkl hg0
              have HEQ : Hid ([p, q, r, s] = rGv gs o0) := HRS.out.symm
              have KS : Hid (wr.there (w.heap.size + 1) 0 6) := blk_there hG.ans 0 6 (Nat.le_refl _)
              have K4 : Hid ((wr.setCells (w.heap.size + 1) 0 (cfL num (.slice pa gs.length pc) p q r s)).rangeAt (w.heap.size + 1) 0 (cfL num (.slice pa gs.length pc) p q r s)) := blk_range (blk_set hG.ans (L := cfL num (.slice pa gs.length pc) p q r s) rfl)
              have K3 : Hid (Below w.heap.size w (wr.setCells (w.heap.size + 1) 0 (cfL num (.slice pa gs.length pc) p q r s))) := blk_below (by omega) _ _ _ hG.bel
              clear hG HG HRS
              go_wp2_with (first
                | (refine wpList_load_mid rfl 32 _ rfl w.heap.size 0 rfl (cfL num (.slice pa gs.length pc) p q r s) _ KX.out Tryz.underlying32 rfl Tryz.size32 ?_)
                | (refine wpList_store_mid rfl 32 _ _ rfl (w.heap.size + 1) 0 (cf num (.slice pa gs.length pc) p q r s) rfl rfl KS.out Tryz.size32 (cf_ones _ _ _ _ _ _ _ _) ?_))
              exact bodyPost_ret (v := .agg (cf num (.slice pa gs.length pc) p q r s)) (results_one rfl rfl (res32 K4.out rfl)) rfl ⟨p, q, r, s, rfl, HEQ.out, K3.out⟩
end Go.Proofs.YtfolnlgceighbaaGreatDoor
