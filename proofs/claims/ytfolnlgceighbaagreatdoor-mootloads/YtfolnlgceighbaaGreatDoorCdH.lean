/- Chains, the document's side: Next, walked: the next configuration. -/
import Derived.Test.YtfolnlgceighbaaGreatDoorCdG
namespace Go.Proofs.YtfolnlgceighbaaGreatDoor
open Go.RowKit
attribute [local go_sem ↓] Go.wp_at_zero Go.wp_at_succ

/-- The next configuration on its way: its groups are laid one by one. -/
structure Nx (WD W2 : World) (X : Nat) (num : Int) (a b c d : Nat) (L : List Nat) (u : Value) (wr : World) : Prop where
  bel : Below WD.heap.size WD wr
  cfg : wr.heap[X]? = some (.cells (cf num u a b c d) 32)
  own : wr.ownsRow W2.heap.size 3 1 u L.length (zcs (zi L))
  low : W2.heap.size ≤ wr.heap.size
set_option maxRecDepth 20000 in
set_option maxHeartbeats 2000000 in
theorem rNext_k1 (num : Int) (n0 : 0 ≤ num) (n1 : num ≤ 1099511627776) (gv : Value) (gs : List Nat) (a b c d g : Nat) (w : World) (hu : Il w gv (zi gs)) (hg : gs ∈ subs0) (ho : [a, b, c, d] ∈ owners0 gs) (g1 : 1 ≤ g) (g4 : g ≤ 4) (hc : gs.contains g = false) (hn : num ≠ 1099511627776) :
    Calls Tryz.prog 67 #[.agg (cf num gv a b c d), .agg #[.int .i64 1, .int .i64 g, .int .i64 0]] w fun e W' => ∃ (v : Value) (p q r t : Nat), e = .returned (.tuple #[.agg (cf (num + 1) v p q r t), .int .i64 0]) ∧ Il W' v (zi (nG 1 g gs)) ∧ [p, q, r, t] = nO 1 g 0 gs [a, b, c, d] ∧ Fr w.heap.size v ∧ (∀ j, v.ownBlock = some j → j < W'.heap.size) ∧ Below w.heap.size w W' := by
  have HNM : Hid (num ≠ 1099511627776) := hn
  clear hn
  have HOK : Hid (okK 1 g 0 gs) := ⟨g1, g4, .inl ⟨rfl, hc, rfl⟩⟩
  have HGO : Hid (gs ∈ subs0 ∧ [a, b, c, d] ∈ owners0 gs) := ⟨hg, ho⟩
  obtain ⟨W0, hW0⟩ : ∃ W, ((w.alloc (.cells (cf num gv a b c d) 32)).alloc (.cells #[.int .i64 1, .int .i64 g, .int .i64 0] 100)).alloc (.cells (cf 0 (.slice none 0 0) 0 0 0 0) 32) = W := ⟨_, rfl⟩
  have hN := nb_of num gv a b c d 1 g 0 w W0 hW0
  have HV : Hid (((w.alloc (.cells (cf num gv a b c d) 32)).alloc (.cells #[.int .i64 1, .int .i64 g, .int .i64 0] 100)).alloc (.cells (cf 0 (.slice none 0 0) 0 0 0 0) 32) = W0) := hW0
  have HN : Hid (Nb w num gv a b c d 1 g 0 W0) := hN
  have hC := rCheck_any num gv (zi gs) a b c d W0 (hu.next hN.bel) (by rw [zi_len]; have := (conf_of hg).1; omega)
  rw [if_pos (show okC num (zi gs) [(a : Int), b, c, d] = true from ok_conf hg ho n0 n1)] at hC
  have K0 : Hid (W0.rangeAt w.heap.size 0 (cfL num gv a b c d)) := blk_range (L := cfL num gv a b c d) hN.r0
  have HU : Hid (Il w gv (zi gs)) := hu
  have HIn : Hid (∀ (x : Nat) W, Below w.heap.size w W → Calls Tryz.prog 44 #[gv, .int .i64 (x : Int)] W fun e W' => e = .returned (.bool (gs.contains x)) ∧ W' = W) := fun x W hW => by
    have := rIn_any (zi gs) x gv W (HU.out.next hW) (by rw [zi_len]; have := (conf_of hg).1; omega)
    rw [isIn_zi'] at this
    exact this
  have hl4 := (conf_of hg).1
  obtain ⟨pa, pc, hpv⟩ := hu.slice
  rw [zi_len] at hpv
  subst hpv
  have dg1 : ¬ (g : Int) < 1 := by omega
  have dg4 : ¬ (4 : Int) < (g : Int) := by omega
  clear hW0 hN hu
  go_enter Tryz.func67, Tryz.ntmps67
  go_upto_region 1 with fail
  rw [HV.out]
  clear HV
  go_upto_region 3 with (first
    | (refine wpList_load_mid rfl 32 _ rfl w.heap.size 0 rfl (cfL num (.slice pa gs.length pc) a b c d) _ K0.out Tryz.underlying32 rfl Tryz.size32 ?_)
    | (go_at_call 14; refine hC.mono ?_; rintro e w1 ⟨rfl, hb1⟩; have HN1 : Hid (Nb w num (.slice pa gs.length pc) a b c d 1 g 0 w1) := HN.out.next hb1; clear hb1))
  clear hC K0 HN
  have x0 := cellB HN1.out.r1 0 _ rfl
  have x1 := cellB HN1.out.r1 1 _ rfl
  have x2 := cellB HN1.out.r1 2 _ rfl
  have y1 := cellB HN1.out.r0 1 _ rfl
  have hI := HIn.out g w1 HN1.out.bel
  rw [hc] at hI
  clear hc
  go_upto_region 5 with fail
  go_upto_region 6 with (first
    | (go_at_call 44; refine hI.mono ?_; rintro e w2 ⟨rfl, h9⟩; subst w2))
  clear hI
  go_quiet (fail)
  have HND := HN1.out.next (below_drewN (Below.refl _ w1) nq)
  obtain ⟨WD, hWD⟩ : ∃ W, w1.drewN nq = W := ⟨_, rfl⟩
  rw [hWD] at HND ⊢
  have hnq : (num == 1099511627776) = false := by simpa using HNM.out
  have hn2 : num < 1099511627776 := by have := HNM.out; omega
  have z0 := cellB HND.r0 0 _ rfl
  have z2 := cellB HND.r0 2 _ rfl
  have z3 := cellB HND.r0 3 _ rfl
  have z4 := cellB HND.r0 4 _ rfl
  have z5 := cellB HND.r0 5 _ rfl
  clear x0 x1 x2 y1 hWD
  go_upto_region 11 with fail
  clear z0 z2 z3 z4 z5
  have hbX := (Below.refl WD.heap.size WD).alloc (Nat.le_refl _) (.cells (cf (num + 1) (.slice none 0 0) a b c d) 32)
  have rX := heap_alloc_new WD (.cells (cf (num + 1) (.slice none 0 0) a b c d) 32)
  obtain ⟨W2, hW2⟩ : ∃ W, WD.alloc (.cells (cf (num + 1) (.slice none 0 0) a b c d) 32) = W := ⟨_, rfl⟩
  have hsX : W2.heap.size = WD.heap.size + 1 := by rw [← hW2]; simp
  rw [hW2] at hbX rX ⊢
  obtain ⟨X, hXX⟩ : ∃ X, WD.heap.size = X := ⟨_, rfl⟩
  rw [hXX] at rX hsX ⊢
  have HXW : Hid (X < W2.heap.size) := by show _ < _; omega
  have HXD : Hid (WD.heap.size = X) := hXX
  have HX0 : Hid (Nx WD W2 X (num + 1) a b c d [] (.slice none 0 0) W2) := ⟨hbX, rX, World.ownsRow_nil _ _ _ _, Nat.le_refl _⟩
  have HNB : Hid (Nb w num (.slice pa gs.length pc) a b c d 1 g 0 WD) := HND
  obtain ⟨i0, hi, hz0, hz1, hz2⟩ := info_parts Tryz.info3
  clear hbX rX hW2 hXX hsX HND
  go_wp2_with fail
  go_loopg [8] 4 (fun gk i wr => ∃ (n N : Nat) (u : Value), N = n + 1 ∧ n + gk = 4 ∧ i = .int .i64 (N : Int) ∧ Nx WD W2 X (num + 1) a b c d (kpT 1 g gs n) u wr)
  case atStart => exact ⟨0, 1, _, rfl, by omega, rfl, HX0.out⟩
  case round =>
    obtain ⟨n, N, u, hN, hng, rfl, hX⟩ := hrel
    have HNN : Hid (N = n + 1) := hN
    clear hN
    clear HX0
    have hNw := HNB.out.next hX.bel
    by_cases hn4 : n < 4
    · have le4 : (N : Int) ≤ 4 := by have := HNN.out; omega
      have x0 := cellB hNw.r1 0 _ rfl
      have x1 := cellB hNw.r1 1 _ rfl
      have y1 := cellB hNw.r0 1 _ rfl
      have hI := HIn.out N wr hNw.bel
      clear hNw
      by_cases hgn : g = N
      · have hq : ((g : Int) == (N : Int)) = true := by rw [beq_iff_eq]; omega
        obtain ⟨B, hB⟩ : ∃ B, gs.contains N = B := ⟨_, rfl⟩
        rw [hB] at hI
        have hkp : kpG 1 g gs N = true := by unfold kpG; rw [if_pos (by simpa using hgn)]; rfl
        clear hgn hB
        have HT : Hid (kpT 1 g gs (n + 1) = kpT 1 g gs n ++ [N]) := by show _ = _; rw [kpT_succ _ _ _ _ hn4, ← HNN.out, hkp]; rfl
        have hml : (kpT 1 g gs n).length + 1 ≤ maxLen := by unfold maxLen; have := kpT_len 1 g gs n (by omega); omega
        have hkb : ((kpT 1 g gs n).length + 1) * 8 ≤ 140737488355328 := by have := kpT_len 1 g gs n (by omega); omega
        obtain ⟨L, hL⟩ : ∃ L, kpT 1 g gs n = L := ⟨_, rfl⟩
        rw [hL] at hX HT hml hkb
        have hown := hX.own
        obtain ⟨ua, uc, rfl⟩ := owns_slice hown
        have v1 := cellB hX.cfg 1 _ rfl
        have HX2 : Hid (Nx WD W2 X (num + 1) a b c d L (.slice ua L.length uc) wr) := hX
        have hlow := hX.low
        clear hX hL
        go_wp2_with (first
          | (go_at_call 44; refine hI.mono ?_; rintro e w3 ⟨rfl, h9⟩; subst w3)
          | (at_builtin; refine wpList_append_own _ rfl _ _ 22 rfl W2.heap.size 3 i0 (.int .i64 0) 1 8 Tryz.underlying22 hi hz0 hz1 hz2 rfl (by decide) (.slice ua L.length uc) L.length (zcs (zi L)) rfl (hown.alloc _) _ 1 1 [.int .i64 (N : Int)] rfl rfl (World.news_of_block (heap_alloc_new _ _)) (by simp [Value.oneCell']) hml hkb (by simp; omega) ?_; intro v' w5 j1 j2 _; obtain ⟨gb, cap, rfl⟩ := some_of j1 (by omega); have hXo : (Value.slice ua L.length uc).ownBlock ≠ some X := (fun h => by have := (hown.lt X h).1; have := HXW.out; omega); have hXs : X < wr.heap.size := (by have := HXW.out; omega); have g5 := (j2.block X (by simp; omega) hXo.symm).trans ((Below.heap_alloc _ _ _ hXs).trans HX2.out.cfg); have hB5 := (HX2.out.bel.alloc HX2.out.bel.size (.cells #[.int .i64 (N : Int)] 3)).grown j2 (Nat.le_trans HX2.out.bel.size (by simp)) (fun q hq => by have := (hown.lt q hq).1; have := HXW.out; have := HXD.out; omega); have v5 := cellB g5 1 _ rfl; have f5 := frozenB g5 1; have hs5 := j2.size; have HK : Hid (_ ∧ _ ∧ _ ∧ _) := ⟨j1, g5, hB5, hs5⟩; clear j1 j2 g5 hB5 hs5))
        go_roundg (4 - (n + 1))
        case measure => omega
        case rel =>
          obtain ⟨j1, g5, hB5, hs5⟩ := HK.out
          have hgX : gb ≠ X := by have := (j1.lt gb rfl).1; have := HXW.out; omega
          refine ⟨n + 1, N + 1, .slice (some ⟨gb, 0, none⟩) (L.length + 1) cap, by rw [HNN.out], by omega, by go_num, ?_⟩
          rw [HT.out]
          refine ⟨hB5.setCell (p := ⟨X, 1, none⟩) (by show WD.heap.size ≤ X; have := HXD.out; omega) _, setB g5 1 _, ?_, ?_⟩
          · rw [List.length_append, show zi (L ++ [N]) = zi L ++ [(N : Int)] by simp [zi], zcs_snoc]
            exact owns_kept j1 (fun q hq => set_far (by have : gb = q := by simpa [Value.ownBlock] using hq
                                                        omega) _ _)
          · have : (wr.alloc (.cells #[.int .i64 (N : Int)] 3)).heap.size = wr.heap.size + 1 := by simp
            simp [World.setCell]
            omega
      · have hq : ((g : Int) == (N : Int)) = false := by rw [beq_eq_false_iff_ne]; omega
        have hkp : kpG 1 g gs N = gs.contains N := by unfold kpG; rw [if_neg (by simpa using hgn)]
        obtain ⟨B, hB⟩ : ∃ B, gs.contains N = B := ⟨_, rfl⟩
        rw [hB] at hI hkp
        clear hgn hB
        cases B with
        | true =>
          have HT : Hid (kpT 1 g gs (n + 1) = kpT 1 g gs n ++ [N]) := by show _ = _; rw [kpT_succ _ _ _ _ hn4, ← HNN.out, hkp]; rfl
          have hml : (kpT 1 g gs n).length + 1 ≤ maxLen := by unfold maxLen; have := kpT_len 1 g gs n (by omega); omega
          have hkb : ((kpT 1 g gs n).length + 1) * 8 ≤ 140737488355328 := by have := kpT_len 1 g gs n (by omega); omega
          obtain ⟨L, hL⟩ : ∃ L, kpT 1 g gs n = L := ⟨_, rfl⟩
          rw [hL] at hX HT hml hkb
          have hown := hX.own
          obtain ⟨ua, uc, rfl⟩ := owns_slice hown
          have v1 := cellB hX.cfg 1 _ rfl
          have HX2 : Hid (Nx WD W2 X (num + 1) a b c d L (.slice ua L.length uc) wr) := hX
          have hlow := hX.low
          clear hX hL
          go_wp2_with (first
            | (go_at_call 44; refine hI.mono ?_; rintro e w3 ⟨rfl, h9⟩; subst w3)
            | (at_builtin; refine wpList_append_own _ rfl _ _ 22 rfl W2.heap.size 3 i0 (.int .i64 0) 1 8 Tryz.underlying22 hi hz0 hz1 hz2 rfl (by decide) (.slice ua L.length uc) L.length (zcs (zi L)) rfl (hown.alloc _) _ 1 1 [.int .i64 (N : Int)] rfl rfl (World.news_of_block (heap_alloc_new _ _)) (by simp [Value.oneCell']) hml hkb (by simp; omega) ?_; intro v' w5 j1 j2 _; obtain ⟨gb, cap, rfl⟩ := some_of j1 (by omega); have hXo : (Value.slice ua L.length uc).ownBlock ≠ some X := (fun h => by have := (hown.lt X h).1; have := HXW.out; omega); have hXs : X < wr.heap.size := (by have := HXW.out; omega); have g5 := (j2.block X (by simp; omega) hXo.symm).trans ((Below.heap_alloc _ _ _ hXs).trans HX2.out.cfg); have hB5 := (HX2.out.bel.alloc HX2.out.bel.size (.cells #[.int .i64 (N : Int)] 3)).grown j2 (Nat.le_trans HX2.out.bel.size (by simp)) (fun q hq => by have := (hown.lt q hq).1; have := HXW.out; have := HXD.out; omega); have v5 := cellB g5 1 _ rfl; have f5 := frozenB g5 1; have hs5 := j2.size; have HK : Hid (_ ∧ _ ∧ _ ∧ _) := ⟨j1, g5, hB5, hs5⟩; clear j1 j2 g5 hB5 hs5))
          go_roundg (4 - (n + 1))
          case measure => omega
          case rel =>
            obtain ⟨j1, g5, hB5, hs5⟩ := HK.out
            have hgX : gb ≠ X := by have := (j1.lt gb rfl).1; have := HXW.out; omega
            refine ⟨n + 1, N + 1, .slice (some ⟨gb, 0, none⟩) (L.length + 1) cap, by rw [HNN.out], by omega, by go_num, ?_⟩
            rw [HT.out]
            refine ⟨hB5.setCell (p := ⟨X, 1, none⟩) (by show WD.heap.size ≤ X; have := HXD.out; omega) _, setB g5 1 _, ?_, ?_⟩
            · rw [List.length_append, show zi (L ++ [N]) = zi L ++ [(N : Int)] by simp [zi], zcs_snoc]
              exact owns_kept j1 (fun q hq => set_far (by have : gb = q := by simpa [Value.ownBlock] using hq
                                                          omega) _ _)
            · have : (wr.alloc (.cells #[.int .i64 (N : Int)] 3)).heap.size = wr.heap.size + 1 := by simp
              simp [World.setCell]
              omega
        | false =>
          have HT : Hid (kpT 1 g gs (n + 1) = kpT 1 g gs n) := by show _ = _; rw [kpT_succ _ _ _ _ hn4, ← HNN.out, hkp]; rfl
          have HX2 : Hid (Nx WD W2 X (num + 1) a b c d (kpT 1 g gs n) u wr) := hX
          clear hX
          go_wp2_with (first
            | (go_at_call 44; refine hI.mono ?_; rintro e w3 ⟨rfl, h9⟩; subst w3))
          go_roundg (4 - (n + 1))
          case measure => omega
          case rel => exact ⟨n + 1, N + 1, u, by rw [HNN.out], by omega, by go_num, by rw [HT.out]; exact HX2.out⟩
    · have hn4 : n = 4 := by omega
      subst hn4
      have hkp := kp_of HGO.out.1 HOK.out
      rw [hkp] at hX
      obtain ⟨hm1, hm2, hpos⟩ := nx_mem HGO.out.1 HGO.out.2 HOK.out
      obtain ⟨G, hGG⟩ : ∃ G, nG 1 g gs = G := ⟨_, rfl⟩
      rw [hGG] at hX hpos hm1
      obtain ⟨ua, uc, rfl⟩ := owns_slice hX.own
      have hil : Il wr (.slice ua G.length uc) (zi G) := Il_owns (base := W2.heap.size) (by rw [zi_len]; exact hX.own)
      have hlt : ∀ j, (Value.slice ua G.length uc).ownBlock = some j → W2.heap.size ≤ j ∧ j < wr.heap.size := fun j hj => hX.own.lt j hj
      have x0 := cellB hNw.r1 0 _ rfl
      have x1 := cellB hNw.r1 1 _ rfl
      have x2 := cellB hNw.r1 2 _ rfl
      have hN5 : ¬ (N : Int) ≤ 4 := by have := HNN.out; omega
      have hsz := HNB.out.size
      have HNW : Hid (Nb w num (.slice pa gs.length pc) a b c d 1 g 0 wr) := hNw
      have HLT : Hid (∀ j, (Value.slice ua G.length uc).ownBlock = some j → W2.heap.size ≤ j ∧ j < wr.heap.size) := hlt
      have HIL : Hid (Il wr (.slice ua G.length uc) (zi G)) := hil
      have HGG : Hid (nG 1 g gs = G) := hGG
      have HSZ : Hid (w.heap.size + 3 ≤ X) := by have := HXD.out; show _ ≤ _; omega
      have HGV : Hid (rGv G [a, b, c, d] = nO 1 g 0 gs [a, b, c, d]) := by show _ = _; rw [← hGG]; exact gv_of HGO.out.1 HGO.out.2 HOK.out (by decide)
      have hGv := rGive_any (num + 1) (.slice ua G.length uc) G a b c d wr hil hpos (by have := (conf_of hm1).1; omega)
      have KX : Hid (wr.rangeAt X 0 (cfL (num + 1) (.slice ua G.length uc) a b c d)) := blk_range (L := cfL (num + 1) (.slice ua G.length uc) a b c d) hX.cfg
      clear hX hNw hil hlt hGG hkp hm1 hm2 hsz
      go_upto_region 22 with fail
      go_wp2_with (first
        | (refine wpList_load_mid rfl 32 _ rfl X 0 rfl (cfL (num + 1) (.slice ua G.length uc) a b c d) _ KX.out Tryz.underlying32 rfl Tryz.size32 ?_)
        | (go_at_call 80; refine hGv.mono ?_; rintro e w6 ⟨p, q, r, t, rfl, hO, hb6⟩; have HO : Hid ([p, q, r, t] = rGv G [a, b, c, d]) := hO; have HB6 : Hid (Below wr.heap.size wr w6) := hb6; have KS : Hid (w6.there (w.heap.size + 2) 0 6) := blk_there (HNW.out.next hb6).r2 0 6 (Nat.le_refl _); clear hO hb6)
        | (refine wpList_store_mid rfl 32 _ _ rfl (w.heap.size + 2) 0 (cf (num + 1) (.slice ua G.length uc) p q r t) rfl rfl KS.out Tryz.size32 (cf_ones _ _ _ _ _ _ _ _) ?_))
      have hN6 := HNW.out.next HB6.out
      have k4 := blk_range (blk_set hN6.r2 (L := cfL (num + 1) (.slice ua G.length uc) p q r t) rfl)
      have hxw := HXW.out
      have hsz := HSZ.out
      refine bodyPost_ret (v := .tuple #[.agg (cf (num + 1) (.slice ua G.length uc) p q r t), .int .i64 0]) (results_two rfl rfl rfl (res32 k4 rfl)) rfl ⟨.slice ua G.length uc, p, q, r, t, rfl, ?_, by rw [HO.out, HGV.out], fun j hj => by have := (HLT.out j hj).1; omega, fun j hj => ?_, blk_below (by omega) _ _ _ hN6.bel⟩
      · rw [HGG.out]
        exact Il_keep (HIL.out.next HB6.out) (fun j hj => by have := (HLT.out j hj).1; omega)
      · have := (HLT.out j hj).2
        have := HB6.out.size
        rw [blk_size]
        omega
set_option maxRecDepth 20000 in
set_option maxHeartbeats 2000000 in
theorem rNext_k2 (num : Int) (n0 : 0 ≤ num) (n1 : num ≤ 1099511627776) (gv : Value) (gs : List Nat) (a b c d g : Nat) (w : World) (hu : Il w gv (zi gs)) (hg : gs ∈ subs0) (ho : [a, b, c, d] ∈ owners0 gs) (g1 : 1 ≤ g) (g4 : g ≤ 4) (hc : gs.contains g = true) (hl1 : 1 < gs.length)  (hn : num ≠ 1099511627776) :
    Calls Tryz.prog 67 #[.agg (cf num gv a b c d), .agg #[.int .i64 2, .int .i64 g, .int .i64 0]] w fun e W' => ∃ (v : Value) (p q r t : Nat), e = .returned (.tuple #[.agg (cf (num + 1) v p q r t), .int .i64 0]) ∧ Il W' v (zi (nG 2 g gs)) ∧ [p, q, r, t] = nO 2 g 0 gs [a, b, c, d] ∧ Fr w.heap.size v ∧ (∀ j, v.ownBlock = some j → j < W'.heap.size) ∧ Below w.heap.size w W' := by
  have HNM : Hid (num ≠ 1099511627776) := hn
  clear hn
  have HOK : Hid (okK 2 g 0 gs) := ⟨g1, g4, .inr (.inl ⟨rfl, hc, hl1, rfl⟩)⟩
  have HGO : Hid (gs ∈ subs0 ∧ [a, b, c, d] ∈ owners0 gs) := ⟨hg, ho⟩
  obtain ⟨W0, hW0⟩ : ∃ W, ((w.alloc (.cells (cf num gv a b c d) 32)).alloc (.cells #[.int .i64 2, .int .i64 g, .int .i64 0] 100)).alloc (.cells (cf 0 (.slice none 0 0) 0 0 0 0) 32) = W := ⟨_, rfl⟩
  have hN := nb_of num gv a b c d 2 g 0 w W0 hW0
  have HV : Hid (((w.alloc (.cells (cf num gv a b c d) 32)).alloc (.cells #[.int .i64 2, .int .i64 g, .int .i64 0] 100)).alloc (.cells (cf 0 (.slice none 0 0) 0 0 0 0) 32) = W0) := hW0
  have HN : Hid (Nb w num gv a b c d 2 g 0 W0) := hN
  have hC := rCheck_any num gv (zi gs) a b c d W0 (hu.next hN.bel) (by rw [zi_len]; have := (conf_of hg).1; omega)
  rw [if_pos (show okC num (zi gs) [(a : Int), b, c, d] = true from ok_conf hg ho n0 n1)] at hC
  have K0 : Hid (W0.rangeAt w.heap.size 0 (cfL num gv a b c d)) := blk_range (L := cfL num gv a b c d) hN.r0
  have HU : Hid (Il w gv (zi gs)) := hu
  have HIn : Hid (∀ (x : Nat) W, Below w.heap.size w W → Calls Tryz.prog 44 #[gv, .int .i64 (x : Int)] W fun e W' => e = .returned (.bool (gs.contains x)) ∧ W' = W) := fun x W hW => by
    have := rIn_any (zi gs) x gv W (HU.out.next hW) (by rw [zi_len]; have := (conf_of hg).1; omega)
    rw [isIn_zi'] at this
    exact this
  have hl4 := (conf_of hg).1
  obtain ⟨pa, pc, hpv⟩ := hu.slice
  rw [zi_len] at hpv
  subst hpv
  have dg1 : ¬ (g : Int) < 1 := by omega
  have dg4 : ¬ (4 : Int) < (g : Int) := by omega
  clear hW0 hN hu
  have hq1 : ((gs.length : Int) == 1) = false := by rw [beq_eq_false_iff_ne]; omega
  have HL1 : Hid (1 < gs.length) := hl1
  clear hl1
  go_enter Tryz.func67, Tryz.ntmps67
  go_upto_region 1 with fail
  rw [HV.out]
  clear HV
  go_upto_region 3 with (first
    | (refine wpList_load_mid rfl 32 _ rfl w.heap.size 0 rfl (cfL num (.slice pa gs.length pc) a b c d) _ K0.out Tryz.underlying32 rfl Tryz.size32 ?_)
    | (go_at_call 14; refine hC.mono ?_; rintro e w1 ⟨rfl, hb1⟩; have HN1 : Hid (Nb w num (.slice pa gs.length pc) a b c d 2 g 0 w1) := HN.out.next hb1; clear hb1))
  clear hC K0 HN
  have x0 := cellB HN1.out.r1 0 _ rfl
  have x1 := cellB HN1.out.r1 1 _ rfl
  have x2 := cellB HN1.out.r1 2 _ rfl
  have y1 := cellB HN1.out.r0 1 _ rfl
  have hI := HIn.out g w1 HN1.out.bel
  rw [hc] at hI
  clear hc
  go_upto_region 5 with fail
  go_upto_region 6 with (first
    | (go_at_call 44; refine hI.mono ?_; rintro e w2 ⟨rfl, h9⟩; subst w2))
  clear hI
  go_quiet (fail)
  have HND := HN1.out.next (below_drewN (Below.refl _ w1) nq)
  obtain ⟨WD, hWD⟩ : ∃ W, w1.drewN nq = W := ⟨_, rfl⟩
  rw [hWD] at HND ⊢
  have hnq : (num == 1099511627776) = false := by simpa using HNM.out
  have hn2 : num < 1099511627776 := by have := HNM.out; omega
  have z0 := cellB HND.r0 0 _ rfl
  have z2 := cellB HND.r0 2 _ rfl
  have z3 := cellB HND.r0 3 _ rfl
  have z4 := cellB HND.r0 4 _ rfl
  have z5 := cellB HND.r0 5 _ rfl
  clear x0 x1 x2 y1 hWD
  go_upto_region 11 with fail
  clear z0 z2 z3 z4 z5
  have hbX := (Below.refl WD.heap.size WD).alloc (Nat.le_refl _) (.cells (cf (num + 1) (.slice none 0 0) a b c d) 32)
  have rX := heap_alloc_new WD (.cells (cf (num + 1) (.slice none 0 0) a b c d) 32)
  obtain ⟨W2, hW2⟩ : ∃ W, WD.alloc (.cells (cf (num + 1) (.slice none 0 0) a b c d) 32) = W := ⟨_, rfl⟩
  have hsX : W2.heap.size = WD.heap.size + 1 := by rw [← hW2]; simp
  rw [hW2] at hbX rX ⊢
  obtain ⟨X, hXX⟩ : ∃ X, WD.heap.size = X := ⟨_, rfl⟩
  rw [hXX] at rX hsX ⊢
  have HXW : Hid (X < W2.heap.size) := by show _ < _; omega
  have HXD : Hid (WD.heap.size = X) := hXX
  have HX0 : Hid (Nx WD W2 X (num + 1) a b c d [] (.slice none 0 0) W2) := ⟨hbX, rX, World.ownsRow_nil _ _ _ _, Nat.le_refl _⟩
  have HNB : Hid (Nb w num (.slice pa gs.length pc) a b c d 2 g 0 WD) := HND
  obtain ⟨i0, hi, hz0, hz1, hz2⟩ := info_parts Tryz.info3
  clear hbX rX hW2 hXX hsX HND
  go_wp2_with fail
  go_loopg [8] 4 (fun gk i wr => ∃ (n N : Nat) (u : Value), N = n + 1 ∧ n + gk = 4 ∧ i = .int .i64 (N : Int) ∧ Nx WD W2 X (num + 1) a b c d (kpT 2 g gs n) u wr)
  case atStart => exact ⟨0, 1, _, rfl, by omega, rfl, HX0.out⟩
  case round =>
    obtain ⟨n, N, u, hN, hng, rfl, hX⟩ := hrel
    have HNN : Hid (N = n + 1) := hN
    clear hN
    clear HX0
    have hNw := HNB.out.next hX.bel
    by_cases hn4 : n < 4
    · have le4 : (N : Int) ≤ 4 := by have := HNN.out; omega
      have x0 := cellB hNw.r1 0 _ rfl
      have x1 := cellB hNw.r1 1 _ rfl
      have y1 := cellB hNw.r0 1 _ rfl
      have hI := HIn.out N wr hNw.bel
      clear hNw
      by_cases hgn : g = N
      · have hq : ((g : Int) == (N : Int)) = true := by rw [beq_iff_eq]; omega
        obtain ⟨B, hB⟩ : ∃ B, gs.contains N = B := ⟨_, rfl⟩
        rw [hB] at hI
        have hkp : kpG 2 g gs N = false := by unfold kpG; rw [if_pos (by simpa using hgn)]; rfl
        clear hgn hB
        have HT : Hid (kpT 2 g gs (n + 1) = kpT 2 g gs n) := by show _ = _; rw [kpT_succ _ _ _ _ hn4, ← HNN.out, hkp]; rfl
        have HX2 : Hid (Nx WD W2 X (num + 1) a b c d (kpT 2 g gs n) u wr) := hX
        clear hX
        go_wp2_with (first
          | (go_at_call 44; refine hI.mono ?_; rintro e w3 ⟨rfl, h9⟩; subst w3))
        go_roundg (4 - (n + 1))
        case measure => omega
        case rel => exact ⟨n + 1, N + 1, u, by rw [HNN.out], by omega, by go_num, by rw [HT.out]; exact HX2.out⟩
      · have hq : ((g : Int) == (N : Int)) = false := by rw [beq_eq_false_iff_ne]; omega
        have hkp : kpG 2 g gs N = gs.contains N := by unfold kpG; rw [if_neg (by simpa using hgn)]
        obtain ⟨B, hB⟩ : ∃ B, gs.contains N = B := ⟨_, rfl⟩
        rw [hB] at hI hkp
        clear hgn hB
        cases B with
        | true =>
          have HT : Hid (kpT 2 g gs (n + 1) = kpT 2 g gs n ++ [N]) := by show _ = _; rw [kpT_succ _ _ _ _ hn4, ← HNN.out, hkp]; rfl
          have hml : (kpT 2 g gs n).length + 1 ≤ maxLen := by unfold maxLen; have := kpT_len 2 g gs n (by omega); omega
          have hkb : ((kpT 2 g gs n).length + 1) * 8 ≤ 140737488355328 := by have := kpT_len 2 g gs n (by omega); omega
          obtain ⟨L, hL⟩ : ∃ L, kpT 2 g gs n = L := ⟨_, rfl⟩
          rw [hL] at hX HT hml hkb
          have hown := hX.own
          obtain ⟨ua, uc, rfl⟩ := owns_slice hown
          have v1 := cellB hX.cfg 1 _ rfl
          have HX2 : Hid (Nx WD W2 X (num + 1) a b c d L (.slice ua L.length uc) wr) := hX
          have hlow := hX.low
          clear hX hL
          go_wp2_with (first
            | (go_at_call 44; refine hI.mono ?_; rintro e w3 ⟨rfl, h9⟩; subst w3)
            | (at_builtin; refine wpList_append_own _ rfl _ _ 22 rfl W2.heap.size 3 i0 (.int .i64 0) 1 8 Tryz.underlying22 hi hz0 hz1 hz2 rfl (by decide) (.slice ua L.length uc) L.length (zcs (zi L)) rfl (hown.alloc _) _ 1 1 [.int .i64 (N : Int)] rfl rfl (World.news_of_block (heap_alloc_new _ _)) (by simp [Value.oneCell']) hml hkb (by simp; omega) ?_; intro v' w5 j1 j2 _; obtain ⟨gb, cap, rfl⟩ := some_of j1 (by omega); have hXo : (Value.slice ua L.length uc).ownBlock ≠ some X := (fun h => by have := (hown.lt X h).1; have := HXW.out; omega); have hXs : X < wr.heap.size := (by have := HXW.out; omega); have g5 := (j2.block X (by simp; omega) hXo.symm).trans ((Below.heap_alloc _ _ _ hXs).trans HX2.out.cfg); have hB5 := (HX2.out.bel.alloc HX2.out.bel.size (.cells #[.int .i64 (N : Int)] 3)).grown j2 (Nat.le_trans HX2.out.bel.size (by simp)) (fun q hq => by have := (hown.lt q hq).1; have := HXW.out; have := HXD.out; omega); have v5 := cellB g5 1 _ rfl; have f5 := frozenB g5 1; have hs5 := j2.size; have HK : Hid (_ ∧ _ ∧ _ ∧ _) := ⟨j1, g5, hB5, hs5⟩; clear j1 j2 g5 hB5 hs5))
          go_roundg (4 - (n + 1))
          case measure => omega
          case rel =>
            obtain ⟨j1, g5, hB5, hs5⟩ := HK.out
            have hgX : gb ≠ X := by have := (j1.lt gb rfl).1; have := HXW.out; omega
            refine ⟨n + 1, N + 1, .slice (some ⟨gb, 0, none⟩) (L.length + 1) cap, by rw [HNN.out], by omega, by go_num, ?_⟩
            rw [HT.out]
            refine ⟨hB5.setCell (p := ⟨X, 1, none⟩) (by show WD.heap.size ≤ X; have := HXD.out; omega) _, setB g5 1 _, ?_, ?_⟩
            · rw [List.length_append, show zi (L ++ [N]) = zi L ++ [(N : Int)] by simp [zi], zcs_snoc]
              exact owns_kept j1 (fun q hq => set_far (by have : gb = q := by simpa [Value.ownBlock] using hq
                                                          omega) _ _)
            · have : (wr.alloc (.cells #[.int .i64 (N : Int)] 3)).heap.size = wr.heap.size + 1 := by simp
              simp [World.setCell]
              omega
        | false =>
          have HT : Hid (kpT 2 g gs (n + 1) = kpT 2 g gs n) := by show _ = _; rw [kpT_succ _ _ _ _ hn4, ← HNN.out, hkp]; rfl
          have HX2 : Hid (Nx WD W2 X (num + 1) a b c d (kpT 2 g gs n) u wr) := hX
          clear hX
          go_wp2_with (first
            | (go_at_call 44; refine hI.mono ?_; rintro e w3 ⟨rfl, h9⟩; subst w3))
          go_roundg (4 - (n + 1))
          case measure => omega
          case rel => exact ⟨n + 1, N + 1, u, by rw [HNN.out], by omega, by go_num, by rw [HT.out]; exact HX2.out⟩
    · have hn4 : n = 4 := by omega
      subst hn4
      have hkp := kp_of HGO.out.1 HOK.out
      rw [hkp] at hX
      obtain ⟨hm1, hm2, hpos⟩ := nx_mem HGO.out.1 HGO.out.2 HOK.out
      obtain ⟨G, hGG⟩ : ∃ G, nG 2 g gs = G := ⟨_, rfl⟩
      rw [hGG] at hX hpos hm1
      obtain ⟨ua, uc, rfl⟩ := owns_slice hX.own
      have hil : Il wr (.slice ua G.length uc) (zi G) := Il_owns (base := W2.heap.size) (by rw [zi_len]; exact hX.own)
      have hlt : ∀ j, (Value.slice ua G.length uc).ownBlock = some j → W2.heap.size ≤ j ∧ j < wr.heap.size := fun j hj => hX.own.lt j hj
      have x0 := cellB hNw.r1 0 _ rfl
      have x1 := cellB hNw.r1 1 _ rfl
      have x2 := cellB hNw.r1 2 _ rfl
      have hN5 : ¬ (N : Int) ≤ 4 := by have := HNN.out; omega
      have hsz := HNB.out.size
      have HNW : Hid (Nb w num (.slice pa gs.length pc) a b c d 2 g 0 wr) := hNw
      have HLT : Hid (∀ j, (Value.slice ua G.length uc).ownBlock = some j → W2.heap.size ≤ j ∧ j < wr.heap.size) := hlt
      have HIL : Hid (Il wr (.slice ua G.length uc) (zi G)) := hil
      have HGG : Hid (nG 2 g gs = G) := hGG
      have HSZ : Hid (w.heap.size + 3 ≤ X) := by have := HXD.out; show _ ≤ _; omega
      have HGV : Hid (rGv G [a, b, c, d] = nO 2 g 0 gs [a, b, c, d]) := by show _ = _; rw [← hGG]; exact gv_of HGO.out.1 HGO.out.2 HOK.out (by decide)
      have hGv := rGive_any (num + 1) (.slice ua G.length uc) G a b c d wr hil hpos (by have := (conf_of hm1).1; omega)
      have KX : Hid (wr.rangeAt X 0 (cfL (num + 1) (.slice ua G.length uc) a b c d)) := blk_range (L := cfL (num + 1) (.slice ua G.length uc) a b c d) hX.cfg
      clear hX hNw hil hlt hGG hkp hm1 hm2 hsz
      go_upto_region 22 with fail
      go_wp2_with (first
        | (refine wpList_load_mid rfl 32 _ rfl X 0 rfl (cfL (num + 1) (.slice ua G.length uc) a b c d) _ KX.out Tryz.underlying32 rfl Tryz.size32 ?_)
        | (go_at_call 80; refine hGv.mono ?_; rintro e w6 ⟨p, q, r, t, rfl, hO, hb6⟩; have HO : Hid ([p, q, r, t] = rGv G [a, b, c, d]) := hO; have HB6 : Hid (Below wr.heap.size wr w6) := hb6; have KS : Hid (w6.there (w.heap.size + 2) 0 6) := blk_there (HNW.out.next hb6).r2 0 6 (Nat.le_refl _); clear hO hb6)
        | (refine wpList_store_mid rfl 32 _ _ rfl (w.heap.size + 2) 0 (cf (num + 1) (.slice ua G.length uc) p q r t) rfl rfl KS.out Tryz.size32 (cf_ones _ _ _ _ _ _ _ _) ?_))
      have hN6 := HNW.out.next HB6.out
      have k4 := blk_range (blk_set hN6.r2 (L := cfL (num + 1) (.slice ua G.length uc) p q r t) rfl)
      have hxw := HXW.out
      have hsz := HSZ.out
      refine bodyPost_ret (v := .tuple #[.agg (cf (num + 1) (.slice ua G.length uc) p q r t), .int .i64 0]) (results_two rfl rfl rfl (res32 k4 rfl)) rfl ⟨.slice ua G.length uc, p, q, r, t, rfl, ?_, by rw [HO.out, HGV.out], fun j hj => by have := (HLT.out j hj).1; omega, fun j hj => ?_, blk_below (by omega) _ _ _ hN6.bel⟩
      · rw [HGG.out]
        exact Il_keep (HIL.out.next HB6.out) (fun j hj => by have := (HLT.out j hj).1; omega)
      · have := (HLT.out j hj).2
        have := HB6.out.size
        rw [blk_size]
        omega
set_option maxRecDepth 20000 in
set_option maxHeartbeats 2000000 in
theorem rNext_k3 (num : Int) (n0 : 0 ≤ num) (n1 : num ≤ 1099511627776) (gv : Value) (gs : List Nat) (a b c d g s : Nat) (w : World) (hu : Il w gv (zi gs)) (hg : gs ∈ subs0) (ho : [a, b, c, d] ∈ owners0 gs) (g1 : 1 ≤ g) (g4 : g ≤ 4) (hc : gs.contains g = true) (hs : s < 4) (t : Nat) (hw : [a, b, c, d][s]? = some t) (htg : t ≠ g) (hn : num ≠ 1099511627776) :
    Calls Tryz.prog 67 #[.agg (cf num gv a b c d), .agg #[.int .i64 3, .int .i64 g, .int .i64 s]] w fun e W' => ∃ (v : Value) (p q r t : Nat), e = .returned (.tuple #[.agg (cf (num + 1) v p q r t), .int .i64 0]) ∧ Il W' v (zi (nG 3 g gs)) ∧ [p, q, r, t] = nO 3 g s gs [a, b, c, d] ∧ Fr w.heap.size v ∧ (∀ j, v.ownBlock = some j → j < W'.heap.size) ∧ Below w.heap.size w W' := by
  have HNM : Hid (num ≠ 1099511627776) := hn
  clear hn
  have HOK : Hid (okK 3 g s gs) := ⟨g1, g4, .inr (.inr ⟨rfl, hc, hs⟩)⟩
  have HGO : Hid (gs ∈ subs0 ∧ [a, b, c, d] ∈ owners0 gs) := ⟨hg, ho⟩
  obtain ⟨W0, hW0⟩ : ∃ W, ((w.alloc (.cells (cf num gv a b c d) 32)).alloc (.cells #[.int .i64 3, .int .i64 g, .int .i64 s] 100)).alloc (.cells (cf 0 (.slice none 0 0) 0 0 0 0) 32) = W := ⟨_, rfl⟩
  have hN := nb_of num gv a b c d 3 g s w W0 hW0
  have HV : Hid (((w.alloc (.cells (cf num gv a b c d) 32)).alloc (.cells #[.int .i64 3, .int .i64 g, .int .i64 s] 100)).alloc (.cells (cf 0 (.slice none 0 0) 0 0 0 0) 32) = W0) := hW0
  have HN : Hid (Nb w num gv a b c d 3 g s W0) := hN
  have hC := rCheck_any num gv (zi gs) a b c d W0 (hu.next hN.bel) (by rw [zi_len]; have := (conf_of hg).1; omega)
  rw [if_pos (show okC num (zi gs) [(a : Int), b, c, d] = true from ok_conf hg ho n0 n1)] at hC
  have K0 : Hid (W0.rangeAt w.heap.size 0 (cfL num gv a b c d)) := blk_range (L := cfL num gv a b c d) hN.r0
  have HU : Hid (Il w gv (zi gs)) := hu
  have HIn : Hid (∀ (x : Nat) W, Below w.heap.size w W → Calls Tryz.prog 44 #[gv, .int .i64 (x : Int)] W fun e W' => e = .returned (.bool (gs.contains x)) ∧ W' = W) := fun x W hW => by
    have := rIn_any (zi gs) x gv W (HU.out.next hW) (by rw [zi_len]; have := (conf_of hg).1; omega)
    rw [isIn_zi'] at this
    exact this
  have hl4 := (conf_of hg).1
  obtain ⟨pa, pc, hpv⟩ := hu.slice
  rw [zi_len] at hpv
  subst hpv
  have dg1 : ¬ (g : Int) < 1 := by omega
  have dg4 : ¬ (4 : Int) < (g : Int) := by omega
  clear hW0 hN hu
  have ds0 : ¬ (s : Int) < 0 := by omega
  have ds4 : ¬ (4 : Int) ≤ (s : Int) := by omega
  have s0 : (0 : Int) ≤ (s : Int) := by omega
  have s4 : (s : Int) < 4 := by omega
  have htq : ((t : Int) == (g : Int)) = false := by rw [beq_eq_false_iff_ne]; omega
  have HCO : Hid ((cf num (.slice pa gs.length pc) a b c d)[2 + s]? = some (.int .i64 (t : Int))) := cf_at num (.slice pa gs.length pc) a b c d s t (by rcases s with _ | _ | _ | _ | s <;> simp at hw ⊢ <;> omega)
  go_enter Tryz.func67, Tryz.ntmps67
  go_upto_region 1 with fail
  rw [HV.out]
  clear HV
  go_upto_region 3 with (first
    | (refine wpList_load_mid rfl 32 _ rfl w.heap.size 0 rfl (cfL num (.slice pa gs.length pc) a b c d) _ K0.out Tryz.underlying32 rfl Tryz.size32 ?_)
    | (go_at_call 14; refine hC.mono ?_; rintro e w1 ⟨rfl, hb1⟩; have HN1 : Hid (Nb w num (.slice pa gs.length pc) a b c d 3 g s w1) := HN.out.next hb1; clear hb1))
  clear hC K0 HN
  have x0 := cellB HN1.out.r1 0 _ rfl
  have x1 := cellB HN1.out.r1 1 _ rfl
  have x2 := cellB HN1.out.r1 2 _ rfl
  have y1 := cellB HN1.out.r0 1 _ rfl
  have hI := HIn.out g w1 HN1.out.bel
  rw [hc] at hI
  clear hc
  go_upto_region 5 with fail
  go_upto_region 6 with (first
    | (go_at_call 44; refine hI.mono ?_; rintro e w2 ⟨rfl, h9⟩; subst w2))
  clear hI
  have y5 := cellB HN1.out.r0 _ _ HCO.out
  go_quiet (fail)
  have HND := HN1.out.next (below_drewN (Below.refl _ w1) nq)
  obtain ⟨WD, hWD⟩ : ∃ W, w1.drewN nq = W := ⟨_, rfl⟩
  rw [hWD] at HND ⊢
  have hnq : (num == 1099511627776) = false := by simpa using HNM.out
  have hn2 : num < 1099511627776 := by have := HNM.out; omega
  have z0 := cellB HND.r0 0 _ rfl
  have z2 := cellB HND.r0 2 _ rfl
  have z3 := cellB HND.r0 3 _ rfl
  have z4 := cellB HND.r0 4 _ rfl
  have z5 := cellB HND.r0 5 _ rfl
  clear x0 x1 x2 y1 hWD
  go_upto_region 11 with fail
  clear z0 z2 z3 z4 z5
  have hbX := (Below.refl WD.heap.size WD).alloc (Nat.le_refl _) (.cells (cf (num + 1) (.slice none 0 0) a b c d) 32)
  have rX := heap_alloc_new WD (.cells (cf (num + 1) (.slice none 0 0) a b c d) 32)
  obtain ⟨W2, hW2⟩ : ∃ W, WD.alloc (.cells (cf (num + 1) (.slice none 0 0) a b c d) 32) = W := ⟨_, rfl⟩
  have hsX : W2.heap.size = WD.heap.size + 1 := by rw [← hW2]; simp
  rw [hW2] at hbX rX ⊢
  obtain ⟨X, hXX⟩ : ∃ X, WD.heap.size = X := ⟨_, rfl⟩
  rw [hXX] at rX hsX ⊢
  have HXW : Hid (X < W2.heap.size) := by show _ < _; omega
  have HXD : Hid (WD.heap.size = X) := hXX
  have HX0 : Hid (Nx WD W2 X (num + 1) a b c d [] (.slice none 0 0) W2) := ⟨hbX, rX, World.ownsRow_nil _ _ _ _, Nat.le_refl _⟩
  have HNB : Hid (Nb w num (.slice pa gs.length pc) a b c d 3 g s WD) := HND
  obtain ⟨i0, hi, hz0, hz1, hz2⟩ := info_parts Tryz.info3
  clear hbX rX hW2 hXX hsX HND
  go_wp2_with fail
  go_loopg [8] 4 (fun gk i wr => ∃ (n N : Nat) (u : Value), N = n + 1 ∧ n + gk = 4 ∧ i = .int .i64 (N : Int) ∧ Nx WD W2 X (num + 1) a b c d (kpT 3 g gs n) u wr)
  case atStart => exact ⟨0, 1, _, rfl, by omega, rfl, HX0.out⟩
  case round =>
    obtain ⟨n, N, u, hN, hng, rfl, hX⟩ := hrel
    have HNN : Hid (N = n + 1) := hN
    clear hN
    clear HX0
    have hNw := HNB.out.next hX.bel
    by_cases hn4 : n < 4
    · have le4 : (N : Int) ≤ 4 := by have := HNN.out; omega
      have x0 := cellB hNw.r1 0 _ rfl
      have x1 := cellB hNw.r1 1 _ rfl
      have y1 := cellB hNw.r0 1 _ rfl
      have hI := HIn.out N wr hNw.bel
      clear hNw
      by_cases hgn : g = N
      · have hq : ((g : Int) == (N : Int)) = true := by rw [beq_iff_eq]; omega
        obtain ⟨B, hB⟩ : ∃ B, gs.contains N = B := ⟨_, rfl⟩
        rw [hB] at hI
        have hkp : kpG 3 g gs N = true := by unfold kpG; rw [if_pos (by simpa using hgn)]; rfl
        clear hgn hB
        have HT : Hid (kpT 3 g gs (n + 1) = kpT 3 g gs n ++ [N]) := by show _ = _; rw [kpT_succ _ _ _ _ hn4, ← HNN.out, hkp]; rfl
        have hml : (kpT 3 g gs n).length + 1 ≤ maxLen := by unfold maxLen; have := kpT_len 3 g gs n (by omega); omega
        have hkb : ((kpT 3 g gs n).length + 1) * 8 ≤ 140737488355328 := by have := kpT_len 3 g gs n (by omega); omega
        obtain ⟨L, hL⟩ : ∃ L, kpT 3 g gs n = L := ⟨_, rfl⟩
        rw [hL] at hX HT hml hkb
        have hown := hX.own
        obtain ⟨ua, uc, rfl⟩ := owns_slice hown
        have v1 := cellB hX.cfg 1 _ rfl
        have HX2 : Hid (Nx WD W2 X (num + 1) a b c d L (.slice ua L.length uc) wr) := hX
        have hlow := hX.low
        clear hX hL
        go_wp2_with (first
          | (go_at_call 44; refine hI.mono ?_; rintro e w3 ⟨rfl, h9⟩; subst w3)
          | (at_builtin; refine wpList_append_own _ rfl _ _ 22 rfl W2.heap.size 3 i0 (.int .i64 0) 1 8 Tryz.underlying22 hi hz0 hz1 hz2 rfl (by decide) (.slice ua L.length uc) L.length (zcs (zi L)) rfl (hown.alloc _) _ 1 1 [.int .i64 (N : Int)] rfl rfl (World.news_of_block (heap_alloc_new _ _)) (by simp [Value.oneCell']) hml hkb (by simp; omega) ?_; intro v' w5 j1 j2 _; obtain ⟨gb, cap, rfl⟩ := some_of j1 (by omega); have hXo : (Value.slice ua L.length uc).ownBlock ≠ some X := (fun h => by have := (hown.lt X h).1; have := HXW.out; omega); have hXs : X < wr.heap.size := (by have := HXW.out; omega); have g5 := (j2.block X (by simp; omega) hXo.symm).trans ((Below.heap_alloc _ _ _ hXs).trans HX2.out.cfg); have hB5 := (HX2.out.bel.alloc HX2.out.bel.size (.cells #[.int .i64 (N : Int)] 3)).grown j2 (Nat.le_trans HX2.out.bel.size (by simp)) (fun q hq => by have := (hown.lt q hq).1; have := HXW.out; have := HXD.out; omega); have v5 := cellB g5 1 _ rfl; have f5 := frozenB g5 1; have hs5 := j2.size; have HK : Hid (_ ∧ _ ∧ _ ∧ _) := ⟨j1, g5, hB5, hs5⟩; clear j1 j2 g5 hB5 hs5))
        go_roundg (4 - (n + 1))
        case measure => omega
        case rel =>
          obtain ⟨j1, g5, hB5, hs5⟩ := HK.out
          have hgX : gb ≠ X := by have := (j1.lt gb rfl).1; have := HXW.out; omega
          refine ⟨n + 1, N + 1, .slice (some ⟨gb, 0, none⟩) (L.length + 1) cap, by rw [HNN.out], by omega, by go_num, ?_⟩
          rw [HT.out]
          refine ⟨hB5.setCell (p := ⟨X, 1, none⟩) (by show WD.heap.size ≤ X; have := HXD.out; omega) _, setB g5 1 _, ?_, ?_⟩
          · rw [List.length_append, show zi (L ++ [N]) = zi L ++ [(N : Int)] by simp [zi], zcs_snoc]
            exact owns_kept j1 (fun q hq => set_far (by have : gb = q := by simpa [Value.ownBlock] using hq
                                                        omega) _ _)
          · have : (wr.alloc (.cells #[.int .i64 (N : Int)] 3)).heap.size = wr.heap.size + 1 := by simp
            simp [World.setCell]
            omega
      · have hq : ((g : Int) == (N : Int)) = false := by rw [beq_eq_false_iff_ne]; omega
        have hkp : kpG 3 g gs N = gs.contains N := by unfold kpG; rw [if_neg (by simpa using hgn)]
        obtain ⟨B, hB⟩ : ∃ B, gs.contains N = B := ⟨_, rfl⟩
        rw [hB] at hI hkp
        clear hgn hB
        cases B with
        | true =>
          have HT : Hid (kpT 3 g gs (n + 1) = kpT 3 g gs n ++ [N]) := by show _ = _; rw [kpT_succ _ _ _ _ hn4, ← HNN.out, hkp]; rfl
          have hml : (kpT 3 g gs n).length + 1 ≤ maxLen := by unfold maxLen; have := kpT_len 3 g gs n (by omega); omega
          have hkb : ((kpT 3 g gs n).length + 1) * 8 ≤ 140737488355328 := by have := kpT_len 3 g gs n (by omega); omega
          obtain ⟨L, hL⟩ : ∃ L, kpT 3 g gs n = L := ⟨_, rfl⟩
          rw [hL] at hX HT hml hkb
          have hown := hX.own
          obtain ⟨ua, uc, rfl⟩ := owns_slice hown
          have v1 := cellB hX.cfg 1 _ rfl
          have HX2 : Hid (Nx WD W2 X (num + 1) a b c d L (.slice ua L.length uc) wr) := hX
          have hlow := hX.low
          clear hX hL
          go_wp2_with (first
            | (go_at_call 44; refine hI.mono ?_; rintro e w3 ⟨rfl, h9⟩; subst w3)
            | (at_builtin; refine wpList_append_own _ rfl _ _ 22 rfl W2.heap.size 3 i0 (.int .i64 0) 1 8 Tryz.underlying22 hi hz0 hz1 hz2 rfl (by decide) (.slice ua L.length uc) L.length (zcs (zi L)) rfl (hown.alloc _) _ 1 1 [.int .i64 (N : Int)] rfl rfl (World.news_of_block (heap_alloc_new _ _)) (by simp [Value.oneCell']) hml hkb (by simp; omega) ?_; intro v' w5 j1 j2 _; obtain ⟨gb, cap, rfl⟩ := some_of j1 (by omega); have hXo : (Value.slice ua L.length uc).ownBlock ≠ some X := (fun h => by have := (hown.lt X h).1; have := HXW.out; omega); have hXs : X < wr.heap.size := (by have := HXW.out; omega); have g5 := (j2.block X (by simp; omega) hXo.symm).trans ((Below.heap_alloc _ _ _ hXs).trans HX2.out.cfg); have hB5 := (HX2.out.bel.alloc HX2.out.bel.size (.cells #[.int .i64 (N : Int)] 3)).grown j2 (Nat.le_trans HX2.out.bel.size (by simp)) (fun q hq => by have := (hown.lt q hq).1; have := HXW.out; have := HXD.out; omega); have v5 := cellB g5 1 _ rfl; have f5 := frozenB g5 1; have hs5 := j2.size; have HK : Hid (_ ∧ _ ∧ _ ∧ _) := ⟨j1, g5, hB5, hs5⟩; clear j1 j2 g5 hB5 hs5))
          go_roundg (4 - (n + 1))
          case measure => omega
          case rel =>
            obtain ⟨j1, g5, hB5, hs5⟩ := HK.out
            have hgX : gb ≠ X := by have := (j1.lt gb rfl).1; have := HXW.out; omega
            refine ⟨n + 1, N + 1, .slice (some ⟨gb, 0, none⟩) (L.length + 1) cap, by rw [HNN.out], by omega, by go_num, ?_⟩
            rw [HT.out]
            refine ⟨hB5.setCell (p := ⟨X, 1, none⟩) (by show WD.heap.size ≤ X; have := HXD.out; omega) _, setB g5 1 _, ?_, ?_⟩
            · rw [List.length_append, show zi (L ++ [N]) = zi L ++ [(N : Int)] by simp [zi], zcs_snoc]
              exact owns_kept j1 (fun q hq => set_far (by have : gb = q := by simpa [Value.ownBlock] using hq
                                                          omega) _ _)
            · have : (wr.alloc (.cells #[.int .i64 (N : Int)] 3)).heap.size = wr.heap.size + 1 := by simp
              simp [World.setCell]
              omega
        | false =>
          have HT : Hid (kpT 3 g gs (n + 1) = kpT 3 g gs n) := by show _ = _; rw [kpT_succ _ _ _ _ hn4, ← HNN.out, hkp]; rfl
          have HX2 : Hid (Nx WD W2 X (num + 1) a b c d (kpT 3 g gs n) u wr) := hX
          clear hX
          go_wp2_with (first
            | (go_at_call 44; refine hI.mono ?_; rintro e w3 ⟨rfl, h9⟩; subst w3))
          go_roundg (4 - (n + 1))
          case measure => omega
          case rel => exact ⟨n + 1, N + 1, u, by rw [HNN.out], by omega, by go_num, by rw [HT.out]; exact HX2.out⟩
    · have hn4 : n = 4 := by omega
      subst hn4
      have hkp := kp_of HGO.out.1 HOK.out
      rw [hkp] at hX
      obtain ⟨hm1, hm2, hpos⟩ := nx_mem HGO.out.1 HGO.out.2 HOK.out
      obtain ⟨G, hGG⟩ : ∃ G, nG 3 g gs = G := ⟨_, rfl⟩
      rw [hGG] at hX hpos hm1
      obtain ⟨ua, uc, rfl⟩ := owns_slice hX.own
      have hil : Il wr (.slice ua G.length uc) (zi G) := Il_owns (base := W2.heap.size) (by rw [zi_len]; exact hX.own)
      have hlt : ∀ j, (Value.slice ua G.length uc).ownBlock = some j → W2.heap.size ≤ j ∧ j < wr.heap.size := fun j hj => hX.own.lt j hj
      have x0 := cellB hNw.r1 0 _ rfl
      have x1 := cellB hNw.r1 1 _ rfl
      have x2 := cellB hNw.r1 2 _ rfl
      have hN5 : ¬ (N : Int) ≤ 4 := by have := HNN.out; omega
      have hsz := HNB.out.size
      have HNW : Hid (Nb w num (.slice pa gs.length pc) a b c d 3 g s wr) := hNw
      have HLT : Hid (∀ j, (Value.slice ua G.length uc).ownBlock = some j → W2.heap.size ≤ j ∧ j < wr.heap.size) := hlt
      have HIL : Hid (Il wr (.slice ua G.length uc) (zi G)) := hil
      have HGG : Hid (nG 3 g gs = G) := hGG
      have HSZ : Hid (w.heap.size + 3 ≤ X) := by have := HXD.out; show _ ≤ _; omega
      obtain ⟨tt, htt⟩ : ∃ tt, [a, b, c, d][s]? = some tt := ⟨_, List.getElem?_eq_getElem (by simpa using hs)⟩
      have hcf : wr.heap[X]? = some (.cells (cfO (num + 1) (.slice ua G.length uc) [a, b, c, d]) 32) := hX.cfg
      have v1 := cellB hcf (2 + s) _ (cfO_at (num + 1) (.slice ua G.length uc) [a, b, c, d] s tt htt)
      have v2 := frozenB hcf (2 + s)
      have hset := setB hcf (2 + s) (.int .i64 (g : Int))
      rw [cfO_set] at hset
      obtain ⟨p, q, r, t', hpq⟩ := four_of (show ([a, b, c, d].set s g).length = 4 by simp)
      rw [hpq] at hset
      have hset2 : (wr.setCell ⟨X, 2 + s, none⟩ (.int .i64 (g : Int))).heap[X]? = some (.cells (cf (num + 1) (.slice ua G.length uc) p q r t') 32) := hset
      have hfar : ∀ j, j ≠ X → (wr.setCell ⟨X, 2 + s, none⟩ (.int .i64 (g : Int))).heap[j]? = wr.heap[j]? := fun j hj => set_far hj _ _
      have hbS : Below w.heap.size w (wr.setCell ⟨X, 2 + s, none⟩ (.int .i64 (g : Int))) := hNw.bel.setCell (p := ⟨X, 2 + s, none⟩) (by show w.heap.size ≤ X; have := HSZ.out; omega) _
      have hss : (wr.setCell ⟨X, 2 + s, none⟩ (.int .i64 (g : Int))).heap.size = wr.heap.size := by simp [World.setCell]
      have HS : Hid (_ ∧ _ ∧ _ ∧ _) := ⟨hset2, hfar, hbS, hss⟩
      have HPQ : Hid ([a, b, c, d].set s g = [p, q, r, t']) := hpq
      clear hX hNw hil hlt hGG hkp hm1 hm2 hsz htt hcf hset hset2 hfar hbS hss hpq
      go_upto_region 21 with fail
      obtain ⟨hset2, hfar, hbS, hss⟩ := HS.out
      obtain ⟨W7, hW7⟩ : ∃ W, wr.setCell ⟨X, 2 + s, none⟩ (.int .i64 (g : Int)) = W := ⟨_, rfl⟩
      rw [hW7] at hset2 hfar hbS hss ⊢
      have hsz := HSZ.out
      have hr2 := (hfar (w.heap.size + 2) (by omega)).trans HNW.out.r2
      have KX : Hid (W7.rangeAt X 0 (cfL (num + 1) (.slice ua G.length uc) p q r t')) := blk_range (L := cfL (num + 1) (.slice ua G.length uc) p q r t') hset2
      have KS : Hid (W7.there (w.heap.size + 2) 0 6) := blk_there hr2 0 6 (Nat.le_refl _)
      have HE : Hid (_ ∧ _ ∧ _ ∧ _ ∧ _) := ⟨hset2, hfar, hbS, hss, hr2⟩
      clear hset2 hfar hbS hss hr2 hW7 HS hsz
      go_wp2_with (first
        | (refine wpList_load_mid rfl 32 _ rfl X 0 rfl (cfL (num + 1) (.slice ua G.length uc) p q r t') _ KX.out Tryz.underlying32 rfl Tryz.size32 ?_)
        | (refine wpList_store_mid rfl 32 _ _ rfl (w.heap.size + 2) 0 (cf (num + 1) (.slice ua G.length uc) p q r t') rfl rfl KS.out Tryz.size32 (cf_ones _ _ _ _ _ _ _ _) ?_))
      obtain ⟨hset2, hfar, hbS, hss, hr2⟩ := HE.out
      have k4 := blk_range (blk_set hr2 (L := cfL (num + 1) (.slice ua G.length uc) p q r t') rfl)
      have hxw := HXW.out
      have hsz := HSZ.out
      refine bodyPost_ret (v := .tuple #[.agg (cf (num + 1) (.slice ua G.length uc) p q r t'), .int .i64 0]) (results_two rfl rfl rfl (res32 k4 rfl)) rfl ⟨.slice ua G.length uc, p, q, r, t', rfl, ?_, HPQ.out.symm, fun j hj => by have := (HLT.out j hj).1; omega, fun j hj => ?_, blk_below (by omega) _ _ _ hbS⟩
      · rw [HGG.out]
        exact Il_keep (Il_blk HIL.out (fun j hj => hfar j (by have := (HLT.out j hj).1; omega)) (by omega)) (fun j hj => by have := (HLT.out j hj).1; omega)
      · have := (HLT.out j hj).2
        rw [blk_size]
        omega
end Go.Proofs.YtfolnlgceighbaaGreatDoor
