/- The document's parts, walked. -/
import Derived.Test.YtihilkdokfdoeaaDoorPlL
namespace Go.Proofs.YtihilkdokfdoeaaDoor
open Go.RowKit Go.Maps
attribute [local go_sem ↓] Go.wp_at_zero Go.wp_at_succ

set_option maxRecDepth 20000 in
set_option maxHeartbeats 4000000 in
theorem rSplit_any (calls : List Cl) (pts : List Pt) (vc vp : Value) (w : World) (hc : SlF ccs 10 w vc calls) (hp : SlF pks 5 w vp pts) (lc : calls.length ≤ 2000) (lp : pts.length ≤ 2000) (hk : ∀ c ∈ calls, c.op.k.length ≤ 140737488351232) :
    Calls Tryd.prog 10 #[vc, vp] w fun e W' => ∃ x U V, e = .returned x ∧ RS calls pts w.heap.size w x U V 4 W' := by
  obtain ⟨va, vcap, rfl⟩ := hc.slice
  obtain ⟨pa, pcap, rfl⟩ := hp.slice
  obtain ⟨i0, hi0⟩ := info_parts Tryd.info45
  obtain ⟨i1, hi1⟩ := info_parts Tryd.info53
  obtain ⟨i2, hi2⟩ := info_parts Tryd.info39
  obtain ⟨N, hN⟩ : ∃ N, w.heap.size = N := ⟨_, rfl⟩
  have HN : Hid (w.heap.size = N) := hN
  have HI0 : Hid (_) := hi0
  have HI1 : Hid (_) := hi1
  have HI2 : Hid (_) := hi2
  have HVC0 : Hid (∀ W, Below N w W → SlF ccs 10 W (.slice va calls.length vcap) calls) := fun W hW => hc.on hW (by omega)
  have HVP0 : Hid (∀ W, Below N w W → SlF pks 5 W (.slice pa pts.length pcap) pts) := fun W hW => hp.on hW (by omega)
  have HK : Hid ((∀ c ∈ calls, c.op.k.length ≤ 140737488351232) ∧ calls.length ≤ 100000 ∧ pts.length ≤ 100000) := ⟨hk, by omega, by omega⟩
  clear hc hp hN lc lp hk hi0 hi1 hi2
  go_enter Tryd.func10, Tryd.ntmps10
  go_wp2_with fail
  go_loopg [5, 6] 4 (fun gk x sv wr => ∃ (s : Nat) (U V : Nat → Value), s + gk = 4 ∧ sv = .int .i64 s ∧ RS calls pts N w x U V s wr ∧ N ≤ wr.heap.size)
  case atStart => exact ⟨0, fun _ => .slice none 0 0, fun _ => .slice none 0 0, by omega, rfl, ⟨World.ownsRow_nil _ _ _ _, fun i hi => (by omega), fun i hi => (by omega), fun i hi => (by omega), by rw [← HN.out]; exact Below.refl _ _⟩, by rw [HN.out]; exact Nat.le_refl _⟩
  case round =>
    obtain ⟨s, U, V, hss, rfl, hR, hNl⟩ := hrel
    obtain ⟨xa, xc, rfl⟩ := owns_slice hR.row
    by_cases hs1 : s = 4
    · subst hs1
      have HR : Hid (_) := hR
      clear hR HVC0 HVP0 HK HI0 HI1 HI2
      go_wp2
      go_ret
      exact ⟨_, U, V, rfl, by rw [HN.out]; exact HR.out⟩
    have hs4 : s < 4 := by omega
    have e4 : (s : Int) < 4 := by omega
    obtain ⟨M, hM⟩ : ∃ M, wr.heap.size = M := ⟨_, rfl⟩
    have r1 := heap_alloc_new wr (.cells #[.slice none 0 0, .slice none 0 0] 39)
    have hb1 := (Below.refl wr.heap.size wr).alloc (Nat.le_refl _) (.cells #[.slice none 0 0, .slice none 0 0] 39)
    obtain ⟨W1, hW1⟩ : ∃ W, wr.alloc (.cells #[.slice none 0 0, .slice none 0 0] 39) = W := ⟨_, rfl⟩
    rw [hW1] at r1 hb1
    have HRS : Hid (∀ W2 W3 X Y g cap, Below M wr W2 → W3.ownsRow N 39 2 (.slice (some ⟨g, 0, none⟩) (s + 1) cap) (s + 1) (((List.range s).flatMap fun i => [U i, V i]) ++ [X, Y]) → W2.grownBy W3 (Value.slice xa s xc).ownBlock → ((Value.slice xa s xc).ownBlock = some g ∨ g = W2.heap.size) → SlF ccs 10 W2 X (partC calls s) → SlF pks 5 W2 Y (partP calls pts s) → (∀ q, X.ownBlock = some q ∨ Y.ownBlock = some q → q < W2.heap.size ∧ M ≤ q) → RS calls pts N w (.slice (some ⟨g, 0, none⟩) (s + 1) cap) (updF U s X) (updF V s Y) (s + 1) W3) := fun W2 W3 X Y g cap h1 h2 h3 h4 h5 h6 h7 => hR.app (by rw [hM]; exact h1) hNl h2 h3 h4 h5 h6 (by rw [hM]; exact h7)
    have HRO : Hid (∀ W, Below M wr W → W.ownsRow N 39 2 (.slice xa s xc) s ((List.range s).flatMap fun i => [U i, V i])) := fun W hW => owns_keep hR.row fun q e => hW.block q (by have := (hR.row.lt q e).2; omega)
    rw [hM] at r1 hb1
    have hz1 : W1.heap.size = M + 1 := by rw [← hW1, World.size_alloc, hM]
    have hBw : Below N w W1 := hR.below.trans (hb1.mono (by omega))
    have HVC : Hid (∀ W, Below M W1 W → SlF ccs 10 W (.slice va calls.length vcap) calls) := fun W hW => HVC0.out W (hBw.trans (hW.mono (by omega)))
    have HVP : Hid (∀ W, Below M W1 W → SlF pks 5 W (.slice pa pts.length pcap) pts) := fun W hW => HVP0.out W (hBw.trans (hW.mono (by omega)))
    have HB0 : Hid (Below M wr W1 ∧ N ≤ M ∧ W1.heap.size = M + 1) := ⟨hb1, by omega, hz1⟩
    have HF0 : Hid (FB ccs 10 45 M (M + 1) (fun v => #[v, .slice none 0 0]) (ptC calls s 0) (.slice none 0 0) W1 W1) := ⟨r1, by rw [ptC]; exact World.ownsRow_nil _ _ _ _, Below.refl _ _, fun k _ _ => rfl, by omega, by omega⟩
    have HW1 : Hid (wr.alloc (.cells #[.slice none 0 0, .slice none 0 0] 39) = W1) := hW1
    have HM : Hid (wr.heap.size = M) := hM
    clear hR hNl r1 hb1 hW1 hM hz1 hBw
    go_upto_region 6 with fail
    rw [HW1.out]
    try rw [HM.out]
    clear HW1 HM
    go_wp2_with fail
    go_loopg [19] calls.length (fun gk j wr => ∃ (n : Nat) (X0 : Value), n + gk = calls.length ∧ j = .int .i64 n ∧ FB ccs 10 45 M (M + 1) (fun v => #[v, .slice none 0 0]) (ptC calls s n) X0 W1 wr)
    case atStart => exact ⟨0, _, by omega, rfl, HF0.out⟩
    case round =>
      obtain ⟨n, X0, hnn, rfl, hF⟩ := hrel
      by_cases hn1 : n = calls.length
      · subst hn1
        obtain ⟨ca1, cc1, rfl⟩ := owns_slice hF.own
        obtain ⟨cn1, hcn1⟩ : ∃ k, (ptC calls s calls.length).length = k := ⟨_, rfl⟩
        have hown := hF.own
        rw [hcn1] at hF
        have HOX : Hid (∀ W, (∀ k, k < wr.heap.size → k ≠ M → W.heap[k]? = wr.heap[k]?) → SlF ccs 10 W (.slice ca1 cn1 cc1) (partC calls s)) := fun W hW => by
          rw [← ptC_all, ← hcn1]
          exact SlF.of_owns (base := M + 1) (e := 45) (fun _ => rfl) (owns_keep hown fun q e => hW q (hown.lt q e).2 (by have := (hown.lt q e).1; omega))
        have HOQ : Hid (∀ q, (Value.slice ca1 cn1 cc1).ownBlock = some q → q < wr.heap.size ∧ M ≤ q) := fun q e => by
          rw [← hcn1] at e
          have := hown.lt q e
          exact ⟨this.2, by omega⟩
        have HB2 : Hid (Below M W1 wr ∧ M + 1 ≤ wr.heap.size) := ⟨hF.below, hF.hi⟩
        have hbx := hF.box
        obtain ⟨B1, hB1⟩ : ∃ B1, wr.heap.size = B1 := ⟨_, rfl⟩
        rw [hB1] at HOX HOQ HB2
        obtain ⟨W2, hW2⟩ : ∃ W2, wr = W2 := ⟨_, rfl⟩
        have HW2 : Hid (Below M W1 W2 ∧ M + 1 ≤ B1 ∧ W2.heap.size = B1) := ⟨by rw [← hW2]; exact HB2.out.1, HB2.out.2, by rw [← hW2]; exact hB1⟩
        rw [hW2] at HOX
        have HF2 : Hid (FB pks 5 53 M B1 (fun v => #[.slice ca1 cn1 cc1, v]) (ptP calls pts s 0) (.slice none 0 0) W2 wr) := ⟨hbx, by rw [ptP]; exact World.ownsRow_nil _ _ _ _, by rw [hW2]; exact Below.refl _ _, fun k _ _ => (by rw [hW2]), by have := HB2.out.2; omega, by omega⟩
        clear hF hown hcn1 hbx hB1 hW2 HB2 HF0
        go_wp2_with fail
        go_loopg [38] pts.length (fun gk j wr => ∃ (n : Nat) (X0 : Value), n + gk = pts.length ∧ j = .int .i64 n ∧ FB pks 5 53 M B1 (fun v => #[.slice ca1 cn1 cc1, v]) (ptP calls pts s n) X0 W2 wr)
        case atStart => exact ⟨0, _, by omega, rfl, HF2.out⟩
        case round =>
          obtain ⟨n, X0, hnn, rfl, hF⟩ := hrel
          by_cases hn1 : n = pts.length
          · subst hn1
            obtain ⟨pa1, pc1, rfl⟩ := owns_slice hF.own
            obtain ⟨pn1, hpn1⟩ : ∃ k, (ptP calls pts s pts.length).length = k := ⟨_, rfl⟩
            have hown := hF.own
            rw [hpn1] at hF
            have hbx := hF.box
            have c0 := cellB hbx 0 _ rfl
            have c1 := cellB hbx 1 _ rfl
            have hba := (Below.refl wr.heap.size wr).alloc (Nat.le_refl _) (.cells #[.slice ca1 cn1 cc1, .slice pa1 pn1 pc1] 39)
            have hX4 := HOX.out (wr.alloc (.cells #[.slice ca1 cn1 cc1, .slice pa1 pn1 pc1] 39)) (fun k h1 h2 => (hba.block k (by have := hF.hi; omega)).trans (hF.far k h1 h2))
            have hY4 : SlF pks 5 (wr.alloc (.cells #[.slice ca1 cn1 cc1, .slice pa1 pn1 pc1] 39)) (.slice pa1 pn1 pc1) (partP calls pts s) := by
              have h5 := SlF.of_owns (f := pks) (s := 5) (l := ptP calls pts s pts.length) (base := B1) (e := 53) (fun _ => rfl) (owns_keep hown fun q e => hba.block q (hown.lt q e).2)
              rw [hpn1] at h5
              rw [← ptP_all]
              exact h5
            have hq4 : ∀ q, (Value.slice ca1 cn1 cc1).ownBlock = some q ∨ (Value.slice pa1 pn1 pc1).ownBlock = some q → q < (wr.alloc (.cells #[.slice ca1 cn1 cc1, .slice pa1 pn1 pc1] 39)).heap.size ∧ M ≤ q := fun q e => by
              rw [World.size_alloc]
              rcases e with e | e
              · have h1 := HOQ.out q e
                have h2 := hF.hi
                exact ⟨by omega, h1.2⟩
              · rw [← hpn1] at e
                have := hown.lt q e
                have h2 := HW2.out.2.1
                exact ⟨by omega, by omega⟩
            have hb4 := (HB0.out.1.trans (HW2.out.1.trans hF.below)).trans (hba.mono (by have := hF.hi; have := HW2.out.2.1; omega))
            have hro := HRO.out _ hb4
            have HX4 : Hid (_ ∧ _ ∧ _ ∧ _) := And.intro hX4 (And.intro hY4 (And.intro hq4 hb4))
            have hN4 : N ≤ (wr.alloc (.cells #[.slice ca1 cn1 cc1, .slice pa1 pn1 pc1] 39)).heap.size := by rw [World.size_alloc]; have := HB0.out.2.1; have := HW2.out.2.1; have := hF.hi; omega
            have hml : s + 1 ≤ maxLen := by unfold maxLen; omega
            have hkb : (s + 1) * 48 ≤ 140737488355328 := by omega
            clear hF hown hpn1 hbx hba hX4 hY4 hq4 hb4 HF2
            go_wp2_with (first
              | (at_builtin; refine wpList_append_lies _ rfl _ _ 30 rfl N 39 i2 (.agg #[.slice none 0 0, .slice none 0 0]) 2 48 Tryd.underlying30 HI2.out.1 HI2.out.2.1 HI2.out.2.2.1 HI2.out.2.2.2 rfl (by decide) (.slice xa s xc) s _ rfl hro _ 1 1 [.slice ca1 cn1 cc1, .slice pa1 pn1 pc1] rfl rfl (World.news_of_block (heap_alloc_new _ _)) (by simp [Value.oneCell']) (by decide) hml hkb hN4 _ rfl ?_; intro ga ca w6 g1 g2 g3 g4))
            have hfin := HRS.out _ w6 _ _ ga ca HX4.out.2.2.2 g1 g2 g3 HX4.out.1 HX4.out.2.1 HX4.out.2.2.1
            have HFIN : Hid (_ ∧ N ≤ w6.heap.size) := And.intro hfin (by have := g2.size; omega)
            clear hfin g1 g2 g3 g4
            go_roundg (4 - (s + 1))
            case measure => omega
            case rel => exact ⟨s + 1, _, _, by omega, by go_num, HFIN.out.1, HFIN.out.2⟩
          have hn2 : n < pts.length := by omega
          obtain ⟨c, ho⟩ : ∃ c, pts[n]? = some c := ⟨_, List.getElem?_eq_getElem hn2⟩
          have hye := @ptP_yes calls pts s n c ho
          have hno := @ptP_no calls pts s n c ho
          have hln := ptP_len calls pts s n
          have hB1 : Below M W1 wr := HW2.out.1.trans hF.below
          obtain ⟨g, e', hg', -, y⟩ := (HVP.out _ hB1).at ho
          subst hg'
          obtain ⟨tm, pcl, pno, pT, pE⟩ := c
          have y0 : wr.cell? ⟨g, e' + n * 5, none⟩ = some (.int .i64 tm) := y 0 _ rfl
          have y1 : wr.cell? ⟨g, e' + n * 5 + 1, none⟩ = some (.int .i64 pcl) := y 1 _ rfl
          have y2 : wr.cell? ⟨g, e' + n * 5 + 2, none⟩ = some (.int .i64 pno) := y 2 _ rfl
          have y3 : wr.cell? ⟨g, e' + n * 5 + 3, none⟩ = some (.int .i64 pE) := y 3 _ rfl
          have y4 : wr.cell? ⟨g, e' + n * 5 + 4, none⟩ = some (.string (bs pT)) := y 4 _ rfl
          obtain ⟨P, hP⟩ : ∃ P, shP calls ⟨tm, pcl, pno, (pT, pE)⟩ = P := ⟨_, rfl⟩
          have hye' : P = s → ptP calls pts s (n + 1) = ptP calls pts s n ++ [⟨tm, pcl, pno, (pT, pE)⟩] := fun e => hye (hP.trans e)
          have hno' : ¬ P = s → ptP calls pts s (n + 1) = ptP calls pts s n := fun e => hno fun e2 => e (hP.symm.trans e2)
          obtain ⟨A, hA⟩ : ∃ A, ptP calls pts s n = A := ⟨_, rfl⟩
          rw [hA] at hF hye' hno' hln
          obtain ⟨xa2, xc2, rfl⟩ := owns_slice hF.own
          have hnb : n ≤ 100000 := by have := HK.out.2; omega
          have d0 : (0 : Int) ≤ (n : Int) := by omega
          have d1 : (n : Int) < (pts.length : Int) := by omega
          obtain ⟨D, hD⟩ : ∃ D, wr.heap.size = D := ⟨_, rfl⟩
          have rD := heap_alloc_new wr (.cells #[.int .i64 tm, .int .i64 pcl, .int .i64 pno, .int .i64 pE, .string (bs pT)] 53)
          have hbA := (Below.refl wr.heap.size wr).alloc (Nat.le_refl _) (.cells #[.int .i64 tm, .int .i64 pcl, .int .i64 pno, .int .i64 pE, .string (bs pT)] 53)
          obtain ⟨WA, hWA⟩ : ∃ W, wr.alloc (.cells #[.int .i64 tm, .int .i64 pcl, .int .i64 pno, .int .i64 pE, .string (bs pT)] 53) = W := ⟨_, rfl⟩
          rw [hWA] at rD hbA
          have hFA := hF.on hbA
          have hB1A : Below M W1 WA := HW2.out.1.trans hFA.below
          rw [hD] at rD hbA
          have hzA : WA.heap.size = D + 1 := by rw [← hWA, World.size_alloc, hD]
          have hcall := rplace_any calls ⟨tm, pcl, pno, (pT, pE)⟩ _ WA (HVC.out _ hB1A) HK.out.1 HK.out.2.1
          rw [hP] at hcall
          have HC : Hid (Calls Tryd.prog 27 #[.slice va calls.length vcap, .agg #[.int .i64 tm, .int .i64 pcl, .int .i64 pno, .int .i64 pE, .string (bs pT)]] WA fun e W' => e = .returned (.int .i64 (P : Nat)) ∧ FB pks 5 53 M B1 (fun v => #[.slice ca1 cn1 cc1, v]) A (.slice xa2 A.length xc2) W2 W' ∧ W'.heap[D]? = some (.cells #[.int .i64 tm, .int .i64 pcl, .int .i64 pno, .int .i64 pE, .string (bs pT)] 53)) := hcall.mono fun e W' hh => ⟨hh.1, hFA.on hh.2, (hh.2.block D (by omega)).trans rD⟩
          have HWA : Hid (wr.alloc (.cells #[.int .i64 tm, .int .i64 pcl, .int .i64 pno, .int .i64 pE, .string (bs pT)] 53) = WA) := hWA
          have HD : Hid (wr.heap.size = D) := hD
          have HY : Hid ((P = s → ptP calls pts s (n + 1) = A ++ [⟨tm, pcl, pno, (pT, pE)⟩]) ∧ (¬ P = s → ptP calls pts s (n + 1) = A)) := ⟨hye', hno'⟩
          have hml : A.length + 1 ≤ maxLen := by unfold maxLen; have := HK.out.2; omega
          have hkb : (A.length + 1) * 48 ≤ 140737488355328 := by have := HK.out.2; omega
          have x0 := cellB rD 0 _ rfl
          have x1 := cellB rD 1 _ rfl
          have x2 := cellB rD 2 _ rfl
          have x3 := cellB rD 3 _ rfl
          have x4 := cellB rD 4 _ rfl
          clear hye hno hye' hno' hln hB1 y hP hA hF hD rD hbA hWA hFA hB1A hzA hcall ho
          go_upto_region 15 with fail
          rw [HWA.out]
          try rw [HD.out]
          clear y0 y1 y2 y3 y4 HWA HD
          by_cases hs : P = s
          · subst hs
            have HX : Hid (ptP calls pts P (n + 1) = A ++ [⟨tm, pcl, pno, (pT, pE)⟩]) := HY.out.1 rfl
            clear HY
            go_wp2_with (first
              | (go_at_call 27; refine HC.out.mono ?_; clear HC x0 x1 x2 x3 x4; rintro e w3 ⟨rfl, hF3, hD3⟩; have hF3b := hF3.box; have c3 := cellB hF3b 1 _ rfl; have x0 := cellB hD3 0 _ rfl; have x1 := cellB hD3 1 _ rfl; have x2 := cellB hD3 2 _ rfl; have x3 := cellB hD3 3 _ rfl; have x4 := cellB hD3 4 _ rfl; have hown := hF3.own; have hN4 : B1 ≤ (w3.alloc (.cells #[.int .i64 tm, .int .i64 pcl, .int .i64 pno, .int .i64 pE, .string (bs pT)] 53)).heap.size := by (have := hF3.hi; rw [World.size_alloc]; omega))
              | (at_builtin; refine wpList_append_lies _ rfl _ _ 34 rfl B1 53 i1 (.agg #[.int .i64 0, .int .i64 0, .int .i64 0, .int .i64 0, .string ⟨#[]⟩]) 5 48 Tryd.underlying34 HI1.out.1 HI1.out.2.1 HI1.out.2.2.1 HI1.out.2.2.2 rfl (by decide) (.slice xa2 A.length xc2) A.length _ rfl (hown.alloc _) _ 1 1 [.int .i64 tm, .int .i64 pcl, .int .i64 pno, .int .i64 pE, .string (bs pT)] rfl rfl (World.news_of_block (heap_alloc_new _ _)) (by simp [Value.oneCell']) (by decide) hml hkb hN4 _ rfl ?_; intro ga ca w6 g1 g2 g3 g4; have hst := hF3.app (j := 1) ((Below.refl w3.heap.size w3).alloc (Nat.le_refl _) (.cells #[.int .i64 tm, .int .i64 pcl, .int .i64 pno, .int .i64 pE, .string (bs pT)] 53)) (a := ⟨tm, pcl, pno, (pT, pE)⟩) g1 g2 (fun v => rfl); have c6 := cellB hst.2 1 _ rfl; have f6 := frozenB hst.2 1; have HST : Hid (_) := hst.1; clear hst))
            go_roundg (pts.length - (n + 1))
            case measure => omega
            case rel => exact ⟨n + 1, _, by omega, by go_num, by rw [HX.out]; exact HST.out⟩
          · have hse : ((P : Int) == (s : Int)) = false := by simp; omega
            have HX : Hid (ptP calls pts s (n + 1) = A) := HY.out.2 hs
            clear HY hs
            go_wp2_with (first
              | (go_at_call 27; refine HC.out.mono ?_; clear HC x0 x1 x2 x3 x4; rintro e w3 ⟨rfl, hF3, hD3⟩))
            have HF3 : Hid (_) := hF3
            clear hF3 hD3
            go_roundg (pts.length - (n + 1))
            case measure => omega
            case rel => exact ⟨n + 1, _, by omega, by go_num, by rw [HX.out]; exact HF3.out⟩
      have hn2 : n < calls.length := by omega
      obtain ⟨c, ho⟩ : ∃ c, calls[n]? = some c := ⟨_, List.getElem?_eq_getElem hn2⟩
      have hye := @ptC_yes calls s n c ho
      have hno := @ptC_no calls s n c ho
      have hln := ptC_len calls s n
      have hB1 : Below M W1 wr := hF.below
      obtain ⟨g, e', hg', -, y⟩ := (HVC.out _ hB1).at ho
      subst hg'
      obtain ⟨cl, no, ⟨kind, k, v, od⟩, fr, tt, T, E⟩ := c
      have hkc := HK.out.1 _ (List.mem_of_getElem? ho)
      replace hkc : k.length ≤ 140737488351232 := hkc
      have y0 : wr.cell? ⟨g, e' + n * 10, none⟩ = some (.int .i64 cl) := y 0 _ rfl
      have y1 : wr.cell? ⟨g, e' + n * 10 + 1, none⟩ = some (.int .i64 no) := y 1 _ rfl
      have y2 : wr.cell? ⟨g, e' + n * 10 + 2, none⟩ = some (.int .i64 kind) := y 2 _ rfl
      have y3 : wr.cell? ⟨g, e' + n * 10 + 3, none⟩ = some (.string (bs k)) := y 3 _ rfl
      have y4 : wr.cell? ⟨g, e' + n * 10 + 4, none⟩ = some (.string (bs v)) := y 4 _ rfl
      have y5 : wr.cell? ⟨g, e' + n * 10 + 5, none⟩ = some (.string (bs od)) := y 5 _ rfl
      have y6 : wr.cell? ⟨g, e' + n * 10 + 6, none⟩ = some (.int .i64 fr) := y 6 _ rfl
      have y7 : wr.cell? ⟨g, e' + n * 10 + 7, none⟩ = some (.int .i64 tt) := y 7 _ rfl
      have y8 : wr.cell? ⟨g, e' + n * 10 + 8, none⟩ = some (.int .i64 E) := y 8 _ rfl
      have y9 : wr.cell? ⟨g, e' + n * 10 + 9, none⟩ = some (.string (bs T)) := y 9 _ rfl
      obtain ⟨P, hP⟩ : ∃ P, plcK k = P := ⟨_, rfl⟩
      have hye' : P = s → ptC calls s (n + 1) = ptC calls s n ++ [⟨cl, no, ⟨kind, k, v, od⟩, fr, tt, (T, E)⟩] := fun e => hye (hP.trans e)
      have hno' : ¬ P = s → ptC calls s (n + 1) = ptC calls s n := fun e => hno fun e2 => e (hP.symm.trans e2)
      obtain ⟨A, hA⟩ : ∃ A, ptC calls s n = A := ⟨_, rfl⟩
      rw [hA] at hF hye' hno' hln
      obtain ⟨xa2, xc2, rfl⟩ := owns_slice hF.own
      have hnb : n ≤ 100000 := by have := HK.out.2; omega
      have d0 : (0 : Int) ≤ (n : Int) := by omega
      have d1 : (n : Int) < (calls.length : Int) := by omega
      obtain ⟨D, hD⟩ : ∃ D, wr.heap.size = D := ⟨_, rfl⟩
      have rD := heap_alloc_new wr (.cells #[.int .i64 cl, .int .i64 no, .int .i64 kind, .string (bs k), .string (bs v), .string (bs od), .int .i64 fr, .int .i64 tt, .int .i64 E, .string (bs T)] 45)
      have hbA := (Below.refl wr.heap.size wr).alloc (Nat.le_refl _) (.cells #[.int .i64 cl, .int .i64 no, .int .i64 kind, .string (bs k), .string (bs v), .string (bs od), .int .i64 fr, .int .i64 tt, .int .i64 E, .string (bs T)] 45)
      obtain ⟨WA, hWA⟩ : ∃ W, wr.alloc (.cells #[.int .i64 cl, .int .i64 no, .int .i64 kind, .string (bs k), .string (bs v), .string (bs od), .int .i64 fr, .int .i64 tt, .int .i64 E, .string (bs T)] 45) = W := ⟨_, rfl⟩
      rw [hWA] at rD hbA
      have hFA := hF.on hbA
      have hB1A : Below M W1 WA := hFA.below
      rw [hD] at rD hbA
      have hzA : WA.heap.size = D + 1 := by rw [← hWA, World.size_alloc, hD]
      have hcall := rPlace_any k WA hkc
      rw [hP] at hcall
      have HC : Hid (Calls Tryd.prog 21 #[.string (bs k)] WA fun e W' => e = .returned (.int .i64 (P : Nat)) ∧ FB ccs 10 45 M (M + 1) (fun v => #[v, .slice none 0 0]) A (.slice xa2 A.length xc2) W1 W' ∧ W'.heap[D]? = some (.cells #[.int .i64 cl, .int .i64 no, .int .i64 kind, .string (bs k), .string (bs v), .string (bs od), .int .i64 fr, .int .i64 tt, .int .i64 E, .string (bs T)] 45)) := hcall.mono fun e W' hh => ⟨hh.1, hFA.on hh.2, (hh.2.block D (by omega)).trans rD⟩
      have HWA : Hid (wr.alloc (.cells #[.int .i64 cl, .int .i64 no, .int .i64 kind, .string (bs k), .string (bs v), .string (bs od), .int .i64 fr, .int .i64 tt, .int .i64 E, .string (bs T)] 45) = WA) := hWA
      have HD : Hid (wr.heap.size = D) := hD
      have HY : Hid ((P = s → ptC calls s (n + 1) = A ++ [⟨cl, no, ⟨kind, k, v, od⟩, fr, tt, (T, E)⟩]) ∧ (¬ P = s → ptC calls s (n + 1) = A)) := ⟨hye', hno'⟩
      have hml : A.length + 1 ≤ maxLen := by unfold maxLen; have := HK.out.2; omega
      have hkb : (A.length + 1) * 112 ≤ 140737488355328 := by have := HK.out.2; omega
      have x0 := cellB rD 0 _ rfl
      have x1 := cellB rD 1 _ rfl
      have x2 := cellB rD 2 _ rfl
      have x3 := cellB rD 3 _ rfl
      have x4 := cellB rD 4 _ rfl
      have x5 := cellB rD 5 _ rfl
      have x6 := cellB rD 6 _ rfl
      have x7 := cellB rD 7 _ rfl
      have x8 := cellB rD 8 _ rfl
      have x9 := cellB rD 9 _ rfl
      clear hye hno hye' hno' hln hB1 y hP hA hF hD rD hbA hWA hFA hB1A hzA hcall ho hkc
      go_upto_region 9 with fail
      rw [HWA.out]
      try rw [HD.out]
      clear y0 y1 y2 y3 y4 y5 y6 y7 y8 y9 HWA HD
      by_cases hs : P = s
      · subst hs
        have HX : Hid (ptC calls P (n + 1) = A ++ [⟨cl, no, ⟨kind, k, v, od⟩, fr, tt, (T, E)⟩]) := HY.out.1 rfl
        clear HY
        go_wp2_with (first
          | (go_at_call 21; refine HC.out.mono ?_; clear HC x0 x1 x2 x3 x4 x5 x6 x7 x8 x9; rintro e w3 ⟨rfl, hF3, hD3⟩; have hF3b := hF3.box; have c3 := cellB hF3b 0 _ rfl; have x0 := cellB hD3 0 _ rfl; have x1 := cellB hD3 1 _ rfl; have x2 := cellB hD3 2 _ rfl; have x3 := cellB hD3 3 _ rfl; have x4 := cellB hD3 4 _ rfl; have x5 := cellB hD3 5 _ rfl; have x6 := cellB hD3 6 _ rfl; have x7 := cellB hD3 7 _ rfl; have x8 := cellB hD3 8 _ rfl; have x9 := cellB hD3 9 _ rfl; have hown := hF3.own; have hN4 : (M + 1) ≤ (w3.alloc (.cells #[.int .i64 cl, .int .i64 no, .int .i64 kind, .string (bs k), .string (bs v), .string (bs od), .int .i64 fr, .int .i64 tt, .int .i64 E, .string (bs T)] 45)).heap.size := by (have := hF3.hi; rw [World.size_alloc]; omega))
          | (at_builtin; refine wpList_append_lies _ rfl _ _ 32 rfl (M + 1) 45 i0 (.agg #[.int .i64 0, .int .i64 0, .int .i64 0, .string ⟨#[]⟩, .string ⟨#[]⟩, .string ⟨#[]⟩, .int .i64 0, .int .i64 0, .int .i64 0, .string ⟨#[]⟩]) 10 112 Tryd.underlying32 HI0.out.1 HI0.out.2.1 HI0.out.2.2.1 HI0.out.2.2.2 rfl (by decide) (.slice xa2 A.length xc2) A.length _ rfl (hown.alloc _) _ 1 1 [.int .i64 cl, .int .i64 no, .int .i64 kind, .string (bs k), .string (bs v), .string (bs od), .int .i64 fr, .int .i64 tt, .int .i64 E, .string (bs T)] rfl rfl (World.news_of_block (heap_alloc_new _ _)) (by simp [Value.oneCell']) (by decide) hml hkb hN4 _ rfl ?_; intro ga ca w6 g1 g2 g3 g4; have hst := hF3.app (j := 0) ((Below.refl w3.heap.size w3).alloc (Nat.le_refl _) (.cells #[.int .i64 cl, .int .i64 no, .int .i64 kind, .string (bs k), .string (bs v), .string (bs od), .int .i64 fr, .int .i64 tt, .int .i64 E, .string (bs T)] 45)) (a := ⟨cl, no, ⟨kind, k, v, od⟩, fr, tt, (T, E)⟩) g1 g2 (fun v => rfl); have c6 := cellB hst.2 0 _ rfl; have f6 := frozenB hst.2 0; have HST : Hid (_) := hst.1; clear hst))
        go_roundg (calls.length - (n + 1))
        case measure => omega
        case rel => exact ⟨n + 1, _, by omega, by go_num, by rw [HX.out]; exact HST.out⟩
      · have hse : ((P : Int) == (s : Int)) = false := by simp; omega
        have HX : Hid (ptC calls s (n + 1) = A) := HY.out.2 hs
        clear HY hs
        go_wp2_with (first
          | (go_at_call 21; refine HC.out.mono ?_; clear HC x0 x1 x2 x3 x4 x5 x6 x7 x8 x9; rintro e w3 ⟨rfl, hF3, hD3⟩))
        have HF3 : Hid (_) := hF3
        clear hF3 hD3
        go_roundg (calls.length - (n + 1))
        case measure => omega
        case rel => exact ⟨n + 1, _, by omega, by go_num, by rw [HX.out]; exact HF3.out⟩
end Go.Proofs.YtihilkdokfdoeaaDoor
