/- Chains: ChainRuns, walked. -/
import Derived.Test.YtopahifpbnaelaaCeD
namespace Go.Proofs.Ytopahifpbnaelaa
open Go.RowKit
attribute [local go_sem ↓] Go.wp_at_zero Go.wp_at_succ

theorem Il_lit {w : World} {o : Obj} {L : List Value} {v : Value} {ns : List Int} (h : Il w v ns) : Il ((w.alloc o).setCells w.heap.size 0 L) v ns := by
  rcases h with h | ⟨b0, o0, cp, rfl, hlt, hc⟩
  · exact .inl h
  · refine .inr ⟨b0, o0, cp, rfl, by rw [blk_size]; simp; omega, fun i n hn => ?_⟩
    exact (World.cell?_of_block (a := ⟨b0, o0 + i, none⟩) ((blk_far (show b0 ≠ w.heap.size by omega) _ _ _).trans (Below.heap_alloc _ _ _ hlt))).trans (hc i n hn)
set_option maxRecDepth 20000 in
set_option maxHeartbeats 8000000 in
theorem runs_any (l : List C3) (v : Value) (num : Int) (w : World) (h : Cs w v l) :
    Calls Try.prog 4 #[v, .int .i64 num] w fun e W' => e = .returned (.bool true) ∧ Below w.heap.size w W' := by
  have hT := fun W => three_any W
  have hN := New_any w
  obtain ⟨va, vc, rfl⟩ := h.slice
  have HC : Hid (Cs w (.slice va l.length vc) l) := h
  clear h
  by_cases hbig : 150 < l.length
  · have hq : (150 : Int) < (l.length : Int) := by omega
    go_enter Try.func4, Try.ntmps4
    go_wp2_with (first
      | (go_at_call 13; refine hN.mono ?_; rintro e w1 ⟨rfl, hC0, hb1⟩; clear hC0)
      | (go_at_call 8; refine (hT _).mono ?_; rintro e w5 ⟨rfl, hb5⟩; have hB5 := hb1.trans (hb5.mono hb1.size)))
    go_ret
    exact ⟨rfl, hB5⟩
  have hq : ¬ (150 : Int) < (l.length : Int) := by omega
  obtain ⟨i0, hi, hz0, hz1, hz2⟩ := info_parts (show (Try.prog.info? 36).map (fun i => (i.zero, i.size, i.bytes)) = some (some (.agg #[.int .i64 0, .int .i64 0, .int .i64 0]), 3, 24) by kernel_rfl)
  have HINF : Hid (Try.prog.info? 36 = some i0 ∧ i0.zero = some (.agg #[.int .i64 0, .int .i64 0, .int .i64 0]) ∧ i0.size = 3 ∧ i0.bytes = 24) := ⟨hi, hz0, hz1, hz2⟩
  clear hi hz0 hz1 hz2
  have HLN : Hid (l.length ≤ 150) := by show _ ≤ _; omega
  clear hbig
  go_enter Try.func4, Try.ntmps4
  go_upto_region 2 with (first
    | (go_at_call 13; refine hN.mono ?_; rintro e w1 ⟨rfl, hC0, hb1⟩; have HR0 : Hid (Rl w w.heap.size [] (.slice none 0 0) (.slice none 0 0) [] w1) := ⟨hC0, World.ownsRow_nil _ _ _ _, (fun k hk => by cases hk), hb1⟩; clear hC0 hb1))
  clear hN
  go_wp2_with fail
  clear hq
  go_loopg [6, 33] l.length (fun gk u i wr => ∃ (j : Nat) (L : List Rc) (vch : Value), j + gk = l.length ∧ i = .int .i64 j ∧ Rl w w.heap.size L vch u (l.take j) wr ∧ cls L = runC [] (l.take j))
  case atStart => exact ⟨0, [], _, by omega, rfl, HR0.out, rfl⟩
  case round =>
    obtain ⟨j, L, vch, hj, rfl, hR, hcl⟩ := hrel
    clear HR0
    have hL40 : L.length ≤ 40 := by rw [← cls_len, hcl]; exact runC_len _ _ (by simp)
    by_cases hlt : j < l.length
    · obtain ⟨x, hx⟩ : ∃ x, l[j]? = some x := ⟨_, List.getElem?_eq_getElem hlt⟩
      obtain ⟨k1, g1, s1⟩ := x
      obtain ⟨cb, co, hva, y0, y1, y2⟩ := (HC.out.next hR.bel).at hx
      subst hva
      have htk : l.take (j + 1) = l.take j ++ [(k1, g1, s1)] := by rw [List.take_add_one, hx]; rfl
      have hnext : runC [] (l.take (j + 1)) = doC (cls L) k1 g1 s1 := by rw [htk, runC_snoc, ← hcl]
      have HNX : Hid (runC [] (l.take (j + 1)) = doC (cls L) k1 g1 s1) := hnext
      have HTK : Hid (l.take (j + 1) = l.take j ++ [(k1, g1, s1)]) := htk
      have htl : (l.take j).length = j := by simp; omega
      obtain ⟨ra, rc, rfl⟩ := owns_slice hR.row
      rw [htl] at hR ⊢
      have HTL0 : Hid ((l.take j).length = j) := htl
      clear htl
      have hbA := (Below.refl wr.heap.size wr).alloc (Nat.le_refl _) (.cells #[.int .i64 k1, .int .i64 g1, .int .i64 s1] 27)
      have hRA := hR.next hbA
      have rD := heap_alloc_new wr (.cells #[.int .i64 k1, .int .i64 g1, .int .i64 s1] 27)
      have hvD : vch.ownBlock ≠ some wr.heap.size := fun e => by have := (hR.ch.own.lt _ e).2; omega
      have hBD : wr.heap.size ≠ w.heap.size := by have := hR.ch.lt; omega
      have hDo := Do2_any k1 g1 s1 w.heap.size w.heap.size vch L _ hRA.ch (by omega)
      obtain ⟨WA, hWA⟩ : ∃ W, wr.alloc (.cells #[.int .i64 k1, .int .i64 g1, .int .i64 s1] 27) = W := ⟨_, rfl⟩
      have hDs : wr.heap.size < WA.heap.size := by rw [← hWA]; simp
      rw [hWA] at rD hRA hDo
      obtain ⟨D, hD⟩ : ∃ D, wr.heap.size = D := ⟨_, rfl⟩
      have HV : Hid (wr.alloc (.cells #[.int .i64 k1, .int .i64 g1, .int .i64 s1] 27) = WA) := hWA
      have HD : Hid (wr.heap.size = D) := hD
      rw [hD] at rD hvD hBD hDs
      have f0 := cellB rD 0 _ rfl
      have f1 := cellB rD 1 _ rfl
      have f2 := cellB rD 2 _ rfl
      have HRA : Hid (Rl w w.heap.size L vch (.slice ra j rc) (l.take j) WA) := hRA
      have HRD : Hid (WA.heap[D]? = some (.cells #[.int .i64 k1, .int .i64 g1, .int .i64 s1] 27) ∧ vch.ownBlock ≠ some D ∧ D ≠ w.heap.size ∧ D < WA.heap.size) := ⟨rD, hvD, hBD, hDs⟩
      have j0 : (0 : Int) ≤ (j : Int) := by omega
      have j1 : (j : Int) < (l.length : Int) := by omega
      clear hx htk hnext hR hcl hbA hRA rD hvD hBD hWA hDs hD
      go_upto_region 8 with fail
      rw [HV.out, HD.out]
      clear HV y0 y1 y2
      go_upto_region 9 with (first
        | (go_at_call 14; refine hDo.mono ?_; rintro e w2 ⟨rfl, hd⟩; obtain ⟨L2, v2, d1, d2⟩ := HRA.out.did hd; have rD2 : w2.heap[D]? = some (.cells #[.int .i64 k1, .int .i64 g1, .int .i64 s1] 27) := (by obtain ⟨_, _, _, _, hk, _⟩ := hd; exact (hk.block D HRD.out.2.2.2 HRD.out.2.2.1 HRD.out.2.1).trans HRD.out.1); have HR2 : Hid (Rl w w.heap.size L2 v2 (.slice ra j rc) (l.take j) w2) := d2; have HD1 : Hid (cls L2 = doC (cls L) k1 g1 s1) := d1; have f0 := cellB rD2 0 _ rfl; have f1 := cellB rD2 1 _ rfl; have f2 := cellB rD2 2 _ rfl; clear hd d1 d2 rD2))
      clear hDo
      have hml : j + 1 ≤ maxLen := by unfold maxLen; have := HLN.out; omega
      have hkb : (j + 1) * 24 ≤ 140737488355328 := by have := HLN.out; omega
      have hws := HR2.out.bel.size
      obtain ⟨T, hTT⟩ : ∃ T, l.take j = T := ⟨_, rfl⟩
      rw [hTT] at HR2 HTK HTL0
      have HTL : Hid (T.length = j) := HTL0.out
      have HROW : Hid (w2.ownsRow w.heap.size 36 3 (.slice ra j rc) j (ccs T)) := by have h9 := HR2.out.row; rw [HTL.out] at h9; exact h9
      clear hTT HTL0
      go_wp2_with (first
        | (at_builtin; refine wpList_append_lies _ rfl _ _ 42 rfl w.heap.size 36 i0 (.agg #[.int .i64 0, .int .i64 0, .int .i64 0]) 3 24 (show Try.prog.underlying 42 = some (.slice 36) by kernel_rfl) HINF.out.1 HINF.out.2.1 HINF.out.2.2.1 HINF.out.2.2.2 rfl (by decide) (.slice ra j rc) j (ccs T) rfl (HROW.out.alloc _) _ 1 1 [.int .i64 k1, .int .i64 g1, .int .i64 s1] rfl rfl (World.news_of_block (heap_alloc_new _ _)) (by simp [Value.oneCell']) (by decide) hml hkb (by simp; omega) _ rfl ?_; intro gb cap w5 i1 i2 i3 i4; have HK : Hid (Rl w w.heap.size L2 v2 (.slice (some ⟨gb, 0, none⟩) (T.length + 1) cap) (T ++ [(k1, g1, s1)]) w5) := HR2.out.push (x := (k1, g1, s1)) (by rw [HTL.out]; exact i1) i2 i3; clear i1 i2 i3 i4))
      go_roundg (l.length - (j + 1))
      case measure => omega
      case rel => exact ⟨j + 1, L2, v2, by omega, by go_num, by rw [HTK.out, ← HTL.out]; exact HK.out, by rw [HD1.out, HNX.out]⟩
    · have hkl : j = l.length := by omega
      subst hkl
      rw [List.take_length] at hR hcl
      obtain ⟨ra, rc, rfl⟩ := owns_slice hR.row
      obtain ⟨W1, rfl⟩ : ∃ W1, W1 = wr := ⟨_, rfl⟩
      have hRun := Run_any l (.slice ra l.length rc) W1 (Cs_owns hR.row) (by have := HLN.out; omega)
      have HR1 : Hid (Rl w w.heap.size L vch (.slice ra l.length rc) l W1) := hR
      have HCL : Hid (cls L = runC [] l) := hcl
      clear hR hcl
      go_upto_region 12 with (first
        | (go_at_call 15; refine hRun.mono ?_; rintro e w3 ⟨u2, L2, rfl, r1, r2, r3⟩; obtain ⟨ua, uc, hu2⟩ := owns_slice r2.own; subst hu2; have HRU : Hid (RunAt W1.heap.size w3 (.slice ua (L2.length + 1) uc) L2) := r2; have HEQ : Hid (cls L2 = cls L) := (r1.trans HCL.out.symm); have HB3 : Hid (Below W1.heap.size W1 w3) := r3; clear r1 r2 r3))
      clear hRun
      have hlen : L2.length = L.length := by rw [← cls_len, HEQ.out, cls_len]
      have hL40 : L.length ≤ 40 := by rw [← cls_len, HCL.out]; exact runC_len _ _ (by simp)
      obtain ⟨ug, ucap, _, _, _, _, _, hua, _⟩ := HRU.out.row (Nat.zero_le _)
      injection hua with hua _ hua2
      subst hua hua2
      have hceq : ∀ k, cfgAt L2 k = cfgAt L k := fun k => by rw [cfgAt_cls, cfgAt_cls, HEQ.out]
      obtain ⟨n, hn⟩ : ∃ n, L.length = n := ⟨_, rfl⟩
      obtain ⟨M, hM⟩ : ∃ M : Nat, n + 1 = M := ⟨_, rfl⟩
      have HRow : Hid (∀ W, Below w3.heap.size w3 W → ∀ k, k ≤ n → ∃ (ga : Option Addr) (gc : Nat) (a b c d : Nat), (cfgAt L k).2 = [a, b, c, d] ∧ Il W (.slice ga (zi (cfgAt L k).1).length gc) (zi (cfgAt L k).1) ∧ W.rangeAt ug (k * 6) (cfL (k : Int) (.slice ga (zi (cfgAt L k).1).length gc) a b c d) ∧ (cfgAt L k).1.length ≤ 4) := fun W hW k hk => by
        obtain ⟨g', cap', gv, a, b, c, d, e1, e2, e3, e4, e5, e6⟩ := (HRU.out.next hW).row (show k ≤ L2.length by omega)
        injection e1 with e1 _ _
        injection e1 with e1
        injection e1 with e1 _ _
        subst e1
        rw [hceq] at e2 e3 e5
        obtain ⟨ga, gc, rfl⟩ := e3.slice
        exact ⟨ga, gc, a, b, c, d, e2, e3, e4, (conf_of e5).1⟩
      have HCH : Hid (∀ W, Below w3.heap.size w3 W → ChAt w.heap.size W w.heap.size vch L) := fun W hW => (HR1.out.ch.next HB3.out).next hW
      have HLe : Hid (L.length = n ∧ n + 1 = M ∧ n ≤ 40) := ⟨hn, hM, by omega⟩
      have HBW : Hid (Below w.heap.size w w3) := HR1.out.bel.trans (HB3.out.mono HR1.out.bel.size)
      rw [hlen, hn, hM]
      clear hlen hL40 hceq hn hM HRU HEQ HCL HR1 HB3 HC HINF
      go_wp2_with fail
      go_loopg [55] M (fun gk i wr => ∃ k : Nat, k + gk = M ∧ i = .int .i64 k ∧ Below w3.heap.size w3 wr)
      case atStart => exact ⟨0, by omega, rfl, Below.refl _ _⟩
      case round =>
        obtain ⟨k, hk, rfl, hB⟩ := hrel
        by_cases hkM : k < M
        · have HKM : Hid (k < M) := hkM
          obtain ⟨hn, hM, hn40⟩ := HLe.out
          obtain ⟨ga, gc, a, b, c, d, e1, e2, e3, e4⟩ := HRow.out wr hB k (by omega)
          obtain ⟨G, hG⟩ : ∃ G, (cfgAt L k).1 = G := ⟨_, rfl⟩
          rw [hG] at e2 e3 e4
          have HGG : Hid ((cfgAt L k).1 = G) := hG
          have HE1 : Hid ((cfgAt L k).2 = [a, b, c, d]) := e1
          have HIL : Hid (Il wr (.slice ga (zi G).length gc) (zi G)) := e2
          have HB : Hid (Below w3.heap.size w3 wr) := hB
          have KR : Hid (wr.rangeAt ug (k * 6) (cfL (k : Int) (.slice ga (zi G).length gc) a b c d)) := e3
          have k0 : (0 : Int) ≤ (k : Int) := by omega
          have k1 : (k : Int) < (M : Int) := by omega
          have kb : k ≤ 50 := by omega
          have KS : Hid ((wr.alloc (.cells (cf 0 (.slice none 0 0) 0 0 0 0) 32)).there wr.heap.size 0 6) := blk_there (heap_alloc_new wr _) 0 6 (Nat.le_refl _)
          clear e1 e2 e3 hG hB hn hM hn40
          go_upto_region 15 with (first
            | (refine wpList_load_mid rfl 32 _ rfl ug (k * 6) rfl (cfL (k : Int) (.slice ga (zi G).length gc) a b c d) _ KR.out Try.underlying32 rfl Try.size32 ?_)
            | (refine wpList_store_mid rfl 32 _ _ rfl wr.heap.size 0 (cf (k : Int) (.slice ga (zi G).length gc) a b c d) rfl rfl KS.out Try.size32 (cf_ones _ _ _ _ _ _ _ _) ?_))
          have hb0 := HB.out.alloc HB.out.size (.cells (cf 0 (.slice none 0 0) 0 0 0 0) 32)
          have hzz := heap_alloc_new wr (.cells (cf 0 (.slice none 0 0) 0 0 0 0) 32)
          have hbB := blk_below HB.out.size (cfL (k : Int) (.slice ga (zi G).length gc) a b c d) 0 _ hb0
          have rX := blk_set hzz (L := cfL (k : Int) (.slice ga (zi G).length gc) a b c d) rfl
          have hilB : Il ((wr.alloc (.cells (cf 0 (.slice none 0 0) 0 0 0 0) 32)).setCells wr.heap.size 0 (cfL (k : Int) (.slice ga (zi G).length gc) a b c d)) (.slice ga (zi G).length gc) (zi G) := Il_lit HIL.out
          obtain ⟨WB, hWB⟩ : ∃ W, (wr.alloc (.cells (cf 0 (.slice none 0 0) 0 0 0 0) 32)).setCells wr.heap.size 0 (cfL (k : Int) (.slice ga (zi G).length gc) a b c d) = W := ⟨_, rfl⟩
          rw [hWB] at hbB rX hilB ⊢
          have hXs : wr.heap.size < WB.heap.size := (Array.getElem?_eq_some_iff.1 rX).1
          obtain ⟨hn, hM, hn40⟩ := HLe.out
          have hGet : Calls Try.prog 16 #[.pointer (some ⟨w.heap.size, 0, none⟩), .int .i64 (k : Int)] WB fun e W' => ∃ ga' gc', e = .returned (.tuple #[.agg (cf (k : Int) (.slice ga' (zi G).length gc') a b c d), .int .i64 0]) ∧ Il W' (.slice ga' (zi G).length gc') (zi G) ∧ Below WB.heap.size WB W' := by
            refine (Get_ok k w.heap.size w.heap.size vch L WB (HCH.out _ hbB) (by omega) (by omega)).mono ?_
            rintro e W' ⟨x, rfl, u, a', b', c', d', i1, rfl, i3, i4, i5⟩
            rw [HE1.out] at i1
            obtain ⟨rfl, rfl, rfl, rfl⟩ := four_eq i1
            rw [HGG.out] at i3
            obtain ⟨ga', gc', rfl⟩ := i3.slice
            exact ⟨ga', gc', rfl, i3, i5⟩
          obtain ⟨X, hX⟩ : ∃ X, wr.heap.size = X := ⟨_, rfl⟩
          rw [hX] at rX hXs ⊢
          have HRX : Hid (WB.heap[X]? = some (.cells (cf (k : Int) (.slice ga (zi G).length gc) a b c d) 32) ∧ X < WB.heap.size ∧ Il WB (.slice ga (zi G).length gc) (zi G) ∧ Below w3.heap.size w3 WB) := ⟨rX, hXs, hilB, hbB⟩
          clear hb0 hzz hbB rX hilB hWB hXs hn hM hn40 hX KS KR HIL HB
          go_upto_region 16 with (first
            | (go_at_call 16; refine hGet.mono ?_; rintro e w4 ⟨ga', gc', rfl, i3, i5⟩; have HI4 : Hid (Il w4 (.slice ga' (zi G).length gc') (zi G) ∧ Below WB.heap.size WB w4) := ⟨i3, i5⟩; clear i3 i5))
          obtain ⟨i3, i5⟩ := HI4.out
          obtain ⟨rX, hXs, hilB, hbB⟩ := HRX.out
          have hbE := i5.alloc i5.size (.cells (cf (k : Int) (.slice ga' (zi G).length gc') a b c d) 25)
          have rE := heap_alloc_new w4 (.cells (cf (k : Int) (.slice ga' (zi G).length gc') a b c d) 25)
          have rX2 := (hbE.block _ hXs).trans rX
          have hilE := i3.next ((Below.refl _ w4).alloc (Nat.le_refl _) (.cells (cf (k : Int) (.slice ga' (zi G).length gc') a b c d) 25))
          have hSm := same_any (k : Int) (zi G) (.slice ga' (zi G).length gc') (.slice ga (zi G).length gc) a b c d _ hilE (hilB.next hbE) (by rw [zi_len]; omega)
          have hbF := hbB.trans (hbE.mono hbB.size)
          obtain ⟨WE, hWE⟩ : ∃ W, w4.alloc (.cells (cf (k : Int) (.slice ga' (zi G).length gc') a b c d) 25) = W := ⟨_, rfl⟩
          rw [hWE] at rE rX2 hSm hbF ⊢
          obtain ⟨Y, hY⟩ : ∃ Y, w4.heap.size = Y := ⟨_, rfl⟩
          rw [hY] at rE ⊢
          have p0 := cellB rE 0 _ rfl
          have q0 := cellB rX2 0 _ rfl
          have p1 := cellB rE 1 _ rfl
          have q1 := cellB rX2 1 _ rfl
          have p2 := cellB rE 2 _ rfl
          have q2 := cellB rX2 2 _ rfl
          have p3 := cellB rE 3 _ rfl
          have q3 := cellB rX2 3 _ rfl
          have p4 := cellB rE 4 _ rfl
          have q4 := cellB rX2 4 _ rfl
          have p5 := cellB rE 5 _ rfl
          have q5 := cellB rX2 5 _ rfl
          clear i3 i5 rX hXs hilB hbB hbE rE rX2 hilE hWE hY HI4 HRX hGet
          go_wp2_with (first
            | (go_at_call 12; refine hSm.mono ?_; rintro e w5 ⟨rfl, hb5⟩))
          go_roundg (M - (k + 1))
          case measure => omega
          case rel => exact ⟨k + 1, by have := HKM.out; omega, by go_num, hbF.trans (hb5.mono hbF.size)⟩
        · have hkM : k = M := by omega
          subst hkM
          obtain ⟨hn, hM, hn40⟩ := HLe.out
          obtain ⟨EN, hEN⟩ : ∃ EN : Int, (if wi num 0 (n : Int) = true then 0 else 6) = EN := ⟨_, rfl⟩
          have HGn : Hid (∀ W, Below w3.heap.size w3 W → Calls Try.prog 16 #[.pointer (some ⟨w.heap.size, 0, none⟩), .int .i64 num] W fun e W' => ∃ (nn : Int) (ga : Option Addr) (gl gc : Nat) (a b c d : Nat), e = .returned (.tuple #[.agg (cf nn (.slice ga gl gc) a b c d), .int .i64 EN]) ∧ Below W.heap.size W W') := fun W hW => by
            by_cases hw : wi num 0 (n : Int) = true
            · have hw2 := wi_t hw
              obtain ⟨m, rfl⟩ : ∃ m : Nat, num = m := ⟨num.toNat, by omega⟩
              rw [if_pos hw] at hEN
              refine (Get_ok m w.heap.size w.heap.size vch L W (HCH.out _ hW) (by omega) (by omega)).mono ?_
              rintro e W' ⟨x, rfl, u, a', b', c', d', i1, rfl, i3, i4, i5⟩
              obtain ⟨ga, gc, rfl⟩ := i3.slice
              exact ⟨m, ga, _, gc, a', b', c', d', by rw [hEN], i5⟩
            · rw [if_neg hw] at hEN
              refine (Get_no num w.heap.size w.heap.size vch L W (HCH.out _ hW) (by rw [hn]; simpa using hw)).mono ?_
              rintro e W' ⟨rfl, hb⟩
              exact ⟨0, none, 0, 0, 0, 0, 0, 0, by rw [hEN]; rfl, hb⟩
          have HGm : Hid (∀ W, Below w3.heap.size w3 W → Calls Try.prog 16 #[.pointer (some ⟨w.heap.size, 0, none⟩), .int .i64 (k : Int)] W fun e W' => e = .returned (.tuple #[.agg (cf 0 (.slice none 0 0) 0 0 0 0), .int .i64 6]) ∧ Below W.heap.size W W') := fun W hW => Get_no (k : Int) w.heap.size w.heap.size vch L W (HCH.out _ hW) (by rw [hn]; simp [wi]; omega)
          have HNo : Hid (∀ W, Calls Try.prog 17 #[.slice (some ⟨ug, 0, none⟩) k uc, .int .i64 num] W fun e W' => e = .returned (.int .i64 EN) ∧ W' = W) := fun W => by
            have h9 := None_any (some ⟨ug, 0, none⟩) k uc num W
            rw [show (k : Int) - 1 = (n : Int) by omega, hEN] at h9
            exact h9
          have HB : Hid (Below w3.heap.size w3 wr) := hB
          have hg1 := HGn.out wr hB
          clear hEN hB hn hM hn40
          go_upto_region 20 with (first
            | (go_at_call 16; refine hg1.mono ?_; rintro e w4 ⟨nn, ga, gl, gc, a, b, c, d, rfl, h4⟩; have HB4 : Hid (Below w3.heap.size w3 w4) := HB.out.trans (h4.mono HB.out.size); clear h4))
          have hbA := HB4.out.alloc HB4.out.size (.cells (cf nn (.slice ga gl gc) a b c d) 25)
          obtain ⟨W5, hW5⟩ : ∃ W, w4.alloc (.cells (cf nn (.slice ga gl gc) a b c d) 25) = W := ⟨_, rfl⟩
          rw [hW5] at hbA ⊢
          have hg2 := HGm.out W5 hbA
          have HB5 : Hid (Below w3.heap.size w3 W5) := hbA
          clear hW5 hbA hg1 HGn HGm
          go_upto_region 21 with (first
            | (go_at_call 16; refine hg2.mono ?_; rintro e w6 ⟨rfl, h6⟩; have HB6 : Hid (Below w3.heap.size w3 w6) := HB5.out.trans (h6.mono HB5.out.size); clear h6))
          have hbA := HB6.out.alloc HB6.out.size (.cells (cf 0 (.slice none 0 0) 0 0 0 0) 25)
          obtain ⟨W7, hW7⟩ : ∃ W, w6.alloc (.cells (cf 0 (.slice none 0 0) 0 0 0 0) 25) = W := ⟨_, rfl⟩
          rw [hW7] at hbA ⊢
          obtain ⟨hn, hM, hn40⟩ := HLe.out
          obtain ⟨ha, hc, p, q, r, t, e1, e2, e3, e4⟩ := HRow.out W7 hbA n (Nat.le_refl _)
          obtain ⟨G, hG⟩ : ∃ G, (cfgAt L n).1 = G := ⟨_, rfl⟩
          rw [hG] at e2 e3 e4
          have hus : ug < W7.heap.size := World.block_lt_of_cell? W7 _ (e3 0 _ rfl)
          have HLs : Hid (∀ W, Below W7.heap.size W7 W → Calls Try.prog 18 #[.pointer (some ⟨w.heap.size, 0, none⟩)] W fun e W' => ∃ la lc, e = .returned (.agg (cf (n : Int) (.slice la (zi G).length lc) p q r t)) ∧ Il W' (.slice la (zi G).length lc) (zi G) ∧ Below W.heap.size W W') := fun W hW => by
            refine (Last_any w.heap.size w.heap.size vch L W (HCH.out _ (hbA.trans (hW.mono hbA.size))) (by omega)).mono ?_
            rintro e W' ⟨x, rfl, u, a', b', c', d', i1, rfl, i3, i4, i5⟩
            rw [hn, e1] at i1
            obtain ⟨rfl, rfl, rfl, rfl⟩ := four_eq i1
            rw [hn, hG] at i3
            obtain ⟨la, lc, rfl⟩ := i3.slice
            exact ⟨la, lc, by rw [hn], i3, i5⟩
          have HSB : Hid (∀ W, Below W7.heap.size W7 W → W.rangeAt ug (n * 6) (cfL (n : Int) (.slice ha (zi G).length hc) p q r t)) := fun W hW jj x hx => (hW.cell (p := ⟨ug, n * 6 + jj, none⟩) hus).trans (e3 jj x hx)
          have HIG : Hid (Il W7 (.slice ha (zi G).length hc) (zi G) ∧ (zi G).length ≤ 1000) := ⟨e2, by rw [zi_len]; omega⟩
          have HB7 : Hid (Below w3.heap.size w3 W7) := hbA
          have z1 : IntKind.i64.wrap ((k : Int) - 1) = (n : Int) := by rw [← hM]; simp [IntKind.wrap, IntKind.bits, IntKind.signed]; omega
          have z2 : (0 : Int) ≤ (n : Int) := by omega
          have z3 : (n : Int) < (k : Int) := by omega
          have z4 : IntKind.i64.wrap (n : Int) = (n : Int) := by simp [IntKind.wrap, IntKind.bits, IntKind.signed]; omega
          clear hW7 hbA hn hM hn40 e1 e2 e3 e4 hG hus hg2 HRow HCH
          refine region_Z 99 (fun w' => w'.rangeAt ug (n * 6) (cfL (n : Int) (.slice ha (zi G).length hc) p q r t)) (by kernel_rfl) ?_
          have hbD : Below W7.heap.size W7 W7.drew := below_drew (Below.refl _ _)
          have hS0 := HSB.out _ hbD
          refine Y_take (i := 0) (v := ?_) rfl (by kernel_rfl) (by kernel_rfl) (by kernel_rfl) (by kernel_rfl) (fun _ _ _ h => h) (by rfl) hS0 ?_ ?_
          rotate_left
          · (intro w' hSw; go_simp; (try with_reducible rfl))
          simp only [Act.put, List.getElem_toArray, List.getElem_cons_zero, List.setIfInBounds_toArray, List.set_cons_succ, List.set_cons_zero]
          refine Y_take (i := 1) (v := ?_) rfl (by kernel_rfl) (by kernel_rfl) (by kernel_rfl) (by kernel_rfl) (fun _ _ _ h => h) (by rfl) hS0 ?_ ?_
          rotate_left
          · (intro w' hSw; go_simp; (try with_reducible rfl))
          simp only [Act.put, List.getElem_toArray, List.getElem_cons_succ, List.getElem_cons_zero, List.setIfInBounds_toArray, List.set_cons_succ, List.set_cons_zero]
          refine Y_take (i := 2) (v := ?_) rfl (by kernel_rfl) (by kernel_rfl) (by kernel_rfl) (by kernel_rfl) (fun _ _ _ h => h) (by rfl) hS0 ?_ ?_
          rotate_left
          · (intro w' hSw; go_simp; (try with_reducible rfl))
          simp only [Act.put, List.getElem_toArray, List.getElem_cons_succ, List.getElem_cons_zero, List.setIfInBounds_toArray, List.set_cons_succ, List.set_cons_zero]
          refine Z_step (i := 3) (by kernel_rfl) rfl (fun K hK => ?_)
          go_simp
          refine (HNo.out _).mono ?_
          rintro e w8 ⟨rfl, h9⟩
          subst w8
          refine hK _ _ (fun _ => hS0) ?_
          clear hK K
          refine Y_take (i := 4) (v := ?_) rfl (by kernel_rfl) (by kernel_rfl) (by kernel_rfl) (by kernel_rfl) (fun _ _ _ h => h) (by rfl) hS0 ?_ ?_
          rotate_left
          · (intro w' hSw; go_simp; (try with_reducible rfl))
          simp only [Act.put, List.getElem_toArray, List.getElem_cons_succ, List.getElem_cons_zero, List.setIfInBounds_toArray, List.set_cons_succ, List.set_cons_zero]
          refine Y_take (i := 5) (v := ?_) rfl (by kernel_rfl) (by kernel_rfl) (by kernel_rfl) (by kernel_rfl) (fun _ _ _ h => h) (by rfl) hS0 ?_ ?_
          rotate_left
          · (intro w' hSw; go_simp; (try with_reducible rfl))
          simp only [Act.put, List.getElem_toArray, List.getElem_cons_succ, List.getElem_cons_zero, List.setIfInBounds_toArray, List.set_cons_succ, List.set_cons_zero]
          refine Y_take (i := 6) (v := ?_) rfl (by kernel_rfl) (by kernel_rfl) (by kernel_rfl) (by kernel_rfl) (fun _ _ _ h => h) (by rfl) hS0 ?_ ?_
          rotate_left
          · (intro w' hSw; go_simp; (try with_reducible rfl))
          simp only [Act.put, List.getElem_toArray, List.getElem_cons_succ, List.getElem_cons_zero, List.setIfInBounds_toArray, List.set_cons_succ, List.set_cons_zero]
          refine Y_take (i := 7) (v := ?_) rfl (by kernel_rfl) (by kernel_rfl) (by kernel_rfl) (by kernel_rfl) (fun _ _ _ h => h) (by rfl) hS0 ?_ ?_
          rotate_left
          · (intro w' hSw; go_simp; (try with_reducible rfl))
          simp only [Act.put, List.getElem_toArray, List.getElem_cons_succ, List.getElem_cons_zero, List.setIfInBounds_toArray, List.set_cons_succ, List.set_cons_zero]
          refine Y_take (i := 8) (v := ?_) rfl (by kernel_rfl) (by kernel_rfl) (by kernel_rfl) (by kernel_rfl) (fun _ _ _ h => h) (by rfl) hS0 ?_ ?_
          rotate_left
          · (intro w' hSw; go_simp; (try with_reducible rfl))
          simp only [Act.put, List.getElem_toArray, List.getElem_cons_succ, List.getElem_cons_zero, List.setIfInBounds_toArray, List.set_cons_succ, List.set_cons_zero]
          refine Y_take (i := 9) (v := ?_) rfl (by kernel_rfl) (by kernel_rfl) (by kernel_rfl) (by kernel_rfl) (fun _ _ _ h => h) (by rfl) hS0 ?_ ?_
          rotate_left
          · (intro w' hSw; go_simp; (try with_reducible rfl))
          simp only [Act.put, List.getElem_toArray, List.getElem_cons_succ, List.getElem_cons_zero, List.setIfInBounds_toArray, List.set_cons_succ, List.set_cons_zero]
          refine Y_take (i := 10) (v := ?_) rfl (by kernel_rfl) (by kernel_rfl) (by kernel_rfl) (by kernel_rfl) (fun _ _ _ h => h) (by rfl) hS0 ?_ ?_
          rotate_left
          · (intro w' hSw; go_simp; (try with_reducible rfl))
          simp only [Act.put, List.getElem_toArray, List.getElem_cons_succ, List.getElem_cons_zero, List.setIfInBounds_toArray, List.set_cons_succ, List.set_cons_zero]
          refine Y_take (i := 12) (v := ?_) rfl (by kernel_rfl) (by kernel_rfl) (by kernel_rfl) (by kernel_rfl) (fun _ _ _ h => h) (by rfl) hS0 ?_ ?_
          rotate_left
          · (intro w' hSw; go_simp; (try with_reducible rfl))
          simp only [Act.put, List.getElem_toArray, List.getElem_cons_succ, List.getElem_cons_zero, List.setIfInBounds_toArray, List.set_cons_succ, List.set_cons_zero]
          refine Y_take (i := 13) (v := ?_) rfl (by kernel_rfl) (by kernel_rfl) (by kernel_rfl) (by kernel_rfl) (fun _ _ _ h => h) (by rfl) hS0 ?_ ?_
          rotate_left
          · (intro w' hSw; go_simp; (try with_reducible rfl))
          simp only [Act.put, List.getElem_toArray, List.getElem_cons_succ, List.getElem_cons_zero, List.setIfInBounds_toArray, List.set_cons_succ, List.set_cons_zero]
          refine Y_take (i := 14) (v := ?_) rfl (by kernel_rfl) (by kernel_rfl) (by kernel_rfl) (by kernel_rfl) (fun _ _ _ h => h) (by rfl) hS0 ?_ ?_
          rotate_left
          · (intro w' hSw; go_simp; (try with_reducible rfl))
          simp only [Act.put, List.getElem_toArray, List.getElem_cons_succ, List.getElem_cons_zero, List.setIfInBounds_toArray, List.set_cons_succ, List.set_cons_zero]
          refine Y_take (i := 15) (v := ?_) rfl (by kernel_rfl) (by kernel_rfl) (by kernel_rfl) (by kernel_rfl) (fun _ _ _ h => h) (by rfl) hS0 ?_ ?_
          rotate_left
          · (intro w' hSw; go_simp; (try with_reducible rfl))
          simp only [Act.put, List.getElem_toArray, List.getElem_cons_succ, List.getElem_cons_zero, List.setIfInBounds_toArray, List.set_cons_succ, List.set_cons_zero]
          refine Y_take (i := 16) (v := ?_) rfl (by kernel_rfl) (by kernel_rfl) (by kernel_rfl) (by kernel_rfl) (fun _ _ _ h => h) (by rfl) hS0 ?_ ?_
          rotate_left
          · (intro w' hSw; go_simp; (try with_reducible rfl))
          simp only [Act.put, List.getElem_toArray, List.getElem_cons_succ, List.getElem_cons_zero, List.setIfInBounds_toArray, List.set_cons_succ, List.set_cons_zero]
          refine Y_takeY (i := 17) (v := .agg (cfL (n : Int) (.slice ha (zi G).length hc) p q r t).toArray) rfl (by kernel_rfl) (by kernel_rfl) (by kernel_rfl) (by kernel_rfl) (fun _ _ _ h => h) (yieldsIf_load_mid (by rfl) 32 _ rfl ug (n * 6) (by rfl) (cfL (n : Int) (.slice ha (zi G).length hc) p q r t) _ (fun w h => h) Try.underlying32 rfl Try.size32) hS0 ?_
          simp only [Act.put, List.getElem_toArray, List.getElem_cons_succ, List.getElem_cons_zero, List.setIfInBounds_toArray, List.set_cons_succ, List.set_cons_zero]
          refine Z_step (i := 11) (by kernel_rfl) rfl (fun K hK => ?_)
          go_simp
          refine (HLs.out _ hbD).mono ?_
          rintro e w8 ⟨la, lc, rfl, il8, hb8⟩
          have hbE := hbD.trans (hb8.mono hbD.size)
          have hS1 := HSB.out _ hbE
          refine hK _ _ (fun _ => hS1) ?_
          clear hK K
          refine Z_step (i := 18) (by kernel_rfl) rfl (fun K hK => ?_)
          go_simp
          refine (same_any (n : Int) (zi G) (.slice la (zi G).length lc) (.slice ha (zi G).length hc) p q r t w8 il8 (HIG.out.1.next hbE) HIG.out.2).mono ?_
          rintro e w9 ⟨rfl, hb9⟩
          have hbF := hbE.trans (hb9.mono hbE.size)
          have hS2 := HSB.out _ hbF
          refine hK _ _ (fun _ => hS2) ?_
          clear hK K
          refine Y_take (i := 19) (v := ?_) rfl (by kernel_rfl) (by kernel_rfl) (by kernel_rfl) (by kernel_rfl) (fun _ _ _ h => h) (by rfl) hS2 ?_ ?_
          rotate_left
          · (intro w' hSw; go_simp; (try with_reducible rfl))
          simp only [Act.put, List.getElem_toArray, List.getElem_cons_succ, List.getElem_cons_zero, List.setIfInBounds_toArray, List.set_cons_succ, List.set_cons_zero]
          refine Y_take (i := 20) (v := ?_) rfl (by kernel_rfl) (by kernel_rfl) (by kernel_rfl) (by kernel_rfl) (fun _ _ _ h => h) (by rfl) hS2 ?_ ?_
          rotate_left
          · (intro w' hSw; go_simp; (try with_reducible rfl))
          simp only [Act.put, List.getElem_toArray, List.getElem_cons_succ, List.getElem_cons_zero, List.setIfInBounds_toArray, List.set_cons_succ, List.set_cons_zero]
          refine Z_step (i := 21) (by kernel_rfl) rfl (fun K hK => ?_)
          go_simp
          refine (hT _).mono ?_
          rintro e w10 ⟨rfl, hb10⟩
          have hbG := hbF.trans (hb10.mono hbF.size)
          have hS3 := HSB.out _ hbG
          refine hK _ _ (fun _ => hS3) ?_
          clear hK K
          refine Y_take (i := 22) (v := ?_) rfl (by kernel_rfl) (by kernel_rfl) (by kernel_rfl) (by kernel_rfl) (fun _ _ _ h => h) (by rfl) hS3 ?_ ?_
          rotate_left
          · (intro w' hSw; go_simp; (try with_reducible rfl))
          simp only [Act.put, List.getElem_toArray, List.getElem_cons_succ, List.getElem_cons_zero, List.setIfInBounds_toArray, List.set_cons_succ, List.set_cons_zero]
          refine Z_step (i := 23) (by kernel_rfl) rfl (fun K hK => ?_)
          go_simp
          refine hK _ _ (fun _ => hS3) (Z_done (by kernel_rfl) ?_ _)
          clear hK K
          have hfin := HBW.out.trans (HB7.out.mono HBW.out.size)
          have hfin2 := hfin.trans (hbG.mono hfin.size)
          clear hS0 hS1 hS2 hS3 hbD hbE hbF hbG hb8 hb9 hb10 il8
          go_wp2_with fail
          go_ret
          exact ⟨rfl, hfin2⟩
end Go.Proofs.Ytopahifpbnaelaa
