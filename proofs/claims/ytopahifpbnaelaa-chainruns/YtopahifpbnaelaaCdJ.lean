/- Chains: ChainNext, walked. -/
import Derived.Test.YtopahifpbnaelaaCdI
namespace Go.Proofs.Ytopahifpbnaelaa
open Go.RowKit
attribute [local go_sem ↓] Go.wp_at_zero Go.wp_at_succ

/-- What both Nexts agree on. -/
def NxEq (num : Int) (ns os : List Int) (k g s E n : Int) (G' O' : List Nat) : Prop :=
  (E = 0 → ∃ (gs o : List Nat) (K G S : Nat), ns = zi gs ∧ os = zi o ∧ k = K ∧ g = G ∧ s = S ∧ gs ∈ subs0 ∧ o ∈ owners0 gs ∧ okK K G S gs ∧ 0 ≤ num ∧ num < 1099511627776 ∧ n = num + 1 ∧ G' = nG K G gs ∧ O' = nO K G S gs o ∧ G' ∈ subs0 ∧ O' ∈ owners0 G') ∧ (E ≠ 0 → n = 0 ∧ G' = [] ∧ O' = [0, 0, 0, 0])
theorem NxEq.same {num : Int} {ns os : List Int} {k g s E n m : Int} {G' O' G2 O2 : List Nat} (h1 : NxEq num ns os k g s E n G' O') (h2 : NxEq num ns os k g s E m G2 O2) : n = m ∧ G' = G2 ∧ O' = O2 ∧ G'.length ≤ 4 := by
  by_cases hE : E = 0
  · obtain ⟨gs, o, K, G, S, e1, e2, e3, e4, e5, hg, _, _, _, _, e6, e7, e8, m1, _⟩ := h1.1 hE
    obtain ⟨gs2, o2, K2, G3, S2, f1, f2, f3, f4, f5, _, _, _, _, _, f6, f7, f8, _⟩ := h2.1 hE
    have a1 : gs = gs2 := zi_inj _ _ (e1.symm.trans f1)
    have a2 : o = o2 := zi_inj _ _ (e2.symm.trans f2)
    have a3 : K = K2 := by omega
    have a4 : G = G3 := by omega
    have a5 : S = S2 := by omega
    subst a1 a2 a3 a4 a5
    exact ⟨e6.trans f6.symm, e7.trans f7.symm, e8.trans f8.symm, (conf_of m1).1⟩
  · obtain ⟨e1, e2, e3⟩ := h1.2 hE
    obtain ⟨f1, f2, f3⟩ := h2.2 hE
    exact ⟨e1.trans f1.symm, e2.trans f2.symm, e3.trans f3.symm, by rw [e2]; simp⟩
set_option maxRecDepth 20000 in
set_option maxHeartbeats 4000000 in
theorem next_any (num : Int) (gv : Value) (ns : List Int) (a b c d : Int) (k g s : Int) (w : World) (hu : Il w gv ns) :
    Calls Try.prog 3 #[.agg (cf num gv a b c d), .agg #[.int .i64 k, .int .i64 g, .int .i64 s]] w fun e W' => e = .returned (.bool true) ∧ Below w.heap.size w W' := by
  have hT := fun W => three_any W
  obtain ⟨W0, hW0⟩ : ∃ W, (w.alloc (.cells (cf num gv a b c d) 25)).alloc (.cells #[.int .i64 k, .int .i64 g, .int .i64 s] 27) = W := ⟨_, rfl⟩
  have hb0 : Below w.heap.size w W0 := by
    rw [← hW0]
    exact ((Below.refl _ w).alloc (Nat.le_refl _) _).alloc (by simp) _
  have hsz : W0.heap.size = w.heap.size + 2 := by rw [← hW0]; simp
  have r0 : W0.heap[w.heap.size]? = some (.cells (cf num gv a b c d) 25) := by
    rw [← hW0]
    exact (Below.heap_alloc _ _ _ (by simp)).trans (heap_alloc_new _ _)
  have r1 : W0.heap[w.heap.size + 1]? = some (.cells #[.int .i64 k, .int .i64 g, .int .i64 s] 27) := by
    rw [← hW0]
    have := heap_alloc_new (w.alloc (.cells (cf num gv a b c d) 25)) (.cells #[.int .i64 k, .int .i64 g, .int .i64 s] 27)
    rwa [show (w.alloc (.cells (cf num gv a b c d) 25)).heap.size = w.heap.size + 1 by simp] at this
  have HV : Hid ((w.alloc (.cells (cf num gv a b c d) 25)).alloc (.cells #[.int .i64 k, .int .i64 g, .int .i64 s] 27) = W0) := hW0
  have x1 := cellB r0 1 _ rfl
  have c0 := cellB r1 0 _ rfl
  have c1 := cellB r1 1 _ rfl
  have c2 := cellB r1 2 _ rfl
  have K0 : Hid (W0.rangeAt w.heap.size 0 (cfL num gv a b c d)) := blk_range (L := cfL num gv a b c d) r0
  have HX : Hid (Below w.heap.size w W0 ∧ W0.heap.size = w.heap.size + 2 ∧ W0.heap[w.heap.size]? = some (.cells (cf num gv a b c d) 25) ∧ W0.heap[w.heap.size + 1]? = some (.cells #[.int .i64 k, .int .i64 g, .int .i64 s] 27)) := ⟨hb0, hsz, r0, r1⟩
  have HU : Hid (Il W0 gv ns) := hu.next hb0
  obtain ⟨pa, pc, rfl⟩ := hu.slice
  clear hW0 r0 r1 hu hsz
  by_cases hbig : 100 < ns.length
  · have hq : (100 : Int) < (ns.length : Int) := by omega
    go_enter Try.func3, Try.ntmps3
    go_upto_region 1 with fail
    rw [HV.out]
    clear HV
    go_wp2_with (first
      | (go_at_call 8; refine (hT _).mono ?_; rintro e w5 ⟨rfl, hb5⟩; have hB5 := hb0.trans (hb5.mono hb0.size)))
    go_ret
    exact ⟨rfl, hB5⟩
  have hq : ¬ (100 : Int) < (ns.length : Int) := by omega
  have hN := Next_all num (.slice pa ns.length pc) ns a b c d k g s W0 HU.out (by omega)
  obtain ⟨E, hE⟩ : ∃ E, nxE num ns [a, b, c, d] k g s = E := ⟨_, rfl⟩
  rw [hE] at hN
  have hEE : Hid (nxE num ns [a, b, c, d] k g s = E) := hE
  have hbig' : ns.length ≤ 1000 := by omega
  clear hE hbig
  go_enter Try.func3, Try.ntmps3
  go_upto_region 1 with fail
  rw [HV.out]
  clear HV
  go_upto_region 4 with (first
    | (refine wpList_load_mid rfl 25 _ rfl w.heap.size 0 rfl (cfL num (.slice pa ns.length pc) a b c d) _ K0.out Try.underlying25 rfl Try.size25 ?_)
    | (go_at_call 9; refine hN.mono ?_; rintro e w1 ⟨x, rfl, v, n, G', O', p, q, r, t, rfl, j1, j2, j3, j4, j5, j6, j7, j8⟩; have hj1 := j1; obtain ⟨ua, uc, rfl⟩ := j1.slice; rw [zi_len] at hj1 ⊢; have HJ : Hid (Il w1 (.slice ua G'.length uc) (zi G') ∧ _ ∧ _ ∧ _ ∧ _ ∧ _) := ⟨hj1, j2, j3, j6, j7, j8⟩; clear hj1 j1 j2 j3 j4 j5 j6 j7 j8))
  obtain ⟨j1, j2, j3, j6, j7, j8⟩ := HJ.out
  obtain ⟨_, hsz, r0, r1⟩ := HX.out
  have hbA := j6.alloc j6.size (.cells (cf n (.slice ua G'.length uc) p q r t) 25)
  have s0 := (hbA.block _ (by omega)).trans r0
  have s1 := (hbA.block _ (by omega)).trans r1
  have s2 := heap_alloc_new w1 (.cells (cf n (.slice ua G'.length uc) p q r t) 25)
  have hilA := j1.next ((Below.refl _ w1).alloc (Nat.le_refl _) (.cells (cf n (.slice ua G'.length uc) p q r t) 25))
  have hbw := hb0.trans (hbA.mono hb0.size)
  obtain ⟨W1, hW1⟩ : ∃ W, w1.alloc (.cells (cf n (.slice ua G'.length uc) p q r t) 25) = W := ⟨_, rfl⟩
  have hlt : w1.heap.size < W1.heap.size := by rw [← hW1]; simp
  have hwl : w.heap.size + 1 < W1.heap.size := by have := hbA.size; rw [hW1] at this; omega
  rw [hW1] at s0 s1 s2 hilA hbw ⊢
  obtain ⟨X, hX⟩ : ∃ X, w1.heap.size = X := ⟨_, rfl⟩
  rw [hX] at s2 hlt ⊢
  have y0 := cellB s1 0 _ rfl
  have hbA1 : Below W0.heap.size W0 W1 := by rw [← hW1]; exact hbA
  have HRf : Hid (∀ W, Calls Try.prog 11 #[.agg (cf num (.slice pa ns.length pc) a b c d)] W fun e W' => e = .returned (.agg (cf num (.slice pa ns.length pc) a b c d)) ∧ Below W.heap.size W W') := fun W => ref_any num (.slice pa ns.length pc) ⟨_, _, _, rfl⟩ a b c d W
  have HNx : Hid (∀ W, Below W1.heap.size W1 W → Calls Try.prog 10 #[.agg (cf num (.slice pa ns.length pc) a b c d), .agg #[.int .i64 k, .int .i64 g, .int .i64 s]] W fun e W' => ∃ x, e = .returned (.tuple #[x, .int .i64 E]) ∧ NxAll num ns [a, b, c, d] k g s E W x W') := fun W hW => by
    have := rNext_all num (.slice pa ns.length pc) ns a b c d k g s W ((HU.out.next hbA1).next hW) hbig'
    rw [hEE.out] at this
    exact this
  have HSB : Hid (∀ W, Below W1.heap.size W1 W → (W).heap[w.heap.size]? = some (.cells (cf num (.slice pa ns.length pc) a b c d) 25) ∧ (W).heap[w.heap.size + 1]? = some (.cells #[.int .i64 k, .int .i64 g, .int .i64 s] 27)) := fun W hW => ⟨(hW.block _ (by omega)).trans s0, (hW.block _ hwl).trans s1⟩
  have HP : Hid (Il W1 (.slice ua G'.length uc) (zi G') ∧ O' = [p, q, r, t] ∧ W1.heap[X]? = some (.cells (cf n (.slice ua G'.length uc) p q r t) 25) ∧ X < W1.heap.size ∧ Below w.heap.size w W1 ∧ NxEq num ns [a, b, c, d] k g s E n G' O') := ⟨hilA, j2, s2, hlt, hbw, j7, j8⟩
  clear hN hX hW1 hbA r0 r1 hsz j1 j2 j3 j6 j7 j8 HJ x1 c0 c1 c2 K0 HX HU s0 s1 s2 hilA hlt hwl hbw hbA1 y0
  go_cut [7, 8] (fun p7 p8 wx => ∃ (X2 : Nat) (v2 : Value) (n2 : Int) (G2 O2 : List Nat) (p2 q2 r2 t2 : Nat), p7 = .pointer (some ⟨X2, 0, none⟩) ∧ p8 = .int .i64 E ∧ Hid (Il wx v2 (zi G2) ∧ O2 = [p2, q2, r2, t2] ∧ wx.heap[X2]? = some (.cells (cf n2 v2 p2 q2 r2 t2) 32) ∧ Below W1.heap.size W1 wx ∧ NxEq num ns [a, b, c, d] k g s E n2 G2 O2))
  case first =>
    refine region_Z 99 (fun w' => (w').heap[w.heap.size]? = some (.cells (cf num (.slice pa ns.length pc) a b c d) 25) ∧ (w').heap[w.heap.size + 1]? = some (.cells #[.int .i64 k, .int .i64 g, .int .i64 s] 27)) (by kernel_rfl) ?_
    have hS0 := HSB.out W1.drew (below_drew (Below.refl _ _))
    refine Y_take (i := 0) (v := ?_) rfl (by kernel_rfl) (by kernel_rfl) (by kernel_rfl) (by kernel_rfl) (fun _ _ _ h => h) (by rfl) hS0 ?_ ?_
    rotate_left
    · (intro w' hSw; have e0 := cellB hSw.1 0 _ rfl; have e1 := cellB hSw.1 1 _ rfl; have e2 := cellB hSw.1 2 _ rfl; have e3 := cellB hSw.1 3 _ rfl; have e4 := cellB hSw.1 4 _ rfl; have e5 := cellB hSw.1 5 _ rfl; have f0 := cellB hSw.2 0 _ rfl; have f1 := cellB hSw.2 1 _ rfl; have f2 := cellB hSw.2 2 _ rfl; go_simp; (try with_reducible rfl))
    simp only [Act.put, List.setIfInBounds_toArray]
    refine Y_take (i := 2) (v := ?_) rfl (by kernel_rfl) (by kernel_rfl) (by kernel_rfl) (by kernel_rfl) (fun _ _ _ h => h) (by rfl) hS0 ?_ ?_
    rotate_left
    · (intro w' hSw; have e0 := cellB hSw.1 0 _ rfl; have e1 := cellB hSw.1 1 _ rfl; have e2 := cellB hSw.1 2 _ rfl; have e3 := cellB hSw.1 3 _ rfl; have e4 := cellB hSw.1 4 _ rfl; have e5 := cellB hSw.1 5 _ rfl; have f0 := cellB hSw.2 0 _ rfl; have f1 := cellB hSw.2 1 _ rfl; have f2 := cellB hSw.2 2 _ rfl; go_simp; (try with_reducible rfl))
    simp only [Act.put]
    refine Y_take (i := 3) (v := ?_) rfl (by kernel_rfl) (by kernel_rfl) (by kernel_rfl) (by kernel_rfl) (fun _ _ _ h => h) (by rfl) hS0 ?_ ?_
    rotate_left
    · (intro w' hSw; have e0 := cellB hSw.1 0 _ rfl; have e1 := cellB hSw.1 1 _ rfl; have e2 := cellB hSw.1 2 _ rfl; have e3 := cellB hSw.1 3 _ rfl; have e4 := cellB hSw.1 4 _ rfl; have e5 := cellB hSw.1 5 _ rfl; have f0 := cellB hSw.2 0 _ rfl; have f1 := cellB hSw.2 1 _ rfl; have f2 := cellB hSw.2 2 _ rfl; go_simp; (try with_reducible rfl))
    simp only [Act.put]
    refine Y_take (i := 4) (v := ?_) rfl (by kernel_rfl) (by kernel_rfl) (by kernel_rfl) (by kernel_rfl) (fun _ _ _ h => h) (by rfl) hS0 ?_ ?_
    rotate_left
    · (intro w' hSw; have e0 := cellB hSw.1 0 _ rfl; have e1 := cellB hSw.1 1 _ rfl; have e2 := cellB hSw.1 2 _ rfl; have e3 := cellB hSw.1 3 _ rfl; have e4 := cellB hSw.1 4 _ rfl; have e5 := cellB hSw.1 5 _ rfl; have f0 := cellB hSw.2 0 _ rfl; have f1 := cellB hSw.2 1 _ rfl; have f2 := cellB hSw.2 2 _ rfl; go_simp; (try with_reducible rfl))
    simp only [Act.put]
    refine Y_take (i := 5) (v := ?_) rfl (by kernel_rfl) (by kernel_rfl) (by kernel_rfl) (by kernel_rfl) (fun _ _ _ h => h) (by rfl) hS0 ?_ ?_
    rotate_left
    · (intro w' hSw; have e0 := cellB hSw.1 0 _ rfl; have e1 := cellB hSw.1 1 _ rfl; have e2 := cellB hSw.1 2 _ rfl; have e3 := cellB hSw.1 3 _ rfl; have e4 := cellB hSw.1 4 _ rfl; have e5 := cellB hSw.1 5 _ rfl; have f0 := cellB hSw.2 0 _ rfl; have f1 := cellB hSw.2 1 _ rfl; have f2 := cellB hSw.2 2 _ rfl; go_simp; (try with_reducible rfl))
    simp only [Act.put]
    refine Y_take (i := 6) (v := ?_) rfl (by kernel_rfl) (by kernel_rfl) (by kernel_rfl) (by kernel_rfl) (fun _ _ _ h => h) (by rfl) hS0 ?_ ?_
    rotate_left
    · (intro w' hSw; have e0 := cellB hSw.1 0 _ rfl; have e1 := cellB hSw.1 1 _ rfl; have e2 := cellB hSw.1 2 _ rfl; have e3 := cellB hSw.1 3 _ rfl; have e4 := cellB hSw.1 4 _ rfl; have e5 := cellB hSw.1 5 _ rfl; have f0 := cellB hSw.2 0 _ rfl; have f1 := cellB hSw.2 1 _ rfl; have f2 := cellB hSw.2 2 _ rfl; go_simp; (try with_reducible rfl))
    simp only [Act.put]
    refine Y_take (i := 7) (v := ?_) rfl (by kernel_rfl) (by kernel_rfl) (by kernel_rfl) (by kernel_rfl) (fun _ _ _ h => h) (by rfl) hS0 ?_ ?_
    rotate_left
    · (intro w' hSw; have e0 := cellB hSw.1 0 _ rfl; have e1 := cellB hSw.1 1 _ rfl; have e2 := cellB hSw.1 2 _ rfl; have e3 := cellB hSw.1 3 _ rfl; have e4 := cellB hSw.1 4 _ rfl; have e5 := cellB hSw.1 5 _ rfl; have f0 := cellB hSw.2 0 _ rfl; have f1 := cellB hSw.2 1 _ rfl; have f2 := cellB hSw.2 2 _ rfl; go_simp; (try with_reducible rfl))
    simp only [Act.put]
    refine Y_take (i := 8) (v := ?_) rfl (by kernel_rfl) (by kernel_rfl) (by kernel_rfl) (by kernel_rfl) (fun _ _ _ h => h) (by rfl) hS0 ?_ ?_
    rotate_left
    · (intro w' hSw; have e0 := cellB hSw.1 0 _ rfl; have e1 := cellB hSw.1 1 _ rfl; have e2 := cellB hSw.1 2 _ rfl; have e3 := cellB hSw.1 3 _ rfl; have e4 := cellB hSw.1 4 _ rfl; have e5 := cellB hSw.1 5 _ rfl; have f0 := cellB hSw.2 0 _ rfl; have f1 := cellB hSw.2 1 _ rfl; have f2 := cellB hSw.2 2 _ rfl; go_simp; (try with_reducible rfl))
    simp only [Act.put]
    refine Z_two (i := 1) (j := 13) (by kernel_rfl) rfl rfl (fun K hK => ?_) (fun K hK => ?_)
    · go_simp
      have hbD : Below W1.heap.size W1 W1.drew := below_drew (Below.refl _ _)
      refine (HRf.out _).mono ?_
      rintro e w1 ⟨rfl, hbw⟩
      have hb1 := (hbD).trans (hbw.mono (hbD).size)
      have hS1 := HSB.out _ (hb1)
      refine hK _ _ (fun _ => hS1) ?_
      clear hK K
      refine Z_two (i := 9) (j := 13) (by kernel_rfl) rfl rfl (fun K hK => ?_) (fun K hK => ?_)
      · go_simp
        refine (HNx.out _ (hb1)).mono ?_
        rintro e w2 ⟨x, rfl, v, n, G', O', p, q, r, t, rfl, j1, j2, j3, j4, j4', j5, j6, j7⟩
        have hb2 := (hb1).trans (j5.mono (hb1).size)
        have hS2 := HSB.out _ (hb2)
        obtain ⟨qa, qc, rfl⟩ := j1.slice
        refine hK _ _ (fun _ => hS2) ?_
        clear hK K
        refine Y_take (i := 10) (v := ?_) rfl (by kernel_rfl) (by kernel_rfl) (by kernel_rfl) (by kernel_rfl) (fun _ _ _ h => h) (by rfl) hS2 ?_ ?_
        rotate_left
        · (intro w' hSw; have e0 := cellB hSw.1 0 _ rfl; have e1 := cellB hSw.1 1 _ rfl; have e2 := cellB hSw.1 2 _ rfl; have e3 := cellB hSw.1 3 _ rfl; have e4 := cellB hSw.1 4 _ rfl; have e5 := cellB hSw.1 5 _ rfl; have f0 := cellB hSw.2 0 _ rfl; have f1 := cellB hSw.2 1 _ rfl; have f2 := cellB hSw.2 2 _ rfl; go_simp; (try with_reducible rfl))
        simp only [Act.put]
        refine Y_take (i := 11) (v := ?_) rfl (by kernel_rfl) (by kernel_rfl) (by kernel_rfl) (by kernel_rfl) (fun _ _ _ h => h) (by rfl) hS2 ?_ ?_
        rotate_left
        · (intro w' hSw; have e0 := cellB hSw.1 0 _ rfl; have e1 := cellB hSw.1 1 _ rfl; have e2 := cellB hSw.1 2 _ rfl; have e3 := cellB hSw.1 3 _ rfl; have e4 := cellB hSw.1 4 _ rfl; have e5 := cellB hSw.1 5 _ rfl; have f0 := cellB hSw.2 0 _ rfl; have f1 := cellB hSw.2 1 _ rfl; have f2 := cellB hSw.2 2 _ rfl; go_simp; (try with_reducible rfl))
        simp only [Act.put]
        refine Y_take (i := 12) (v := ?_) rfl (by kernel_rfl) (by kernel_rfl) (by kernel_rfl) (by kernel_rfl) (fun _ _ _ h => h) (by rfl) hS2 ?_ ?_
        rotate_left
        · (intro w' hSw; have e0 := cellB hSw.1 0 _ rfl; have e1 := cellB hSw.1 1 _ rfl; have e2 := cellB hSw.1 2 _ rfl; have e3 := cellB hSw.1 3 _ rfl; have e4 := cellB hSw.1 4 _ rfl; have e5 := cellB hSw.1 5 _ rfl; have f0 := cellB hSw.2 0 _ rfl; have f1 := cellB hSw.2 1 _ rfl; have f2 := cellB hSw.2 2 _ rfl; go_simp; (try with_reducible rfl))
        simp only [Act.put]
        refine Z_step (i := 13) (by kernel_rfl) rfl (fun K hK => ?_)
        go_simp
        have hb3 := hb2.alloc hb2.size (.cells (cf 0 (.slice none 0 0) 0 0 0 0) 32)
        have hS3 := HSB.out _ (hb3)
        refine hK _ _ (fun _ => hS3) ?_
        clear hK K
        have hzz : (w2.alloc (.cells (cf 0 (.slice none 0 0) 0 0 0 0) 32)).heap[w2.heap.size]? = some (.cells (cf 0 (.slice none 0 0) 0 0 0 0) 32) := heap_alloc_new w2 _
        refine Z_step (i := 14) (by kernel_rfl) rfl (fun K hK => ?_)
        refine step_store_mid (by rfl) 32 _ _ (by rfl) w2.heap.size 0 (cf n (.slice qa (zi G').length qc) p q r t) (by rfl) (by rfl) (blk_there hzz 0 6 (Nat.le_refl _)) Try.size32 (cf_ones _ _ _ _ _ _ _ _) ?_
        have hfr : ∀ j, (Value.slice qa (zi G').length qc).ownBlock = some j → j ≠ w2.heap.size := fun j hj => Nat.ne_of_lt (j4' j hj)
        have hX : W1.heap.size ≤ w2.heap.size := hb2.size
        have hz := blk_set hzz (L := cfL n (.slice qa (zi G').length qc) p q r t) rfl
        have hbW : Below W1.heap.size W1 (w2.alloc (.cells (cf 0 (.slice none 0 0) 0 0 0 0) 32)) := hb3
        have hbZ := blk_below hX (cfL n (.slice qa (zi G').length qc) p q r t) 0 _ hbW
        have hilZ : Il ((w2.alloc (.cells (cf 0 (.slice none 0 0) 0 0 0 0) 32)).setCells (w2.heap.size) 0 (cfL n (.slice qa (zi G').length qc) p q r t)) (.slice qa (zi G').length qc) (zi G') := Il_ne (j1.next ((Below.refl _ w2).alloc (Nat.le_refl _) _)) hfr
        have hSZ := HSB.out _ (hbZ)
        refine hK _ _ (fun _ => hSZ) ?_
        clear hK K
        simp only [Act.put]
        refine Z_step (i := 15) (by kernel_rfl) rfl (fun K hK => ?_)
        go_simp
        refine hK _ _ (fun _ => hSZ) (Z_done (by kernel_rfl) ?_ _)
        clear hK K
        obtain ⟨WZ, hWZ⟩ : ∃ W, (w2.alloc (.cells (cf 0 (.slice none 0 0) 0 0 0 0) 32)).setCells (w2.heap.size) 0 (cfL n (.slice qa (zi G').length qc) p q r t) = W := ⟨_, rfl⟩
        rw [hWZ] at hilZ hz hbZ ⊢
        have HF : Hid (Il WZ (.slice qa (zi G').length qc) (zi G') ∧ O' = [p, q, r, t] ∧ WZ.heap[w2.heap.size]? = some (.cells (cf n (.slice qa (zi G').length qc) p q r t) 32) ∧ Below W1.heap.size W1 WZ ∧ NxEq num ns [a, b, c, d] k g s E n G' O') := ⟨hilZ, j2, hz, hbZ, j6, j7⟩
        clear hilZ j1 j2 j3 j4 j4' j5 j6 j7 hfr hX hz hbZ hbW hzz hSZ hWZ
        go_wp2_with fail
        go_meet
        exact ⟨_, _, n, G', O', p, q, r, t, rfl, rfl, HF⟩
      · go_simp
        have hb1a := hb1.alloc hb1.size (.cells (cf 0 (.slice none 0 0) 0 0 0 0) 32)
        have hS1a := HSB.out _ (hb1a)
        refine hK _ _ (fun _ => hS1a) ?_
        clear hK K
        refine Z_step (i := 9) (by kernel_rfl) rfl (fun K hK => ?_)
        go_simp
        refine (HNx.out _ (hb1a)).mono ?_
        rintro e w2 ⟨x, rfl, v, n, G', O', p, q, r, t, rfl, j1, j2, j3, j4, j4', j5, j6, j7⟩
        have hb2 := (hb1a).trans (j5.mono (hb1a).size)
        have hS2 := HSB.out _ (hb2)
        obtain ⟨qa, qc, rfl⟩ := j1.slice
        refine hK _ _ (fun _ => hS2) ?_
        clear hK K
        refine Y_take (i := 10) (v := ?_) rfl (by kernel_rfl) (by kernel_rfl) (by kernel_rfl) (by kernel_rfl) (fun _ _ _ h => h) (by rfl) hS2 ?_ ?_
        rotate_left
        · (intro w' hSw; have e0 := cellB hSw.1 0 _ rfl; have e1 := cellB hSw.1 1 _ rfl; have e2 := cellB hSw.1 2 _ rfl; have e3 := cellB hSw.1 3 _ rfl; have e4 := cellB hSw.1 4 _ rfl; have e5 := cellB hSw.1 5 _ rfl; have f0 := cellB hSw.2 0 _ rfl; have f1 := cellB hSw.2 1 _ rfl; have f2 := cellB hSw.2 2 _ rfl; go_simp; (try with_reducible rfl))
        simp only [Act.put]
        refine Y_take (i := 11) (v := ?_) rfl (by kernel_rfl) (by kernel_rfl) (by kernel_rfl) (by kernel_rfl) (fun _ _ _ h => h) (by rfl) hS2 ?_ ?_
        rotate_left
        · (intro w' hSw; have e0 := cellB hSw.1 0 _ rfl; have e1 := cellB hSw.1 1 _ rfl; have e2 := cellB hSw.1 2 _ rfl; have e3 := cellB hSw.1 3 _ rfl; have e4 := cellB hSw.1 4 _ rfl; have e5 := cellB hSw.1 5 _ rfl; have f0 := cellB hSw.2 0 _ rfl; have f1 := cellB hSw.2 1 _ rfl; have f2 := cellB hSw.2 2 _ rfl; go_simp; (try with_reducible rfl))
        simp only [Act.put]
        refine Y_take (i := 12) (v := ?_) rfl (by kernel_rfl) (by kernel_rfl) (by kernel_rfl) (by kernel_rfl) (fun _ _ _ h => h) (by rfl) hS2 ?_ ?_
        rotate_left
        · (intro w' hSw; have e0 := cellB hSw.1 0 _ rfl; have e1 := cellB hSw.1 1 _ rfl; have e2 := cellB hSw.1 2 _ rfl; have e3 := cellB hSw.1 3 _ rfl; have e4 := cellB hSw.1 4 _ rfl; have e5 := cellB hSw.1 5 _ rfl; have f0 := cellB hSw.2 0 _ rfl; have f1 := cellB hSw.2 1 _ rfl; have f2 := cellB hSw.2 2 _ rfl; go_simp; (try with_reducible rfl))
        simp only [Act.put]
        have hzz : (w2).heap[w1.heap.size]? = some (.cells (cf 0 (.slice none 0 0) 0 0 0 0) 32) := (j5.block _ (by simp)).trans (heap_alloc_new w1 _)
        refine Z_step (i := 14) (by kernel_rfl) rfl (fun K hK => ?_)
        refine step_store_mid (by rfl) 32 _ _ (by rfl) w1.heap.size 0 (cf n (.slice qa (zi G').length qc) p q r t) (by rfl) (by rfl) (blk_there hzz 0 6 (Nat.le_refl _)) Try.size32 (cf_ones _ _ _ _ _ _ _ _) ?_
        have hfr : ∀ j, (Value.slice qa (zi G').length qc).ownBlock = some j → j ≠ w1.heap.size := fun j hj => lt_ne1 (j4 j hj)
        have hX : W1.heap.size ≤ w1.heap.size := hb1.size
        have hz := blk_set hzz (L := cfL n (.slice qa (zi G').length qc) p q r t) rfl
        have hbW : Below W1.heap.size W1 (w2) := hb2
        have hbZ := blk_below hX (cfL n (.slice qa (zi G').length qc) p q r t) 0 _ hbW
        have hilZ : Il ((w2).setCells (w1.heap.size) 0 (cfL n (.slice qa (zi G').length qc) p q r t)) (.slice qa (zi G').length qc) (zi G') := Il_ne (j1) hfr
        have hSZ := HSB.out _ (hbZ)
        refine hK _ _ (fun _ => hSZ) ?_
        clear hK K
        simp only [Act.put]
        refine Z_step (i := 15) (by kernel_rfl) rfl (fun K hK => ?_)
        go_simp
        refine hK _ _ (fun _ => hSZ) (Z_done (by kernel_rfl) ?_ _)
        clear hK K
        obtain ⟨WZ, hWZ⟩ : ∃ W, (w2).setCells (w1.heap.size) 0 (cfL n (.slice qa (zi G').length qc) p q r t) = W := ⟨_, rfl⟩
        rw [hWZ] at hilZ hz hbZ ⊢
        have HF : Hid (Il WZ (.slice qa (zi G').length qc) (zi G') ∧ O' = [p, q, r, t] ∧ WZ.heap[w1.heap.size]? = some (.cells (cf n (.slice qa (zi G').length qc) p q r t) 32) ∧ Below W1.heap.size W1 WZ ∧ NxEq num ns [a, b, c, d] k g s E n G' O') := ⟨hilZ, j2, hz, hbZ, j6, j7⟩
        clear hilZ j1 j2 j3 j4 j4' j5 j6 j7 hfr hX hz hbZ hbW hzz hSZ hWZ
        go_wp2_with fail
        go_meet
        exact ⟨_, _, n, G', O', p, q, r, t, rfl, rfl, HF⟩
    · go_simp
      have hba : Below W1.heap.size W1 (W1.alloc (.cells (cf 0 (.slice none 0 0) 0 0 0 0) 32)).drew := below_drew ((Below.refl _ _).alloc (Nat.le_refl _) _)
      have hSa := HSB.out _ (hba)
      refine hK _ _ (fun _ => hSa) ?_
      clear hK K
      refine Z_step (i := 1) (by kernel_rfl) rfl (fun K hK => ?_)
      go_simp
      refine (HRf.out _).mono ?_
      rintro e w1 ⟨rfl, hbw⟩
      have hb1 := (hba).trans (hbw.mono (hba).size)
      have hS1 := HSB.out _ (hb1)
      refine hK _ _ (fun _ => hS1) ?_
      clear hK K
      refine Z_step (i := 9) (by kernel_rfl) rfl (fun K hK => ?_)
      go_simp
      refine (HNx.out _ (hb1)).mono ?_
      rintro e w2 ⟨x, rfl, v, n, G', O', p, q, r, t, rfl, j1, j2, j3, j4, j4', j5, j6, j7⟩
      have hb2 := (hb1).trans (j5.mono (hb1).size)
      have hS2 := HSB.out _ (hb2)
      obtain ⟨qa, qc, rfl⟩ := j1.slice
      refine hK _ _ (fun _ => hS2) ?_
      clear hK K
      refine Y_take (i := 10) (v := ?_) rfl (by kernel_rfl) (by kernel_rfl) (by kernel_rfl) (by kernel_rfl) (fun _ _ _ h => h) (by rfl) hS2 ?_ ?_
      rotate_left
      · (intro w' hSw; have e0 := cellB hSw.1 0 _ rfl; have e1 := cellB hSw.1 1 _ rfl; have e2 := cellB hSw.1 2 _ rfl; have e3 := cellB hSw.1 3 _ rfl; have e4 := cellB hSw.1 4 _ rfl; have e5 := cellB hSw.1 5 _ rfl; have f0 := cellB hSw.2 0 _ rfl; have f1 := cellB hSw.2 1 _ rfl; have f2 := cellB hSw.2 2 _ rfl; go_simp; (try with_reducible rfl))
      simp only [Act.put]
      refine Y_take (i := 11) (v := ?_) rfl (by kernel_rfl) (by kernel_rfl) (by kernel_rfl) (by kernel_rfl) (fun _ _ _ h => h) (by rfl) hS2 ?_ ?_
      rotate_left
      · (intro w' hSw; have e0 := cellB hSw.1 0 _ rfl; have e1 := cellB hSw.1 1 _ rfl; have e2 := cellB hSw.1 2 _ rfl; have e3 := cellB hSw.1 3 _ rfl; have e4 := cellB hSw.1 4 _ rfl; have e5 := cellB hSw.1 5 _ rfl; have f0 := cellB hSw.2 0 _ rfl; have f1 := cellB hSw.2 1 _ rfl; have f2 := cellB hSw.2 2 _ rfl; go_simp; (try with_reducible rfl))
      simp only [Act.put]
      refine Y_take (i := 12) (v := ?_) rfl (by kernel_rfl) (by kernel_rfl) (by kernel_rfl) (by kernel_rfl) (fun _ _ _ h => h) (by rfl) hS2 ?_ ?_
      rotate_left
      · (intro w' hSw; have e0 := cellB hSw.1 0 _ rfl; have e1 := cellB hSw.1 1 _ rfl; have e2 := cellB hSw.1 2 _ rfl; have e3 := cellB hSw.1 3 _ rfl; have e4 := cellB hSw.1 4 _ rfl; have e5 := cellB hSw.1 5 _ rfl; have f0 := cellB hSw.2 0 _ rfl; have f1 := cellB hSw.2 1 _ rfl; have f2 := cellB hSw.2 2 _ rfl; go_simp; (try with_reducible rfl))
      simp only [Act.put]
      have hzz : (w2).heap[W1.heap.size]? = some (.cells (cf 0 (.slice none 0 0) 0 0 0 0) 32) := (j5.block _ (Nat.lt_of_lt_of_le (by simp) hbw.size)).trans ((hbw.block _ (by simp)).trans (heap_alloc_new W1 _))
      refine Z_step (i := 14) (by kernel_rfl) rfl (fun K hK => ?_)
      refine step_store_mid (by rfl) 32 _ _ (by rfl) W1.heap.size 0 (cf n (.slice qa (zi G').length qc) p q r t) (by rfl) (by rfl) (blk_there hzz 0 6 (Nat.le_refl _)) Try.size32 (cf_ones _ _ _ _ _ _ _ _) ?_
      have hfr : ∀ j, (Value.slice qa (zi G').length qc).ownBlock = some j → j ≠ W1.heap.size := fun j hj => lt_ne2 (j4 j hj) hbw.size
      have hX : W1.heap.size ≤ W1.heap.size := Nat.le_refl _
      have hz := blk_set hzz (L := cfL n (.slice qa (zi G').length qc) p q r t) rfl
      have hbW : Below W1.heap.size W1 (w2) := hb2
      have hbZ := blk_below hX (cfL n (.slice qa (zi G').length qc) p q r t) 0 _ hbW
      have hilZ : Il ((w2).setCells (W1.heap.size) 0 (cfL n (.slice qa (zi G').length qc) p q r t)) (.slice qa (zi G').length qc) (zi G') := Il_ne (j1) hfr
      have hSZ := HSB.out _ (hbZ)
      refine hK _ _ (fun _ => hSZ) ?_
      clear hK K
      simp only [Act.put]
      refine Z_step (i := 15) (by kernel_rfl) rfl (fun K hK => ?_)
      go_simp
      refine hK _ _ (fun _ => hSZ) (Z_done (by kernel_rfl) ?_ _)
      clear hK K
      obtain ⟨WZ, hWZ⟩ : ∃ W, (w2).setCells (W1.heap.size) 0 (cfL n (.slice qa (zi G').length qc) p q r t) = W := ⟨_, rfl⟩
      rw [hWZ] at hilZ hz hbZ ⊢
      have HF : Hid (Il WZ (.slice qa (zi G').length qc) (zi G') ∧ O' = [p, q, r, t] ∧ WZ.heap[W1.heap.size]? = some (.cells (cf n (.slice qa (zi G').length qc) p q r t) 32) ∧ Below W1.heap.size W1 WZ ∧ NxEq num ns [a, b, c, d] k g s E n G' O') := ⟨hilZ, j2, hz, hbZ, j6, j7⟩
      clear hilZ j1 j2 j3 j4 j4' j5 j6 j7 hfr hX hz hbZ hbW hzz hSZ hWZ
      go_wp2_with fail
      go_meet
      exact ⟨_, _, n, G', O', p, q, r, t, rfl, rfl, HF⟩
  case rest =>
    obtain ⟨X2, v2, n2, G2, O2, p2, q2, r2, t2, rfl, rfl, HQ⟩ := hcut
    obtain ⟨i1, i2, i3, i4, i5⟩ := HQ.out
    obtain ⟨j1, j2, j3, j4, j5, j6⟩ := HP.out
    obtain ⟨e1, e2, e3, e4⟩ := j6.same i5
    subst e1 e2 e3
    rw [j2] at i2
    obtain ⟨e5, e6, e7, e8⟩ := four_eq i2
    subst e5 e6 e7 e8
    have r0 := (i4.block _ j4).trans j3
    have hil := j1.next i4
    have hSm := same_any n (zi G') (.slice ua G'.length uc) v2 p q r t wc hil i1 (by rw [zi_len]; omega)
    obtain ⟨qa, qc, hq2⟩ := i1.slice
    subst hq2
    have K1 : Hid (wc.rangeAt X 0 (cfL n (.slice ua G'.length uc) p q r t)) := blk_range (L := cfL n (.slice ua G'.length uc) p q r t) r0
    have K2 : Hid (wc.rangeAt X2 0 (cfL n (.slice qa (zi G').length qc) p q r t)) := blk_range (L := cfL n (.slice qa (zi G').length qc) p q r t) i3
    have hBw := j5.trans (i4.mono j5.size)
    clear i1 i3 i4 i5 j1 j2 j3 j4 j5 j6 i2 e4 r0 hil HQ HP HSB HNx HRf
    go_wp2_with (first
      | (refine wpList_load_mid rfl 25 _ rfl X 0 rfl (cfL n (.slice ua G'.length uc) p q r t) _ K1.out Try.underlying25 rfl Try.size25 ?_)
      | (refine wpList_load_mid rfl 32 _ rfl X2 0 rfl (cfL n (.slice qa (zi G').length qc) p q r t) _ K2.out Try.underlying32 rfl Try.size32 ?_)
      | (go_at_call 12; refine hSm.mono ?_; rintro e w4 ⟨rfl, hb4⟩; have hB4 := hBw.trans (hb4.mono hBw.size))
      | (go_at_call 8; refine (hT _).mono ?_; rintro e w5 ⟨rfl, hb5⟩; have hB5 := hB4.trans (hb5.mono hB4.size)))
    go_ret
    exact ⟨rfl, hB5⟩
end Go.Proofs.Ytopahifpbnaelaa
