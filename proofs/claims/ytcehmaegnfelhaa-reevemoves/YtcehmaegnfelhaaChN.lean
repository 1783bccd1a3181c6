/- Chains: done of a Join, walked. -/
import Derived.Test.YtcehmaegnfelhaaChM
namespace Go.Proofs.Ytcehmaegnfelhaa
open Go.RowKit
attribute [local go_sem ↓] Go.wp_at_zero Go.wp_at_succ

set_option maxRecDepth 20000 in
set_option maxHeartbeats 8000000 in
theorem done_join (num : Int) (hn0 : 0 ≤ num) (hn1 : num < 1099511627776) (gv : Value) (gs : List Nat) (a b c d g s : Nat) (w : World) (hu : Il w gv (zi gs)) (hg : gs ∈ subs0) (how : [a, b, c, d] ∈ owners0 gs) (h1 : 1 ≤ g) (h4 : g ≤ 4) (hcn : gs.contains g = false) :
    Calls Try.prog 33 #[.agg (cf num gv a b c d), .agg #[.int .i64 1, .int .i64 g, .int .i64 s]] w fun e W' => ∃ (v : Value) (p q r t : Nat), e = .returned (.agg (cf (num + 1) v p q r t)) ∧ Il W' v (zi (nG 1 g gs)) ∧ [p, q, r, t] = nO 1 g s gs [a, b, c, d] ∧ Fr w.heap.size v ∧ Below w.heap.size w W' := by
  obtain ⟨hins, hev, _⟩ := join_of hg how h1 h4 hcn
  have HINS : Hid (insTo (zi gs ++ [(g : Int)]) (gs.length + 1) = zi (nG 1 g gs)) := hins
  have HGS0 : Hid (Ev (nG 1 g gs) [a, b, c, d]) := hev
  clear hins hev how hcn
  have n4 := (conf_of hg).1
  obtain ⟨W0, hW0⟩ : ∃ W, ((w.alloc (.cells (cf num gv a b c d) 50)).alloc (.cells #[.int .i64 1, .int .i64 g, .int .i64 s] 42)).alloc (.cells (cf 0 (.slice none 0 0) 0 0 0 0) 50) = W := ⟨_, rfl⟩
  have hb0 : Below w.heap.size w W0 := by
    rw [← hW0]
    exact (((Below.refl _ w).alloc (Nat.le_refl _) _).alloc (by simp) _).alloc (by simp; omega) _
  have hsz : W0.heap.size = w.heap.size + 3 := by rw [← hW0]; simp
  have r0 : W0.heap[w.heap.size]? = some (.cells (cf num gv a b c d) 50) := by
    rw [← hW0]
    exact ((Below.heap_alloc _ _ _ (by simp; omega)).trans (Below.heap_alloc _ _ _ (by simp))).trans (heap_alloc_new _ _)
  have r1 : W0.heap[w.heap.size + 1]? = some (.cells #[.int .i64 1, .int .i64 g, .int .i64 s] 42) := by
    rw [← hW0]
    refine (Below.heap_alloc _ _ _ (by simp)).trans ?_
    have := heap_alloc_new (w.alloc (.cells (cf num gv a b c d) 50)) (.cells #[.int .i64 1, .int .i64 g, .int .i64 s] 42)
    rwa [show (w.alloc (.cells (cf num gv a b c d) 50)).heap.size = w.heap.size + 1 by simp] at this
  have r2 : W0.heap[w.heap.size + 2]? = some (.cells (cf 0 (.slice none 0 0) 0 0 0 0) 50) := by
    rw [← hW0]
    have := heap_alloc_new ((w.alloc (.cells (cf num gv a b c d) 50)).alloc (.cells #[.int .i64 1, .int .i64 g, .int .i64 s] 42)) (.cells (cf 0 (.slice none 0 0) 0 0 0 0) 50)
    rwa [show ((w.alloc (.cells (cf num gv a b c d) 50)).alloc (.cells #[.int .i64 1, .int .i64 g, .int .i64 s] 42)).heap.size = w.heap.size + 2 by simp] at this
  have hC := clone_any num gv (zi gs) a b c d W0 (hu.next hb0) (by rw [zi_len]; omega)
  rw [zi_len] at hC
  have K0 : Hid (W0.rangeAt w.heap.size 0 (cfL num gv a b c d)) := blk_range (L := cfL num gv a b c d) r0
  have HV : Hid (((w.alloc (.cells (cf num gv a b c d) 50)).alloc (.cells #[.int .i64 1, .int .i64 g, .int .i64 s] 42)).alloc (.cells (cf 0 (.slice none 0 0) 0 0 0 0) 50) = W0) := hW0
  have HX : Hid (Below w.heap.size w W0 ∧ W0.heap.size = w.heap.size + 3 ∧ W0.heap[w.heap.size + 1]? = some (.cells #[.int .i64 1, .int .i64 g, .int .i64 s] 42) ∧ W0.heap[w.heap.size + 2]? = some (.cells (cf 0 (.slice none 0 0) 0 0 0 0) 50)) := ⟨hb0, hsz, r1, r2⟩
  obtain ⟨pa, pc, hpv⟩ := hu.slice
  rw [zi_len] at hpv
  subst hpv
  clear hW0 hb0 hsz r0 r1 r2 hu
  go_enter Try.func33, Try.ntmps33
  go_upto_region 1 with fail
  rw [HV.out]
  clear HV
  go_upto_region 2 with (first
    | (refine wpList_load_mid rfl 50 _ rfl w.heap.size 0 rfl (cfL num (.slice pa gs.length pc) a b c d) _ K0.out Try.underlying50 rfl Try.size50 ?_)
    | (go_at_call 41; refine hC.mono ?_; rintro e w1 ⟨v, rfl, ho, hb1⟩; obtain ⟨va, vc, rfl⟩ := owns_slice ho)
    | (refine wpList_store_mid rfl 50 _ _ rfl w1.heap.size 0 (cf num (.slice va gs.length vc) a b c d) rfl rfl (blk_there (heap_alloc_new w1 _) 0 6 (Nat.le_refl _)) Try.size50 (cf_ones _ _ _ _ _ _ _ _) ?_))
  clear hC K0
  obtain ⟨hb0, hsz, r1, r2⟩ := HX.out
  clear HX
  have hlo : W0.heap.size ≤ w1.heap.size := hb1.size
  have s5 := setB (blk_set (heap_alloc_new w1 (.cells (cf 0 (.slice none 0 0) 0 0 0 0) 50)) (L := cfL num (.slice va gs.length vc) a b c d) rfl) 0 (.int .i64 (num + 1))
  have sfar : ∀ k, k < w1.heap.size → (((w1.alloc (.cells (cf 0 (.slice none 0 0) 0 0 0 0) 50)).setCells w1.heap.size 0 (cfL num (.slice va gs.length vc) a b c d)).setCell ⟨w1.heap.size, 0, none⟩ (.int .i64 (num + 1))).heap[k]? = w1.heap[k]? := fun k hk => (set_far (by omega) _ _).trans ((blk_far (by omega) _ _ _).trans (Below.heap_alloc _ _ _ hk))
  have hb3 : Below w.heap.size w (((w1.alloc (.cells (cf 0 (.slice none 0 0) 0 0 0 0) 50)).setCells w1.heap.size 0 (cfL num (.slice va gs.length vc) a b c d)).setCell ⟨w1.heap.size, 0, none⟩ (.int .i64 (num + 1))) := (blk_below (by omega) _ _ _ ((hb0.trans (hb1.mono hb0.size)).alloc (by omega) _)).setCell (p := ⟨w1.heap.size, 0, none⟩) (by show w.heap.size ≤ w1.heap.size; omega) _
  have t5 := blk_set (heap_alloc_new w1 (.cells (cf 0 (.slice none 0 0) 0 0 0 0) 50)) (L := cfL num (.slice va gs.length vc) a b c d) rfl
  obtain ⟨W2, hW2⟩ : ∃ W, (w1.alloc (.cells (cf 0 (.slice none 0 0) 0 0 0 0) 50)).setCells w1.heap.size 0 (cfL num (.slice va gs.length vc) a b c d) = W := ⟨_, rfl⟩
  rw [hW2] at s5 sfar hb3 t5 ⊢
  obtain ⟨X, hX⟩ : ∃ X, w1.heap.size = X := ⟨_, rfl⟩
  have hblk := fun k hk => (ho.lt k hk)
  rw [hX] at s5 sfar hb3 t5 hlo hblk ⊢
  have ho3 : (W2.setCell ⟨X, 0, none⟩ (.int .i64 (num + 1))).ownsRow (w.heap.size + 3) 3 1 (.slice va gs.length vc) gs.length (zcs (zi gs)) := owns_base (owns_kept ho (fun k hk => sfar k (hblk k hk).2)) (by omega)
  have c3 := (sfar (w.heap.size + 1) (by omega)).trans ((hb1.block _ (by omega)).trans r1)
  have z3 := (sfar (w.heap.size + 2) (by omega)).trans ((hb1.block _ (by omega)).trans r2)
  have y0 : W2.cell? ⟨X, 0, none⟩ = some (.int .i64 num) := cellB t5 0 _ rfl
  have y1 : W2.frozen? ⟨X, 0, none⟩ = false := frozenB t5 0
  have hXs : X < (W2.setCell ⟨X, 0, none⟩ (.int .i64 (num + 1))).heap.size := (Array.getElem?_eq_some_iff.1 s5).1
  have HQ : Hid (_ ∧ _ ∧ _ ∧ _ ∧ _ ∧ _ ∧ _ ∧ _ ∧ _) := ⟨s5, hb3, ho3, c3, z3, hblk, hlo, hsz, hXs⟩
  clear s5 hb3 ho3 c3 z3 hblk sfar t5 ho hb0 hb1 r1 r2 hX hW2 hlo hsz hXs
  go_upto_region 3 with fail
  obtain ⟨s5, hb3, ho3, c3, z3, hblk, hlo, hsz, hXs⟩ := HQ.out
  clear HQ y0 y1
  obtain ⟨W3, hW3⟩ : ∃ W, W2.setCell ⟨X, 0, none⟩ (.int .i64 (num + 1)) = W := ⟨_, rfl⟩
  rw [hW3] at s5 hb3 ho3 c3 z3 hXs ⊢
  clear hW3
  have s5' : W3.heap[X]? = some (.cells (cf (num + 1) (.slice va gs.length vc) a b c d) 50) := s5
  clear s5
  have x0 := cellB c3 0 _ rfl
  have x1 := cellB c3 1 _ rfl
  have u1 := cellB s5' 1 _ rfl
  obtain ⟨i0, hi, hz0, hz1, hz2⟩ := info_parts Try.info3
  have hml : gs.length + 1 ≤ maxLen := by unfold maxLen; omega
  have hkb : (gs.length + 1) * 8 ≤ 140737488355328 := by omega
  have HQ : Hid (_ ∧ _ ∧ _ ∧ _ ∧ _ ∧ _ ∧ _ ∧ _) := ⟨s5', hb3, ho3, z3, hblk, hlo, hsz, hXs⟩
  have hwb : w.heap.size + 3 ≤ W3.heap.size := by omega
  clear s5' hb3 z3 hblk hlo hsz hXs c3
  go_upto_region 6 with (first
    | (at_builtin; refine wpList_append_own _ rfl _ _ 25 rfl (w.heap.size + 3) 3 i0 (.int .i64 0) 1 8 Try.underlying25 hi hz0 hz1 hz2 rfl (by decide) (.slice va gs.length vc) gs.length (zcs (zi gs)) rfl (ho3.alloc _) _ 1 1 [.int .i64 g] rfl rfl (World.news_of_block (heap_alloc_new _ _)) (by simp [Value.oneCell']) hml hkb (by simp; omega) ?_; intro v' w5 k1 k2 _; obtain ⟨gb, cap, rfl⟩ := some_of k1 (by omega); obtain ⟨s5', hb3, ho3', z3, hblk, hlo, hsz, hXs⟩ := HQ.out; have g5 := (k2.block X (by simp; omega) (fun h => by have := (hblk X h.symm).2; omega)).trans ((Below.heap_alloc _ _ _ hXs).trans s5'); have g2 := (k2.block (w.heap.size + 2) (by simp; omega) (fun h => by have := (ho3'.lt _ h.symm).1; omega)).trans ((Below.heap_alloc _ _ _ (by omega)).trans z3); have gBel := (hb3.alloc (by omega) _).grown k2 (by simp; omega) (fun q hq => by have := (ho3'.lt q hq).1; omega); have yy1 := cellB g5 1 _ rfl; have yy2 := frozenB g5 1; have HK : Hid (_ ∧ _ ∧ _ ∧ _ ∧ _) := ⟨k1, g5, g2, gBel, hlo⟩; have HSZ : Hid (W0.heap.size = w.heap.size + 3) := hsz; clear s5' hb3 ho3' z3 hblk hlo hsz hXs g5 g2 gBel k1 k2))
  obtain ⟨k1, g5, g2, gBel, hlo⟩ := HK.out
  have hsz := HSZ.out
  clear HK HQ HSZ ho3 u1 yy1 yy2 hml hkb hi hz0 hz1 hz2
  rw [← zcs_snoc] at k1
  have hln : gs.length + 1 = (zi gs ++ [(g : Int)]).length := by rw [List.length_append, zi_len]; rfl
  obtain ⟨hSc5, hgb, hcap⟩ := Sc_owns k1 hln
  have hgX : gb ≠ X := by
    rintro rfl
    obtain ⟨cur, e1, _⟩ := hSc5
    rw [g5] at e1
    injection e1 with e1
    injection e1 with _ e1 _
    exact absurd e1 (by decide)
  have HGX : Hid (gb ≠ X) := hgX
  have HGB : Hid (w.heap.size + 3 ≤ gb) := hgb
  have s5 := setB g5 1 (.slice (some ⟨gb, 0, none⟩) (gs.length + 1) cap)
  have hf5 : ∀ k, k ≠ X → (w5.setCell ⟨X, 1, none⟩ (.slice (some ⟨gb, 0, none⟩) (gs.length + 1) cap)).heap[k]? = w5.heap[k]? := fun k hk => set_far hk _ _
  have hSc6 : Sc (w5.setCell ⟨X, 1, none⟩ (.slice (some ⟨gb, 0, none⟩) (gs.length + 1) cap)) gb (zi gs ++ [(g : Int)]) := hSc5.next (hf5 gb hgX)
  have s2 := (hf5 (w.heap.size + 2) (by omega)).trans g2
  have hbS : Below w.heap.size w (w5.setCell ⟨X, 1, none⟩ (.slice (some ⟨gb, 0, none⟩) (gs.length + 1) cap)) := gBel.setCell (p := ⟨X, 1, none⟩) (by show w.heap.size ≤ X; omega) _
  obtain ⟨W5, hW5⟩ : ∃ W, w5.setCell ⟨X, 1, none⟩ (.slice (some ⟨gb, 0, none⟩) (gs.length + 1) cap) = W := ⟨_, rfl⟩
  rw [hW5] at s5 hSc6 s2 hbS ⊢
  have hSo := Sort_any (zi gs ++ [(g : Int)]) gb cap (w.heap.size + 3) (by omega) (by have h9 := (show Ev (nG 1 g gs) [a, b, c, d] from HGS0.out).le; have h8 := congrArg List.length HINS.out; rw [insTo_len, zi_len, ← hln] at h8; omega) W5 hSc6 hgb
  rw [← hln, HINS.out] at hSo
  have HLN : Hid ((zi (nG 1 g gs)).length = gs.length + 1) := by show _ = _; rw [← HINS.out, insTo_len, ← hln]
  have x5 : W5.cell? ⟨X, 1, none⟩ = some (.slice (some ⟨gb, 0, none⟩) (gs.length + 1) cap) := cellB s5 1 _ rfl
  obtain ⟨GS, hGS⟩ : ∃ GS, nG 1 g gs = GS := ⟨_, rfl⟩
  have HGS : Hid (nG 1 g gs = GS) := hGS
  have hevv : Ev GS [a, b, c, d] := by rw [← hGS]; exact HGS0.out
  rw [hGS] at hSo HLN
  have HR : Hid (_ ∧ _ ∧ _ ∧ _) := ⟨s5, s2, hbS, hevv⟩
  clear s5 s2 hbS hf5 hSc5 hSc6 hW5 hGS HGS0 HINS k1 g5 g2 gBel hevv hln
  go_upto_region 12 with (go_at_call 42; refine hSo.mono ?_; rintro e w6 ⟨rfl, hsc7, hon⟩)
  obtain ⟨s5, s2, hbS, hev⟩ := HR.out
  have q5 : w6.heap[X]? = some (.cells (cf (num + 1) (.slice (some ⟨gb, 0, none⟩) (gs.length + 1) cap) a b c d) 50) := (hon.far X (fun h => hgX h.symm)).trans s5
  have q2 := (hon.far (w.heap.size + 2) (by omega)).trans s2
  have hb6 : Below w.heap.size w w6 := hbS.trans (hon.below.mono (by omega))
  have hil6 : Il w6 (.slice (some ⟨gb, 0, none⟩) (gs.length + 1) cap) (zi GS) := Il_Sc hsc7 HLN.out.symm
  clear hSo hsc7 hon x5 s5 s2 hbS HR hgX hgb hcap
  have hfr5 : w6.heap[X]? = some (.cells (cf (num + 1) (.slice (some ⟨gb, 0, none⟩) (gs.length + 1) cap) a b c d) 50) := q5
  have HB6 : Hid (Below w.heap.size w w6) := hb6
  have HIL6 : Hid (Il w6 (.slice (some ⟨gb, 0, none⟩) (gs.length + 1) cap) (zi GS)) := hil6
  have HZ6 : Hid (w6.heap[w.heap.size + 2]? = some (.cells (cf 0 (.slice none 0 0) 0 0 0 0) 50)) := q2
  have Xlt : X < w6.heap.size := (Array.getElem?_eq_some_iff.1 q5).1
  have Zlt : w.heap.size + 2 < w6.heap.size := (Array.getElem?_eq_some_iff.1 q2).1
  have hG : ∀ W, Below w6.heap.size w6 W → Calls Try.prog 46 #[.slice (some ⟨gb, 0, none⟩) (gs.length + 1) cap, .agg (ow a b c d)] W fun e W' => e = .returned (.agg (owL (giveG GS [a, b, c, d])).toArray) ∧ Below W.heap.size W W' := fun W h => give_any GS [a, b, c, d] hev.pos (by have := hev.le; omega) hev.g4 hev.ol hev.o4 _ W (hil6.next h)
  have hE : ∀ W, Below w6.heap.size w6 W → Calls Try.prog 45 #[.slice (some ⟨gb, 0, none⟩) (gs.length + 1) cap, .agg (owL (giveG GS [a, b, c, d])).toArray] W fun e W' => e = .returned (.agg (owL (nR GS [a, b, c, d])).toArray) ∧ Below W.heap.size W W' := fun W h => even_any GS (giveG GS [a, b, c, d]) (nR GS [a, b, c, d]) 5 hev.ev hev.pos (by have := hev.le; omega) hev.g4 hev.vl hev.v4 _ W (hil6.next h)
  obtain ⟨p, q, r, t', hpq⟩ : ∃ p q r t' : Nat, nR GS [a, b, c, d] = [p, q, r, t'] := four_of hev.rl
  have hE2 : ∀ W, Below w6.heap.size w6 W → Calls Try.prog 45 #[.slice (some ⟨gb, 0, none⟩) (gs.length + 1) cap, .agg (owL (giveG GS [a, b, c, d])).toArray] W fun e W' => e = .returned (.agg (ow p q r t')) ∧ Below W.heap.size W W' := fun W h => by
    have := hE W h
    rw [hpq] at this
    exact this
  obtain ⟨GV, hGV⟩ : ∃ GV, (owL (giveG GS [a, b, c, d])).toArray = GV := ⟨_, rfl⟩
  rw [hGV] at hG hE2
  have HG : Hid (∀ W, Below w6.heap.size w6 W → Calls Try.prog 46 #[.slice (some ⟨gb, 0, none⟩) (gs.length + 1) cap, .agg (ow a b c d)] W fun e W' => e = .returned (.agg GV) ∧ Below W.heap.size W W') := hG
  have HE : Hid (∀ W, Below w6.heap.size w6 W → Calls Try.prog 45 #[.slice (some ⟨gb, 0, none⟩) (gs.length + 1) cap, .agg GV] W fun e W' => e = .returned (.agg (ow p q r t')) ∧ Below W.heap.size W W') := hE2
  have HPQ : Hid (nR GS [a, b, c, d] = [p, q, r, t']) := hpq
  have HBX : Hid (∀ W, Below w6.heap.size w6 W → W.heap[X]? = some (.cells (cf (num + 1) (.slice (some ⟨gb, 0, none⟩) (gs.length + 1) cap) a b c d) 50)) := fun W h => (h.block X Xlt).trans q5
  have HC : Hid (∀ W, Below w6.heap.size w6 W → W.cell? ⟨X, 1, none⟩ = some (.slice (some ⟨gb, 0, none⟩) (gs.length + 1) cap) ∧ W.cell? ⟨X, 2, none⟩ = some (.int .i64 a) ∧ W.cell? ⟨X, 3, none⟩ = some (.int .i64 b) ∧ W.cell? ⟨X, 4, none⟩ = some (.int .i64 c) ∧ W.cell? ⟨X, 5, none⟩ = some (.int .i64 d)) := fun W h =>
    ⟨cellB (HBX.out W h) 1 _ rfl, cellB (HBX.out W h) 2 _ rfl, cellB (HBX.out W h) 3 _ rfl, cellB (HBX.out W h) 4 _ rfl, cellB (HBX.out W h) 5 _ rfl⟩
  have hS0 := HC.out _ (below_drew (Below.refl w6.heap.size w6))
  clear hG hE hE2 hGV hpq hfr5 q5 q2 hb6 hil6 hev
  refine region_Z 9 (fun w' => w'.cell? ⟨X, 1, none⟩ = some (.slice (some ⟨gb, 0, none⟩) (gs.length + 1) cap) ∧ w'.cell? ⟨X, 2, none⟩ = some (.int .i64 a) ∧ w'.cell? ⟨X, 3, none⟩ = some (.int .i64 b) ∧ w'.cell? ⟨X, 4, none⟩ = some (.int .i64 c) ∧ w'.cell? ⟨X, 5, none⟩ = some (.int .i64 d)) (by kernel_rfl) ?_
  refine Z_take (i := 0) (v := ?_) rfl (by kernel_rfl) (by kernel_rfl) (by kernel_rfl) (by kernel_rfl) (fun _ _ _ h => h) (by rfl) hS0 ?_ ?_
  rotate_left
  · (intro w' hSw; obtain ⟨e0, e1, e2, e3, e4⟩ := hSw; go_simp; (try with_reducible rfl))
  simp only [Act.put, List.setIfInBounds_toArray]
  refine Z_take (i := 1) (v := ?_) rfl (by kernel_rfl) (by kernel_rfl) (by kernel_rfl) (by kernel_rfl) (fun _ _ _ h => h) (by rfl) hS0 ?_ ?_
  rotate_left
  · (intro w' hSw; obtain ⟨e0, e1, e2, e3, e4⟩ := hSw; go_simp; (try with_reducible rfl))
  simp only [Act.put]
  refine Z_take (i := 2) (v := ?_) rfl (by kernel_rfl) (by kernel_rfl) (by kernel_rfl) (by kernel_rfl) (fun _ _ _ h => h) (by rfl) hS0 ?_ ?_
  rotate_left
  · (intro w' hSw; obtain ⟨e0, e1, e2, e3, e4⟩ := hSw; go_simp; (try with_reducible rfl))
  simp only [Act.put]
  refine Z_take (i := 3) (v := ?_) rfl (by kernel_rfl) (by kernel_rfl) (by kernel_rfl) (by kernel_rfl) (fun _ _ _ h => h) (by rfl) hS0 ?_ ?_
  rotate_left
  · (intro w' hSw; obtain ⟨e0, e1, e2, e3, e4⟩ := hSw; go_simp; (try with_reducible rfl))
  simp only [Act.put]
  refine Z_take (i := 4) (v := ?_) rfl (by kernel_rfl) (by kernel_rfl) (by kernel_rfl) (by kernel_rfl) (fun _ _ _ h => h) (by rfl) hS0 ?_ ?_
  rotate_left
  · (intro w' hSw; obtain ⟨e0, e1, e2, e3, e4⟩ := hSw; go_simp; (try with_reducible rfl))
  simp only [Act.put]
  refine Z_take (i := 5) (v := ?_) rfl (by kernel_rfl) (by kernel_rfl) (by kernel_rfl) (by kernel_rfl) (fun _ _ _ h => h) (by rfl) hS0 ?_ ?_
  rotate_left
  · (intro w' hSw; obtain ⟨e0, e1, e2, e3, e4⟩ := hSw; go_simp; (try with_reducible rfl))
  simp only [Act.put]
  refine Z_step (i := 6) (by kernel_rfl) rfl (fun K hK => ?_)
  go_simp
  refine (HG.out _ (below_drew (Below.refl w6.heap.size w6))).mono ?_
  rintro e w7 ⟨rfl, hb7'⟩
  have hb7 : Below w6.heap.size w6 w7 := (below_drew (Below.refl w6.heap.size w6)).trans hb7'
  refine hK _ _ (fun _ => HC.out _ hb7) ?_
  clear hK K hb7'
  refine Z_step (i := 7) (by kernel_rfl) rfl (fun K hK => ?_)
  go_simp
  refine (HE.out _ hb7).mono ?_
  rintro e w8 ⟨rfl, hb8'⟩
  have hb8 : Below w6.heap.size w6 w8 := hb7.trans (hb8'.mono hb7.size)
  refine hK _ _ (fun _ => HC.out _ hb8) ?_
  clear hK K hb8'
  refine Z_step (i := 8) (by kernel_rfl) rfl (fun K hK => ?_)
  go_simp
  refine hK _ _ (fun _ => HC.out _ hb8) ?_
  clear hK K
  have q8 := HBX.out _ hb8
  have K9 : Hid (w8.there X 2 4) := blk_there q8 2 4 (Nat.le_refl _)
  refine Z_step (i := 9) (by kernel_rfl) rfl (fun K hK => ?_)
  rw [if_pos (by rfl)]
  refine wp_store_mid 48 _ _ rfl X 2 (ow p q r t') rfl rfl K9.out Try.size48 (by simp [Value.oneCell']) ?_
  refine hK _ _ (fun h => absurd rfl h) (Z_done (by kernel_rfl) ?_ _)
  clear hK K K9
  have p0 : (w8.setCells X 2 (ow p q r t').toList).heap[X]? = some (.cells (cf (num + 1) (.slice (some ⟨gb, 0, none⟩) (gs.length + 1) cap) p q r t') 50) := setB (setB (setB (setB q8 2 _) 3 _) 4 _) 5 _
  have p1 : (w8.setCells X 2 (ow p q r t').toList).heap[w.heap.size + 2]? = some (.cells (cf 0 (.slice none 0 0) 0 0 0 0) 50) := (blk_far (by omega) _ _ _).trans ((hb8.block _ Zlt).trans HZ6.out)
  have hb4 : Below w.heap.size w (w8.setCells X 2 (ow p q r t').toList) := blk_below (by omega) _ _ _ (HB6.out.trans (hb8.mono HB6.out.size))
  have hil8 := HIL6.out.next hb8
  have gX : gb ≠ X := HGX.out
  have hil : Il (w8.setCells X 2 (ow p q r t').toList) (.slice (some ⟨gb, 0, none⟩) (gs.length + 1) cap) (zi GS) := by
    rcases hil8 with ⟨h, _⟩ | ⟨b0, o0, cp, hv, hlt, hc⟩
    · have h9 : (zi GS).length = 0 := by rw [h]; rfl
      rw [HLN.out] at h9
      exact absurd h9 (by omega)
    · refine .inr ⟨b0, o0, cp, hv, by rw [blk_size]; exact hlt, fun i n hn => ?_⟩
      have hb9 : b0 ≠ X := by
        injection hv with hv _ _
        injection hv with hv
        injection hv with hv _ _
        rw [← hv]; exact gX
      exact (World.cell?_of_block (a := ⟨b0, o0 + i, none⟩) (blk_far hb9 _ _ _)).trans (hc i n hn)
  obtain ⟨W4, hW4⟩ : ∃ W, w8.setCells X 2 (ow p q r t').toList = W := ⟨_, rfl⟩
  rw [hW4] at p0 p1 hb4 hil ⊢
  have gZ : gb ≠ w.heap.size + 2 := by have := HGB.out; omega
  have HIL : Hid (Il (W4.setCells (w.heap.size + 2) 0 (cfL (num + 1) (.slice (some ⟨gb, 0, none⟩) (gs.length + 1) cap) p q r t')) (.slice (some ⟨gb, 0, none⟩) (gs.length + 1) cap) (zi GS)) := by
    show Il _ _ _
    rcases hil with h | ⟨b0, o0, cp, hv, hlt, hc⟩
    · exact .inl h
    · refine .inr ⟨b0, o0, cp, hv, by rw [blk_size]; exact hlt, fun i n hn => ?_⟩
      have hb9 : b0 ≠ w.heap.size + 2 := by
        injection hv with hv _ _
        injection hv with hv
        injection hv with hv _ _
        rw [← hv]; exact gZ
      exact (World.cell?_of_block (a := ⟨b0, o0 + i, none⟩) (blk_far hb9 _ _ _)).trans (hc i n hn)
  have HO : Hid (∀ k, (Value.slice (some ⟨gb, 0, none⟩) (gs.length + 1) cap).ownBlock = some k → w.heap.size ≤ k) := fun k hk => by injection hk with hk; subst hk; have := HGB.out; show w.heap.size ≤ gb; omega
  have HNG : Hid (nG 1 g gs = GS) := HGS.out
  have HNO : Hid (nO 1 g s gs [a, b, c, d] = [p, q, r, t']) := by show (if 1 = 3 then _ else _) = _; rw [if_neg (by omega), HGS.out]; exact HPQ.out
  clear hW4 q8 hb8 hil8 gX gZ hS0 HG HE HPQ HBX HC
  have K1 : Hid (W4.rangeAt X 0 (cfL (num + 1) (.slice (some ⟨gb, 0, none⟩) (gs.length + 1) cap) p q r t')) := blk_range (L := cfL (num + 1) (.slice (some ⟨gb, 0, none⟩) (gs.length + 1) cap) p q r t') p0
  have K2 : Hid (W4.there (w.heap.size + 2) 0 6) := blk_there p1 0 6 (Nat.le_refl _)
  have K3 : Hid (Below w.heap.size w (W4.setCells (w.heap.size + 2) 0 (cfL (num + 1) (.slice (some ⟨gb, 0, none⟩) (gs.length + 1) cap) p q r t'))) := blk_below (by omega) _ _ _ hb4
  have K4 : Hid ((W4.setCells (w.heap.size + 2) 0 (cfL (num + 1) (.slice (some ⟨gb, 0, none⟩) (gs.length + 1) cap) p q r t')).rangeAt (w.heap.size + 2) 0 (cfL (num + 1) (.slice (some ⟨gb, 0, none⟩) (gs.length + 1) cap) p q r t')) := blk_range (blk_set p1 (L := cfL (num + 1) (.slice (some ⟨gb, 0, none⟩) (gs.length + 1) cap) p q r t') rfl)
  have K5 : Hid (Il (W4.setCells (w.heap.size + 2) 0 (cfL (num + 1) (.slice (some ⟨gb, 0, none⟩) (gs.length + 1) cap) p q r t')) (.slice (some ⟨gb, 0, none⟩) (gs.length + 1) cap) (zi GS)) := HIL.out
  clear p0 p1 hb4 hil HIL
  go_wp2_with (first
    | (refine wpList_load_mid rfl 50 _ rfl X 0 rfl (cfL (num + 1) (.slice (some ⟨gb, 0, none⟩) (gs.length + 1) cap) p q r t') _ K1.out Try.underlying50 rfl Try.size50 ?_)
    | (refine wpList_store_mid rfl 50 _ _ rfl (w.heap.size + 2) 0 (cf (num + 1) (.slice (some ⟨gb, 0, none⟩) (gs.length + 1) cap) p q r t') rfl rfl K2.out Try.size50 (cf_ones _ _ _ _ _ _ _ _) ?_))
  exact bodyPost_ret (v := .agg (cf (num + 1) (.slice (some ⟨gb, 0, none⟩) (gs.length + 1) cap) p q r t')) (results_one rfl rfl (res25 K4.out rfl)) rfl ⟨_, p, q, r, t', rfl, by rw [HNG.out]; exact K5.out, HNO.out.symm, HO.out, K3.out⟩
end Go.Proofs.Ytcehmaegnfelhaa
