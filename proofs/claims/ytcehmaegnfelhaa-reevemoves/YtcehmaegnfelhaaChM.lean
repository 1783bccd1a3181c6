/- Chains: done, walked. -/
import Derived.Test.YtcehmaegnfelhaaChZ
namespace Go.Proofs.Ytcehmaegnfelhaa
open Go.RowKit
attribute [local go_sem ↓] Go.wp_at_zero Go.wp_at_succ

/-- What is decided of groups behind a Join or a Leave, and the owners ahead of it. -/
structure Ev (gs o : List Nat) : Prop where
  pos : 0 < gs.length
  le : gs.length ≤ 4
  g4 : ∀ x ∈ gs, x ≤ 4
  o4 : ∀ x ∈ o, x ≤ 4
  ol : o.length = 4
  v4 : ∀ x ∈ giveG gs o, x ≤ 4
  vl : (giveG gs o).length = 4
  ev : evS 5 gs (giveG gs o) = some (nR gs o)
  rl : (nR gs o).length = 4
  rin : ∀ x ∈ nR gs o, x ∈ gs
theorem ev_of {gs o : List Nat} (h : evOk gs o = true) : Ev gs o := by
  simp [evOk] at h
  obtain ⟨⟨⟨⟨⟨⟨⟨⟨⟨h1, h2⟩, h3⟩, h4⟩, h5⟩, h6⟩, h7⟩, h8⟩, h9⟩, h10⟩ := h
  exact ⟨h1, h2, fun x hx => (h3 x hx).2, h4, h5, h6, h7, h8, h9, h10⟩
theorem join_of {gs o : List Nat} {g : Nat} (hg : gs ∈ subs0) (ho : o ∈ owners0 gs) (h1 : 1 ≤ g) (h4 : g ≤ 4) (hc : gs.contains g = false) :
    insTo (zi gs ++ [(g : Int)]) (gs.length + 1) = zi (nG 1 g gs) ∧ Ev (nG 1 g gs) o ∧ nG 1 g gs ∈ subs0 := by
  have h := step_of hg ho h1 h4
  unfold stepOk at h
  rw [if_neg (by rw [hc]; simp)] at h
  simp only [Bool.and_eq_true] at h
  obtain ⟨⟨ha, hb⟩, hc⟩ := h
  exact ⟨by simpa [sortOk] using ha, ev_of hb, by simpa using hc⟩
theorem leave_of {gs o : List Nat} {g : Nat} (hg : gs ∈ subs0) (ho : o ∈ owners0 gs) (h1 : 1 ≤ g) (h4 : g ≤ 4) (hc : gs.contains g = true) (hl : 1 < gs.length) :
    (∃ i Lf, idxI (zi gs) g = (i : Nat) ∧ i < gs.length ∧ dlJ g (gs.length - (i + 1)) i (i + 1) (zi gs) = (gs.length - 1, Lf) ∧ Lf.take (gs.length - 1) = zi (nG 2 g gs)) ∧ Ev (nG 2 g gs) o ∧ nG 2 g gs ∈ subs0 := by
  have h := step_of hg ho h1 h4
  unfold stepOk at h
  rw [if_pos hc, if_pos hl] at h
  simp only [Bool.and_eq_true] at h
  obtain ⟨⟨ha, hb⟩, hc⟩ := h
  refine ⟨⟨gs.idxOf g, (dlJ g (gs.length - (gs.idxOf g + 1)) (gs.idxOf g) (gs.idxOf g + 1) (zi gs)).2, ?_⟩, ev_of hb, by simpa using hc⟩
  unfold delOk at ha
  simp only [Bool.and_eq_true, beq_iff_eq, decide_eq_true_eq] at ha
  obtain ⟨⟨⟨a1, a2⟩, a3⟩, a4⟩ := ha
  refine ⟨a1, a2, ?_, a4⟩
  apply Prod.ext
  · show _ = gs.length - 1; omega
  · rfl
/-- A slice whose block, if it has one, is from n on. -/
def Fr (n : Nat) (v : Value) : Prop := ∀ k, v.ownBlock = some k → n ≤ k
theorem Il_Sc {w : World} {g n cap : Nat} {L : List Int} (h : Sc w g L) (hn : n = L.length) : Il w (.slice (some ⟨g, 0, none⟩) n cap) L := by
  subst hn
  refine .inr ⟨g, 0, cap, rfl, ?_, fun i t ht => ?_⟩
  · obtain ⟨cur, h1, _⟩ := h; exact (Array.getElem?_eq_some_iff.1 h1).1
  · rw [Nat.zero_add]; exact h.cell ht
theorem Sc_owns {w : World} {base g n cap : Nat} {L : List Int} (h : w.ownsRow base 3 1 (.slice (some ⟨g, 0, none⟩) n cap) n (zcs L)) (hn : n = L.length) : Sc w g L ∧ base ≤ g ∧ n ≤ cap := by
  obtain ⟨hl, h | ⟨g', cap', cur, hv, h2, h3, h4, h5, h6, h7⟩⟩ := h
  · cases h.1
  · injection hv with e1 _ e2
    injection e1 with e1
    injection e1 with e1 _ _
    subst e1 e2
    refine ⟨⟨cur, h3, fun i t ht => ?_⟩, h2, h4⟩
    have hi : i < L.length := (List.getElem?_eq_some_iff.1 ht).1
    have := zcs_at L i t ht
    rw [← h7, List.getElem?_take_of_lt (by omega)] at this
    simpa using this
theorem some_of {w : World} {base n : Nat} {v : Value} {xs : List Value} (h : w.ownsRow base 3 1 v n xs) (hn : 0 < n) : ∃ g cap, v = .slice (some ⟨g, 0, none⟩) n cap := by
  obtain ⟨g, cap, rfl, _, _⟩ := h.form hn
  exact ⟨g, cap, rfl⟩
set_option maxRecDepth 20000 in
set_option maxHeartbeats 8000000 in
theorem done_move (num : Int) (hn0 : 0 ≤ num) (hn1 : num < 1099511627776) (gv : Value) (gs : List Nat) (a b c d g s : Nat) (w : World) (hu : Il w gv (zi gs)) (hg : gs ∈ subs0) (hs : s < 4) :
    Calls Try.prog 33 #[.agg (cf num gv a b c d), .agg #[.int .i64 3, .int .i64 g, .int .i64 s]] w fun e W' => ∃ (v : Value) (p q r t : Nat), e = .returned (.agg (cf (num + 1) v p q r t)) ∧ Il W' v (zi (nG 3 g gs)) ∧ [p, q, r, t] = nO 3 g s gs [a, b, c, d] ∧ Fr w.heap.size v ∧ Below w.heap.size w W' := by
  have n4 := (conf_of hg).1
  obtain ⟨W0, hW0⟩ : ∃ W, ((w.alloc (.cells (cf num gv a b c d) 50)).alloc (.cells #[.int .i64 3, .int .i64 g, .int .i64 s] 42)).alloc (.cells (cf 0 (.slice none 0 0) 0 0 0 0) 50) = W := ⟨_, rfl⟩
  have hb0 : Below w.heap.size w W0 := by
    rw [← hW0]
    exact (((Below.refl _ w).alloc (Nat.le_refl _) _).alloc (by simp) _).alloc (by simp; omega) _
  have hsz : W0.heap.size = w.heap.size + 3 := by rw [← hW0]; simp
  have r0 : W0.heap[w.heap.size]? = some (.cells (cf num gv a b c d) 50) := by
    rw [← hW0]
    exact ((Below.heap_alloc _ _ _ (by simp; omega)).trans (Below.heap_alloc _ _ _ (by simp))).trans (heap_alloc_new _ _)
  have r1 : W0.heap[w.heap.size + 1]? = some (.cells #[.int .i64 3, .int .i64 g, .int .i64 s] 42) := by
    rw [← hW0]
    refine (Below.heap_alloc _ _ _ (by simp)).trans ?_
    have := heap_alloc_new (w.alloc (.cells (cf num gv a b c d) 50)) (.cells #[.int .i64 3, .int .i64 g, .int .i64 s] 42)
    rwa [show (w.alloc (.cells (cf num gv a b c d) 50)).heap.size = w.heap.size + 1 by simp] at this
  have r2 : W0.heap[w.heap.size + 2]? = some (.cells (cf 0 (.slice none 0 0) 0 0 0 0) 50) := by
    rw [← hW0]
    have := heap_alloc_new ((w.alloc (.cells (cf num gv a b c d) 50)).alloc (.cells #[.int .i64 3, .int .i64 g, .int .i64 s] 42)) (.cells (cf 0 (.slice none 0 0) 0 0 0 0) 50)
    rwa [show ((w.alloc (.cells (cf num gv a b c d) 50)).alloc (.cells #[.int .i64 3, .int .i64 g, .int .i64 s] 42)).heap.size = w.heap.size + 2 by simp] at this
  have hC := clone_any num gv (zi gs) a b c d W0 (hu.next hb0) (by rw [zi_len]; omega)
  rw [zi_len] at hC
  have K0 : Hid (W0.rangeAt w.heap.size 0 (cfL num gv a b c d)) := blk_range (L := cfL num gv a b c d) r0
  have HV : Hid (((w.alloc (.cells (cf num gv a b c d) 50)).alloc (.cells #[.int .i64 3, .int .i64 g, .int .i64 s] 42)).alloc (.cells (cf 0 (.slice none 0 0) 0 0 0 0) 50) = W0) := hW0
  have HX : Hid (Below w.heap.size w W0 ∧ W0.heap.size = w.heap.size + 3 ∧ W0.heap[w.heap.size + 1]? = some (.cells #[.int .i64 3, .int .i64 g, .int .i64 s] 42) ∧ W0.heap[w.heap.size + 2]? = some (.cells (cf 0 (.slice none 0 0) 0 0 0 0) 50)) := ⟨hb0, hsz, r1, r2⟩
  obtain ⟨pa, pc, hpv⟩ := hu.slice
  rw [zi_len] at hpv
  subst hpv
  clear hW0 hb0 hsz r0 r1 r2 hu
  go_enter Try.func33, Try.ntmps33
  go_upto_region 1 with fail
  rw [HV.out]
  clear HV
  go_upto_region 2 with (first
    | (refine wpList_load_mid rfl 50 _ rfl w.heap.size 0 rfl (cfL num (.slice pa gs.length pc) a b c d) _ K0.out Try.underlying50 rfl Try.size50 ?_)
    | (go_at_call 41; refine hC.mono ?_; rintro e w1 ⟨v, rfl, ho, hb1⟩; obtain ⟨va, vc, rfl⟩ := owns_slice ho)
    | (refine wpList_store_mid rfl 50 _ _ rfl w1.heap.size 0 (cf num (.slice va gs.length vc) a b c d) rfl rfl (blk_there (heap_alloc_new w1 _) 0 6 (Nat.le_refl _)) Try.size50 (cf_ones _ _ _ _ _ _ _ _) ?_))
  clear hC K0
  obtain ⟨hb0, hsz, r1, r2⟩ := HX.out
  clear HX
  have hlo : W0.heap.size ≤ w1.heap.size := hb1.size
  have s5 := setB (blk_set (heap_alloc_new w1 (.cells (cf 0 (.slice none 0 0) 0 0 0 0) 50)) (L := cfL num (.slice va gs.length vc) a b c d) rfl) 0 (.int .i64 (num + 1))
  have sfar : ∀ k, k < w1.heap.size → (((w1.alloc (.cells (cf 0 (.slice none 0 0) 0 0 0 0) 50)).setCells w1.heap.size 0 (cfL num (.slice va gs.length vc) a b c d)).setCell ⟨w1.heap.size, 0, none⟩ (.int .i64 (num + 1))).heap[k]? = w1.heap[k]? := fun k hk => (set_far (by omega) _ _).trans ((blk_far (by omega) _ _ _).trans (Below.heap_alloc _ _ _ hk))
  have hb3 : Below w.heap.size w (((w1.alloc (.cells (cf 0 (.slice none 0 0) 0 0 0 0) 50)).setCells w1.heap.size 0 (cfL num (.slice va gs.length vc) a b c d)).setCell ⟨w1.heap.size, 0, none⟩ (.int .i64 (num + 1))) := (blk_below (by omega) _ _ _ ((hb0.trans (hb1.mono hb0.size)).alloc (by omega) _)).setCell (p := ⟨w1.heap.size, 0, none⟩) (by show w.heap.size ≤ w1.heap.size; omega) _
  have t5 := blk_set (heap_alloc_new w1 (.cells (cf 0 (.slice none 0 0) 0 0 0 0) 50)) (L := cfL num (.slice va gs.length vc) a b c d) rfl
  obtain ⟨W2, hW2⟩ : ∃ W, (w1.alloc (.cells (cf 0 (.slice none 0 0) 0 0 0 0) 50)).setCells w1.heap.size 0 (cfL num (.slice va gs.length vc) a b c d) = W := ⟨_, rfl⟩
  rw [hW2] at s5 sfar hb3 t5 ⊢
  obtain ⟨X, hX⟩ : ∃ X, w1.heap.size = X := ⟨_, rfl⟩
  have hblk := fun k hk => (ho.lt k hk)
  rw [hX] at s5 sfar hb3 t5 hlo hblk ⊢
  have ho3 : (W2.setCell ⟨X, 0, none⟩ (.int .i64 (num + 1))).ownsRow (w.heap.size + 3) 3 1 (.slice va gs.length vc) gs.length (zcs (zi gs)) := owns_base (owns_kept ho (fun k hk => sfar k (hblk k hk).2)) (by omega)
  have c3 := (sfar (w.heap.size + 1) (by omega)).trans ((hb1.block _ (by omega)).trans r1)
  have z3 := (sfar (w.heap.size + 2) (by omega)).trans ((hb1.block _ (by omega)).trans r2)
  have y0 : W2.cell? ⟨X, 0, none⟩ = some (.int .i64 num) := cellB t5 0 _ rfl
  have y1 : W2.frozen? ⟨X, 0, none⟩ = false := frozenB t5 0
  have hXs : X < (W2.setCell ⟨X, 0, none⟩ (.int .i64 (num + 1))).heap.size := (Array.getElem?_eq_some_iff.1 s5).1
  have HQ : Hid (_ ∧ _ ∧ _ ∧ _ ∧ _ ∧ _ ∧ _ ∧ _ ∧ _) := ⟨s5, hb3, ho3, c3, z3, hblk, hlo, hsz, hXs⟩
  clear s5 hb3 ho3 c3 z3 hblk sfar t5 ho hb0 hb1 r1 r2 hX hW2 hlo hsz hXs
  go_upto_region 3 with fail
  obtain ⟨s5, hb3, ho3, c3, z3, hblk, hlo, hsz, hXs⟩ := HQ.out
  clear HQ y0 y1
  obtain ⟨W3, hW3⟩ : ∃ W, W2.setCell ⟨X, 0, none⟩ (.int .i64 (num + 1)) = W := ⟨_, rfl⟩
  rw [hW3] at s5 hb3 ho3 c3 z3 hXs ⊢
  clear hW3
  have s5' : W3.heap[X]? = some (.cells (cf (num + 1) (.slice va gs.length vc) a b c d) 50) := s5
  clear s5
  have x0 := cellB c3 0 _ rfl
  have x1 := cellB c3 1 _ rfl
  have x2 := cellB c3 2 _ rfl
  obtain ⟨t, ht⟩ : ∃ t : Int, [(a : Int), b, c, d][s]? = some t := ⟨_, List.getElem?_eq_getElem (by simp; omega)⟩
  have u1 := cellB s5' (2 + s) _ (cf_at (num + 1) (.slice va gs.length vc) a b c d s t ht)
  have u2 := frozenB s5' (2 + s)
  have p0 := setB s5' (2 + s) (.int .i64 (g : Int))
  obtain ⟨p, q, r, t', hpq⟩ : ∃ p q r t' : Nat, [a, b, c, d].set s g = [p, q, r, t'] := four_of (by simp)
  have hcs : (cf (num + 1) (.slice va gs.length vc) a b c d).setIfInBounds (2 + s) (.int .i64 (g : Int)) = cf (num + 1) (.slice va gs.length vc) p q r t' := by
    rcases s with _ | _ | _ | _ | s <;> simp at hpq
    · obtain ⟨rfl, rfl, rfl, rfl⟩ := hpq; rfl
    · obtain ⟨rfl, rfl, rfl, rfl⟩ := hpq; rfl
    · obtain ⟨rfl, rfl, rfl, rfl⟩ := hpq; rfl
    · obtain ⟨rfl, rfl, rfl, rfl⟩ := hpq; rfl
    · omega
  rw [hcs] at p0
  have hfar : ∀ k, k ≠ X → (W3.setCell ⟨X, 2 + s, none⟩ (.int .i64 (g : Int))).heap[k]? = W3.heap[k]? := fun k hk => set_far hk _ _
  have p1 := (hfar (w.heap.size + 2) (by omega)).trans z3
  have hb4 : Below w.heap.size w (W3.setCell ⟨X, 2 + s, none⟩ (.int .i64 (g : Int))) := hb3.setCell (p := ⟨X, 2 + s, none⟩) (by show w.heap.size ≤ X; omega) _
  have hil : Il (W3.setCell ⟨X, 2 + s, none⟩ (.int .i64 (g : Int))) (.slice va gs.length vc) (zi gs) := by
    have := Il_owns (l := zi gs) (v := .slice va gs.length vc) (base := w.heap.size + 3) (w := W3.setCell ⟨X, 2 + s, none⟩ (.int .i64 (g : Int))) (by rw [zi_len]; exact owns_kept ho3 (fun k hk => hfar k (by have := (hblk k hk).2; omega)))
    exact this
  have HO : Hid (∀ k, (Value.slice va gs.length vc).ownBlock = some k → w.heap.size ≤ k) := fun k hk => by have := (ho3.lt k hk).1; omega
  have HOB : Hid (∀ k, (Value.slice va gs.length vc).ownBlock = some k → w.heap.size + 3 ≤ k) := fun k hk => (ho3.lt k hk).1
  have HPQ : Hid ([a, b, c, d].set s g = [p, q, r, t']) := hpq
  have HQ : Hid (_ ∧ _ ∧ _ ∧ _) := ⟨p0, p1, hb4, hil⟩
  have s0 : (0 : Int) ≤ (s : Int) := by omega
  have s4 : (s : Int) < 4 := by omega
  clear p0 p1 hb4 hil hpq hcs hfar c3 z3 ho3 hblk s5' hb3 hXs ht
  go_upto_region 11 with fail
  obtain ⟨p0, p1, hb4, hil⟩ := HQ.out
  obtain ⟨W4, hW4⟩ : ∃ W, W3.setCell ⟨X, 2 + s, none⟩ (.int .i64 (g : Int)) = W := ⟨_, rfl⟩
  rw [hW4] at p0 p1 hb4 hil ⊢
  have HNG : Hid (nG 3 g gs = gs) := rfl
  have HNO : Hid (nO 3 g s gs [a, b, c, d] = [p, q, r, t']) := HPQ.out
  clear HQ u1 u2 x0 x1 x2 hW4
  have HIL : Hid (Il (W4.setCells (w.heap.size + 2) 0 (cfL (num + 1) (.slice va gs.length vc) p q r t')) (.slice va gs.length vc) (zi gs)) := by
    show Il _ _ _
    rcases hil with h | ⟨b0, o0, cp, hv, hlt, hc⟩
    · exact .inl h
    · refine .inr ⟨b0, o0, cp, hv, by rw [blk_size]; exact hlt, fun i n hn => ?_⟩
      have hb9 : b0 ≠ w.heap.size + 2 := by
        injection hv with hv _ _
        subst hv
        have := HOB.out b0 rfl
        omega
      exact (World.cell?_of_block (a := ⟨b0, o0 + i, none⟩) (blk_far hb9 _ _ _)).trans (hc i n hn)
  have K1 : Hid (W4.rangeAt X 0 (cfL (num + 1) (.slice va gs.length vc) p q r t')) := blk_range (L := cfL (num + 1) (.slice va gs.length vc) p q r t') p0
  have K2 : Hid (W4.there (w.heap.size + 2) 0 6) := blk_there p1 0 6 (Nat.le_refl _)
  have K3 : Hid (Below w.heap.size w (W4.setCells (w.heap.size + 2) 0 (cfL (num + 1) (.slice va gs.length vc) p q r t'))) := blk_below (by omega) _ _ _ hb4
  have K4 : Hid ((W4.setCells (w.heap.size + 2) 0 (cfL (num + 1) (.slice va gs.length vc) p q r t')).rangeAt (w.heap.size + 2) 0 (cfL (num + 1) (.slice va gs.length vc) p q r t')) := blk_range (blk_set p1 (L := cfL (num + 1) (.slice va gs.length vc) p q r t') rfl)
  have K5 : Hid (Il (W4.setCells (w.heap.size + 2) 0 (cfL (num + 1) (.slice va gs.length vc) p q r t')) (.slice va gs.length vc) (zi gs)) := HIL.out
  clear p0 p1 hb4 hil HIL
  go_wp2_with (first
    | (refine wpList_load_mid rfl 50 _ rfl X 0 rfl (cfL (num + 1) (.slice va gs.length vc) p q r t') _ K1.out Try.underlying50 rfl Try.size50 ?_)
    | (refine wpList_store_mid rfl 50 _ _ rfl (w.heap.size + 2) 0 (cf (num + 1) (.slice va gs.length vc) p q r t') rfl rfl K2.out Try.size50 (cf_ones _ _ _ _ _ _ _ _) ?_))
  exact bodyPost_ret (v := .agg (cf (num + 1) (.slice va gs.length vc) p q r t')) (results_one rfl rfl (res25 K4.out rfl)) rfl ⟨_, p, q, r, t', rfl, by rw [HNG.out]; exact K5.out, HNO.out.symm, HO.out, K3.out⟩
end Go.Proofs.Ytcehmaegnfelhaa
