/- ReeveMoves: configs, walked. -/
import Derived.Test.YtcehmaegnfelhaaRvK
namespace Go.Proofs.Ytcehmaegnfelhaa
open Go.RowKit
attribute [local go_sem ↓] Go.wp_at_zero Go.wp_at_succ

/-- Configurations copied, the groups where they lay. -/
structure Gc (N : Nat) (w : World) (v : Value) (l : List Cg) (n : Nat) (R : List Value) : Prop where
  own : w.ownsRow N 55 6 v n R
  row : ∀ i x, i < n → l[i]? = some x → ∃ gv, Il w gv x.gs ∧ (x.gs ≠ [] → ∃ k, gv.ownBlock = some k ∧ k < N) ∧ ∀ k u, (cgv x gv)[k]? = some u → R[i * 6 + k]? = some u
set_option maxRecDepth 20000 in
set_option maxHeartbeats 1000000 in
theorem configs_any (l : List Cg) (v : Value) (w : World) (hv : Cl w v l) (hl : l.length ≤ 60) : Calls Try.prog 10 #[v] w fun e W' => ∃ u, e = .returned u ∧ Cl W' u l ∧ Below w.heap.size w W' := by
  obtain ⟨va, vc, rfl⟩ := hv.slice
  obtain ⟨i0, hi, hz0, hz1, hz2⟩ := info_parts (show (Try.prog.info? 55).map (fun i => (i.zero, i.size, i.bytes)) = some (some (.agg (cf 0 (.slice none 0 0) 0 0 0 0)), 6, 64) by kernel_rfl)
  obtain ⟨N, hN⟩ : ∃ N, w.heap.size = N := ⟨_, rfl⟩
  rw [hN]
  have HN : Hid (w.heap.size = N) := hN
  have HV0 : Hid (Cl w (.slice va l.length vc) l) := hv
  have HL : Hid (l.length ≤ 60) := hl
  clear hv hN hl
  go_enter Try.func10, Try.ntmps10
  go_wp2_with fail
  go_loopg [3, 8] l.length (fun gk s j wr => ∃ (n : Nat) (R : List Value), n + gk = l.length ∧ j = .int .i64 n ∧ Gc N wr s l n R ∧ Below N w wr)
  case atStart => exact ⟨0, [], by omega, rfl, ⟨World.ownsRow_nil _ _ _ _, fun i x hi => by omega⟩, by rw [← HN.out]; exact Below.refl _ _⟩
  case round =>
    obtain ⟨n, R, hnn, rfl, hG, hB⟩ := hrel
    obtain ⟨ma, mc, rfl⟩ := owns_slice hG.own
    by_cases hn1 : n = l.length
    · subst hn1
      have HF : Hid (_ ∧ _) := ⟨hG, hB⟩
      clear hG hB
      go_wp2_with fail
      go_ret
      refine ⟨.slice ma l.length mc, rfl, ?_, HF.out.2⟩
      have hG := HF.out.1
      rcases Nat.eq_zero_or_pos l.length with h0 | h0
      · exact .inl ⟨List.length_eq_zero_iff.1 h0, ma, mc, by rw [h0]⟩
      · obtain ⟨g, cap, hv, hb, hlt⟩ := hG.own.form h0
        injection hv with h1 h2 h3
        subst h1 h3
        refine .inr ⟨g, 0, _, rfl, hlt, fun i x hx => ?_⟩
        have hi := (List.getElem?_eq_some_iff.1 hx).1
        obtain ⟨gv, h1, -, h2⟩ := hG.row i x hi hx
        refine ⟨gv, h1, fun k u hu => ?_⟩
        have hk : k < 6 := by have := (Array.getElem?_eq_some_iff.1 hu).1; simpa using this
        rw [Nat.zero_add]
        exact (hG.own.cellAt (i * 6 + k) (by omega)).trans (h2 k u hu)
    · have hn2 : n < l.length := by omega
      obtain ⟨x, hx⟩ : ∃ x, l[n]? = some x := ⟨_, List.getElem?_eq_getElem hn2⟩
      obtain ⟨b9, o9, gv9, hg9, hgb9, hil9, y9⟩ := HV0.out.at hx
      have hil : Il wr gv9 x.gs := hil9.below hB (by rw [HN.out]; exact Nat.le_refl _)
      have hlow : x.gs ≠ [] → ∃ k, gv9.ownBlock = some k ∧ k < N := fun hne => by
        rcases hil9 with ⟨e, _⟩ | ⟨b, o, c, rfl, hlt, _⟩
        · exact absurd e hne
        · exact ⟨b, rfl, by rw [← HN.out]; exact hlt⟩
      subst hg9
      have y : ∀ k u, (cgv x gv9)[k]? = some u → wr.cell? ⟨b9, o9 + n * 6 + k, none⟩ = some u := fun k u hu => (hB.cell (p := ⟨b9, o9 + n * 6 + k, none⟩) (by show b9 < N; rw [← HN.out]; exact hgb9)).trans (y9 k u hu)
      clear y9 hil9 hgb9
      obtain ⟨pa, pc, rfl⟩ := hil.slice
      obtain ⟨num, gs, o0, o1, o2, o3⟩ := x
      have y0 : wr.cell? ⟨b9, o9 + n * 6, none⟩ = some (.int .i64 num) := y 0 _ rfl
      have y1 : wr.cell? ⟨b9, o9 + n * 6 + 1, none⟩ = some (.slice pa gs.length pc) := y 1 _ rfl
      have y2 : wr.cell? ⟨b9, o9 + n * 6 + 2, none⟩ = some (.int .i64 o0) := y 2 _ rfl
      have y3 : wr.cell? ⟨b9, o9 + n * 6 + 3, none⟩ = some (.int .i64 o1) := y 3 _ rfl
      have y4 : wr.cell? ⟨b9, o9 + n * 6 + 4, none⟩ = some (.int .i64 o2) := y 4 _ rfl
      have y5 : wr.cell? ⟨b9, o9 + n * 6 + 5, none⟩ = some (.int .i64 o3) := y 5 _ rfl
      have d0 : (0 : Int) ≤ (n : Int) := by omega
      have d1 : (n : Int) < (l.length : Int) := by omega
      have hnb : n ≤ 60 := by have := HL.out; omega
      have hNW : N ≤ wr.heap.size := by have := hB.size; have := HN.out; omega
      have hbA := (Below.refl wr.heap.size wr).alloc (Nat.le_refl _) (.cells (cf num (.slice pa gs.length pc) o0 o1 o2 o3) 50)
      have rD := heap_alloc_new wr (.cells (cf num (.slice pa gs.length pc) o0 o1 o2 o3) 50)
      have hzA : (wr.alloc (.cells (cf num (.slice pa gs.length pc) o0 o1 o2 o3) 50)).heap.size = wr.heap.size + 1 := World.size_alloc _ _
      obtain ⟨WA, hWA⟩ : ∃ W, wr.alloc (.cells (cf num (.slice pa gs.length pc) o0 o1 o2 o3) 50) = W := ⟨_, rfl⟩
      have hCf := config_any num pa gs.length pc o0 o1 o2 o3 WA
      rw [hWA] at hbA rD hzA
      obtain ⟨D, hD⟩ : ∃ D, wr.heap.size = D := ⟨_, rfl⟩
      rw [hD] at hbA rD hzA
      have HWA : Hid (wr.alloc (.cells (cf num (.slice pa gs.length pc) o0 o1 o2 o3) 50) = WA) := hWA
      have HD : Hid (wr.heap.size = D) := hD
      have HF : Hid (n + gk = l.length ∧ n < l.length ∧ Below N w WA ∧ N ≤ D ∧ WA.heap.size = D + 1 ∧ Below D wr WA) := ⟨hnn, hn2, hB.trans (hbA.mono (by omega)), by omega, hzA, hbA⟩
      have HG : Hid (Gc N wr (.slice ma n mc) l n R) := hG
      have HX : Hid (l[n]? = some (⟨num, gs, o0, o1, o2, o3⟩ : Cg) ∧ Il wr (.slice pa gs.length pc) gs ∧ (gs ≠ [] → ∃ k, (Value.slice pa gs.length pc).ownBlock = some k ∧ k < N)) := ⟨hx, hil, hlow⟩
      have z0 := cellB rD 0 _ rfl
      have z1 := cellB rD 1 _ rfl
      have z2 := cellB rD 2 _ rfl
      have z3 := cellB rD 3 _ rfl
      have z4 := cellB rD 4 _ rfl
      have z5 := cellB rD 5 _ rfl
      clear hnn hn1 hn2 hx hil hlow y hNW hbA rD hzA hWA hD hG hB
      go_upto_region 5 with fail
      rw [HWA.out, HD.out]
      clear y0 y1 y2 y3 y4 y5
      go_wp2_with (first
        | (go_at_call 19; refine hCf.mono ?_; clear hCf; rintro e w2 ⟨rfl, hB2⟩; have hNw2 : N ≤ w2.heap.size := (by have h1 := hB2.size; have h2 := HF.out.2.2.2.1; have h3 := HF.out.2.2.2.2.1; omega); have hWr : Below wr.heap.size wr (w2.alloc (.cells (cf num (.slice pa gs.length pc) o0 o1 o2 o3) 55)) := by
            (have h1 := HF.out.2.2.2.2.2; rw [← HD.out] at h1; exact (h1.trans (hB2.mono h1.size)).alloc (Nat.le_trans h1.size hB2.size) _))
        | (at_builtin; refine wpList_append_lies _ rfl _ _ 31 rfl N 55 i0 (.agg (cf 0 (.slice none 0 0) 0 0 0 0)) 6 64 (by kernel_rfl) hi hz0 hz1 hz2 rfl (by decide) (.slice ma n mc) n R rfl (owns_next HG.out.own hWr) ⟨w2.heap.size, 0, none⟩ 1 1 (cfL num (.slice pa gs.length pc) o0 o1 o2 o3) rfl rfl (World.news_of_block (heap_alloc_new _ _)) (by simp [Value.oneCell']) (by decide) (by unfold maxLen; omega) (by omega) (Nat.le_trans hNw2 (by simp)) _ rfl ?_; intro ga ca w7 hown7 hgrow hat hlt7)
        | fail)
      have hs2 : N ≤ (w2.alloc (.cells (cf num (.slice pa gs.length pc) o0 o1 o2 o3) 55)).heap.size := by have h1 := hWr.size; have h2 := HF.out; have h3 := HD.out; omega
      have hob : ∀ j, (Value.slice ma n mc).ownBlock = some j → N ≤ j := fun j hj => (HG.out.own.lt j hj).1
      have hBw : Below N w (w2.alloc (.cells (cf num (.slice pa gs.length pc) o0 o1 o2 o3) 55)) := by
        have h1 := HF.out.2.2.1
        have h2 : N ≤ WA.heap.size := by have := HF.out; omega
        exact (h1.trans (hB2.mono h2)).alloc (Nat.le_trans h2 hB2.size) _
      have hBG : Below N w w7 := below_grown hBw hgrow hob hs2
      have hkeep : ∀ (gv : Value) (ns : List Int), Il wr gv ns → (ns ≠ [] → ∃ k, gv.ownBlock = some k ∧ k < N) → Il w7 gv ns := fun gv ns h hlo => by
        by_cases hne : ns = []
        · subst hne
          obtain ⟨a, c, rfl⟩ := h.slice
          exact .inl ⟨rfl, a, c, rfl⟩
        · obtain ⟨k, hk, hkN⟩ := hlo hne
          refine Il_blk (h.next hWr) (fun j hj => hgrow.block j ?_ ?_) hgrow.size
          · rw [hk] at hj; injection hj with hj; subst hj; exact Nat.lt_of_lt_of_le hkN hs2
          · intro e; rw [hk] at hj; injection hj with hj; have := hob j e.symm; omega
      have hGS : Gc N w7 (.slice (some ⟨ga, 0, none⟩) (n + 1) ca) l (n + 1) (R ++ cfL num (.slice pa gs.length pc) o0 o1 o2 o3) := by
        refine ⟨hown7, fun i x hi hx => ?_⟩
        have hR : R.length = n * 6 := HG.out.own.1
        by_cases h1 : i < n
        · obtain ⟨gv', h2, h3, h4⟩ := HG.out.row i x h1 hx
          refine ⟨gv', hkeep _ _ h2 h3, h3, fun k u hu => ?_⟩
          have hk : k < 6 := by have := (Array.getElem?_eq_some_iff.1 hu).1; simpa using this
          rw [List.getElem?_append_left (by omega)]
          exact h4 k u hu
        · have : i = n := by omega
          subst this
          rw [HX.out.1] at hx; injection hx with hx; subst hx
          refine ⟨_, hkeep _ _ HX.out.2.1 HX.out.2.2, HX.out.2.2, fun k u hu => ?_⟩
          rw [List.getElem?_append_right (by omega), hR, show i * 6 + k - i * 6 = k by omega]
          rw [← hu]
          show (cfL num (.slice pa gs.length pc) o0 o1 o2 o3)[k]? = (cf num (.slice pa gs.length pc) o0 o1 o2 o3)[k]?
          simp
      go_roundg (l.length - (n + 1))
      case measure => have := HF.out; omega
      case rel => exact ⟨n + 1, _, by have := HF.out; omega, by go_num, hGS, hBG⟩
end Go.Proofs.Ytcehmaegnfelhaa
