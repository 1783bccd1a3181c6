/- Chains, the document's side: few, many, walked. -/
import Derived.Test.YtfolnlgceighbaaGreatDoorCdA
namespace Go.Proofs.YtfolnlgceighbaaGreatDoor
open Go.RowKit
attribute [local go_sem ↓] Go.wp_at_zero Go.wp_at_succ

theorem fewF_first (f : Nat → Nat) (g : Nat) (r : List Nat) : (g :: r).foldl (fewSt f) g = fewF f (g :: r) := by
  show r.foldl (fewSt f) (fewSt f g g) = r.foldl (fewSt f) g
  rw [show fewSt f g g = g by unfold fewSt; rw [if_neg (Nat.lt_irrefl _)]]
set_option maxRecDepth 20000 in
set_option maxHeartbeats 2000000 in
theorem rFew_any (num : Int) (gv : Value) (gs : List Nat) (a b c d : Nat) (w : World) (hu : Il w gv (zi gs)) (hl0 : 0 < gs.length) (hl : gs.length ≤ 1000) :
    Calls Tryz.prog 94 #[.agg (cf num gv a b c d)] w fun e W' => e = .returned (.int .i64 (fewF (cnt [a, b, c, d]) gs : Nat)) ∧ Below w.heap.size w W' := by
  have hb0 : Below w.heap.size w (w.alloc (.cells (cf num gv a b c d) 32)) := (Below.refl _ w).alloc (Nat.le_refl _) _
  have r0 := heap_alloc_new w (.cells (cf num gv a b c d) 32)
  obtain ⟨W0, hW0⟩ : ∃ W, w.alloc (.cells (cf num gv a b c d) 32) = W := ⟨_, rfl⟩
  have hu0 := hu.next hb0
  rw [hW0] at hb0 r0 hu0
  have hlt0 : w.heap.size < W0.heap.size := (Array.getElem?_eq_some_iff.1 r0).1
  have HV : Hid (w.alloc (.cells (cf num gv a b c d) 32) = W0) := hW0
  obtain ⟨pa, pc, hpv⟩ := hu.slice
  rw [zi_len] at hpv
  subst hpv
  obtain ⟨g0, hg0⟩ : ∃ g0, gs[0]? = some g0 := ⟨_, List.getElem?_eq_getElem hl0⟩
  have hil0 := hu0
  rw [← zi_len gs] at hil0
  obtain ⟨gb, go, hua, _, yy⟩ := hil0.at (zi_at gs 0 g0 hg0)
  subst hua
  have HCG : Hid (∀ W, Below W0.heap.size W0 W → ∀ (i n : Nat), gs[i]? = some n → W.cell? ⟨gb, go + i, none⟩ = some (.int .i64 n)) := fun W hW i n hn => by
    obtain ⟨b2, o2, e1, _, e2⟩ := (hil0.next hW).at (zi_at gs i n hn)
    injection e1 with e1
    injection e1 with e3 e4 _
    subst e3 e4
    exact e2
  have y0 : W0.cell? ⟨gb, go, none⟩ = some (.int .i64 g0) := by simpa using yy
  have HC0 : Hid (∀ W, Below W0.heap.size W0 W → W.heap[w.heap.size]? = some (.cells (cf num (.slice (some ⟨gb, go, none⟩) gs.length pc) a b c d) 32)) := fun W hW => (hW.block _ hlt0).trans r0
  have x1 := cellB r0 1 _ rfl
  have hLd := fun (g : Nat) W => rLoad_any num (.slice (some ⟨gb, go, none⟩) gs.length pc) ⟨_, _, _, rfl⟩ a b c d g W
  obtain ⟨f, hf⟩ : ∃ f, cnt [a, b, c, d] = f := ⟨_, rfl⟩
  rw [hf] at hLd ⊢
  have hf4 : ∀ x, f x ≤ 4 := fun x => by rw [← hf]; exact cnt_le _ _
  have hL1 : (0 : Int) < (gs.length : Int) := by omega
  obtain ⟨RES, hRES⟩ : ∃ RES, fewF f gs = RES := ⟨_, rfl⟩
  have HRES : Hid (gs.foldl (fewSt f) g0 = RES) := by
    show _ = _
    rw [← hRES]
    cases gs with
    | nil => simp at hl0
    | cons g r =>
      have : g = g0 := by simpa using hg0
      subst this
      exact fewF_first f g r
  rw [hRES]
  clear hW0 r0 hu hu0 hil0 hg0 hf hRES yy
  go_enter Tryz.func94, Tryz.ntmps94
  go_upto_region 1 with fail
  rw [HV.out]
  clear HV
  go_wp2_with fail
  clear x1 y0
  go_loopg [3, 13] gs.length (fun gk m i wr => ∃ k : Nat, k + gk = gs.length ∧ m = .int .i64 ((gs.take k).foldl (fewSt f) g0 : Nat) ∧ i = .int .i64 k ∧ Below W0.heap.size W0 wr)
  case atStart => exact ⟨0, by omega, rfl, rfl, Below.refl _ _⟩
  case round =>
    obtain ⟨k, hk, rfl, rfl, hB⟩ := hrel
    by_cases hlt : k < gs.length
    · obtain ⟨t, ht⟩ : ∃ t, gs[k]? = some t := ⟨_, List.getElem?_eq_getElem hlt⟩
      have z1 := HCG.out _ hB k t ht
      have htk : gs.take (k + 1) = gs.take k ++ [t] := by rw [List.take_add_one, ht]; rfl
      have hstep : (gs.take (k + 1)).foldl (fewSt f) g0 = fewSt f ((gs.take k).foldl (fewSt f) g0) t := by rw [htk, List.foldl_append]; rfl
      obtain ⟨m, hm⟩ : ∃ m, (gs.take k).foldl (fewSt f) g0 = m := ⟨_, rfl⟩
      rw [hm] at hstep
      rw [hm]
      have HST : Hid ((gs.take (k + 1)).foldl (fewSt f) g0 = fewSt f m t) := hstep
      have k0 : (0 : Int) ≤ (k : Int) := by omega
      have k1 : (k : Int) < (gs.length : Int) := by omega
      have gL : ∀ (x : Cw wr) (g : Nat), Calls Tryz.prog 15 #[.agg (cf num (.slice (some ⟨gb, go, none⟩) gs.length pc) a b c d), .int .i64 (g : Int)] x.w fun e w'' => e = .returned (.int .i64 (f g : Nat)) ∧ ∃ y : Cw wr, w'' = y.w := fun x g => growC (W0 := wr) (fun W _ => hLd g W) x
      have HC : Hid (∀ x : Cw wr, x.w.heap[w.heap.size]? = some (.cells (cf num (.slice (some ⟨gb, go, none⟩) gs.length pc) a b c d) 32)) := fun x => HC0.out _ (hB.trans (x.h.mono hB.size))
      have c0 : ∀ x : Cw wr, x.w.cell? ⟨w.heap.size, 0, none⟩ = some (.int .i64 num) := fun x => cellB (HC.out x) 0 _ rfl
      have c1 : ∀ x : Cw wr, x.w.cell? ⟨w.heap.size, 1, none⟩ = some (.slice (some ⟨gb, go, none⟩) gs.length pc) := fun x => cellB (HC.out x) 1 _ rfl
      have c2 : ∀ x : Cw wr, x.w.cell? ⟨w.heap.size, 2, none⟩ = some (.int .i64 a) := fun x => cellB (HC.out x) 2 _ rfl
      have c3 : ∀ x : Cw wr, x.w.cell? ⟨w.heap.size, 3, none⟩ = some (.int .i64 b) := fun x => cellB (HC.out x) 3 _ rfl
      have c4 : ∀ x : Cw wr, x.w.cell? ⟨w.heap.size, 4, none⟩ = some (.int .i64 c) := fun x => cellB (HC.out x) 4 _ rfl
      have c5 : ∀ x : Cw wr, x.w.cell? ⟨w.heap.size, 5, none⟩ = some (.int .i64 d) := fun x => cellB (HC.out x) 5 _ rfl
      have hne : Nonempty (Cw wr) := ⟨⟨wr, Below.refl _ _⟩⟩
      clear ht htk hstep hm
      by_cases hc : f t < f m
      · have hd : decide (f t < f m) = true := decide_eq_true hc
        have HT : Hid (fewSt f m t = t) := by show _ = _; unfold fewSt; rw [if_pos hc]
        clear hc
        go_upto_region 5 with fail
        clear z1
        refine wp_region_grow (W0 := wr) (by kernel_rfl) (by kernel_rfl) (Below.refl _ _) ?_
        repeat (quiet_step (first
          | (go_at_call 15; exact gL _ _)))
        refine wpQuiet_nil ?_
        rintro _ ⟨xx, rfl⟩
        clear c0 c1 c2 c3 c4 c5 gL
        go_wp2
        go_roundg (gs.length - (k + 1))
        case measure => omega
        case rel => exact ⟨k + 1, by omega, by rw [HST.out, HT.out], by go_num, hB.trans (xx.h.mono hB.size)⟩
      · have hd : decide (f t < f m) = false := decide_eq_false hc
        have HT : Hid (fewSt f m t = m) := by show _ = _; unfold fewSt; rw [if_neg hc]
        clear hc
        go_upto_region 5 with fail
        clear z1
        refine wp_region_grow (W0 := wr) (by kernel_rfl) (by kernel_rfl) (Below.refl _ _) ?_
        repeat (quiet_step (first
          | (go_at_call 15; exact gL _ _)))
        refine wpQuiet_nil ?_
        rintro _ ⟨xx, rfl⟩
        clear c0 c1 c2 c3 c4 c5 gL
        go_wp2
        go_roundg (gs.length - (k + 1))
        case measure => omega
        case rel => exact ⟨k + 1, by omega, by rw [HST.out, HT.out], by go_num, hB.trans (xx.h.mono hB.size)⟩
    · have hkl : k = gs.length := by omega
      subst hkl
      rw [List.take_length, HRES.out]
      go_wp2
      go_ret
      exact ⟨rfl, hb0.trans (hB.mono hb0.size)⟩
theorem manyF_first (f : Nat → Nat) (g : Nat) (r : List Nat) : (g :: r).foldl (manySt f) g = manyF f (g :: r) := by
  show r.foldl (manySt f) (manySt f g g) = r.foldl (manySt f) g
  rw [show manySt f g g = g by unfold manySt; rw [if_neg (Nat.lt_irrefl _)]]
set_option maxRecDepth 20000 in
set_option maxHeartbeats 2000000 in
theorem rMany_any (num : Int) (gv : Value) (gs : List Nat) (a b c d : Nat) (w : World) (hu : Il w gv (zi gs)) (hl0 : 0 < gs.length) (hl : gs.length ≤ 1000) :
    Calls Tryz.prog 95 #[.agg (cf num gv a b c d)] w fun e W' => e = .returned (.int .i64 (manyF (cnt [a, b, c, d]) gs : Nat)) ∧ Below w.heap.size w W' := by
  have hb0 : Below w.heap.size w (w.alloc (.cells (cf num gv a b c d) 32)) := (Below.refl _ w).alloc (Nat.le_refl _) _
  have r0 := heap_alloc_new w (.cells (cf num gv a b c d) 32)
  obtain ⟨W0, hW0⟩ : ∃ W, w.alloc (.cells (cf num gv a b c d) 32) = W := ⟨_, rfl⟩
  have hu0 := hu.next hb0
  rw [hW0] at hb0 r0 hu0
  have hlt0 : w.heap.size < W0.heap.size := (Array.getElem?_eq_some_iff.1 r0).1
  have HV : Hid (w.alloc (.cells (cf num gv a b c d) 32) = W0) := hW0
  obtain ⟨pa, pc, hpv⟩ := hu.slice
  rw [zi_len] at hpv
  subst hpv
  obtain ⟨g0, hg0⟩ : ∃ g0, gs[0]? = some g0 := ⟨_, List.getElem?_eq_getElem hl0⟩
  have hil0 := hu0
  rw [← zi_len gs] at hil0
  obtain ⟨gb, go, hua, _, yy⟩ := hil0.at (zi_at gs 0 g0 hg0)
  subst hua
  have HCG : Hid (∀ W, Below W0.heap.size W0 W → ∀ (i n : Nat), gs[i]? = some n → W.cell? ⟨gb, go + i, none⟩ = some (.int .i64 n)) := fun W hW i n hn => by
    obtain ⟨b2, o2, e1, _, e2⟩ := (hil0.next hW).at (zi_at gs i n hn)
    injection e1 with e1
    injection e1 with e3 e4 _
    subst e3 e4
    exact e2
  have y0 : W0.cell? ⟨gb, go, none⟩ = some (.int .i64 g0) := by simpa using yy
  have HC0 : Hid (∀ W, Below W0.heap.size W0 W → W.heap[w.heap.size]? = some (.cells (cf num (.slice (some ⟨gb, go, none⟩) gs.length pc) a b c d) 32)) := fun W hW => (hW.block _ hlt0).trans r0
  have x1 := cellB r0 1 _ rfl
  have hLd := fun (g : Nat) W => rLoad_any num (.slice (some ⟨gb, go, none⟩) gs.length pc) ⟨_, _, _, rfl⟩ a b c d g W
  obtain ⟨f, hf⟩ : ∃ f, cnt [a, b, c, d] = f := ⟨_, rfl⟩
  rw [hf] at hLd ⊢
  have hf4 : ∀ x, f x ≤ 4 := fun x => by rw [← hf]; exact cnt_le _ _
  have hL1 : (0 : Int) < (gs.length : Int) := by omega
  obtain ⟨RES, hRES⟩ : ∃ RES, manyF f gs = RES := ⟨_, rfl⟩
  have HRES : Hid (gs.foldl (manySt f) g0 = RES) := by
    show _ = _
    rw [← hRES]
    cases gs with
    | nil => simp at hl0
    | cons g r =>
      have : g = g0 := by simpa using hg0
      subst this
      exact manyF_first f g r
  rw [hRES]
  clear hW0 r0 hu hu0 hil0 hg0 hf hRES yy
  go_enter Tryz.func95, Tryz.ntmps95
  go_upto_region 1 with fail
  rw [HV.out]
  clear HV
  go_wp2_with fail
  clear x1 y0
  go_loopg [3, 13] gs.length (fun gk m i wr => ∃ k : Nat, k + gk = gs.length ∧ m = .int .i64 ((gs.take k).foldl (manySt f) g0 : Nat) ∧ i = .int .i64 k ∧ Below W0.heap.size W0 wr)
  case atStart => exact ⟨0, by omega, rfl, rfl, Below.refl _ _⟩
  case round =>
    obtain ⟨k, hk, rfl, rfl, hB⟩ := hrel
    by_cases hlt : k < gs.length
    · obtain ⟨t, ht⟩ : ∃ t, gs[k]? = some t := ⟨_, List.getElem?_eq_getElem hlt⟩
      have z1 := HCG.out _ hB k t ht
      have htk : gs.take (k + 1) = gs.take k ++ [t] := by rw [List.take_add_one, ht]; rfl
      have hstep : (gs.take (k + 1)).foldl (manySt f) g0 = manySt f ((gs.take k).foldl (manySt f) g0) t := by rw [htk, List.foldl_append]; rfl
      obtain ⟨m, hm⟩ : ∃ m, (gs.take k).foldl (manySt f) g0 = m := ⟨_, rfl⟩
      rw [hm] at hstep
      rw [hm]
      have HST : Hid ((gs.take (k + 1)).foldl (manySt f) g0 = manySt f m t) := hstep
      have k0 : (0 : Int) ≤ (k : Int) := by omega
      have k1 : (k : Int) < (gs.length : Int) := by omega
      have gL : ∀ (x : Cw wr) (g : Nat), Calls Tryz.prog 15 #[.agg (cf num (.slice (some ⟨gb, go, none⟩) gs.length pc) a b c d), .int .i64 (g : Int)] x.w fun e w'' => e = .returned (.int .i64 (f g : Nat)) ∧ ∃ y : Cw wr, w'' = y.w := fun x g => growC (W0 := wr) (fun W _ => hLd g W) x
      have HC : Hid (∀ x : Cw wr, x.w.heap[w.heap.size]? = some (.cells (cf num (.slice (some ⟨gb, go, none⟩) gs.length pc) a b c d) 32)) := fun x => HC0.out _ (hB.trans (x.h.mono hB.size))
      have c0 : ∀ x : Cw wr, x.w.cell? ⟨w.heap.size, 0, none⟩ = some (.int .i64 num) := fun x => cellB (HC.out x) 0 _ rfl
      have c1 : ∀ x : Cw wr, x.w.cell? ⟨w.heap.size, 1, none⟩ = some (.slice (some ⟨gb, go, none⟩) gs.length pc) := fun x => cellB (HC.out x) 1 _ rfl
      have c2 : ∀ x : Cw wr, x.w.cell? ⟨w.heap.size, 2, none⟩ = some (.int .i64 a) := fun x => cellB (HC.out x) 2 _ rfl
      have c3 : ∀ x : Cw wr, x.w.cell? ⟨w.heap.size, 3, none⟩ = some (.int .i64 b) := fun x => cellB (HC.out x) 3 _ rfl
      have c4 : ∀ x : Cw wr, x.w.cell? ⟨w.heap.size, 4, none⟩ = some (.int .i64 c) := fun x => cellB (HC.out x) 4 _ rfl
      have c5 : ∀ x : Cw wr, x.w.cell? ⟨w.heap.size, 5, none⟩ = some (.int .i64 d) := fun x => cellB (HC.out x) 5 _ rfl
      have hne : Nonempty (Cw wr) := ⟨⟨wr, Below.refl _ _⟩⟩
      clear ht htk hstep hm
      by_cases hc : f m < f t
      · have hd : decide (f m < f t) = true := decide_eq_true hc
        have HT : Hid (manySt f m t = t) := by show _ = _; unfold manySt; rw [if_pos hc]
        clear hc
        go_upto_region 5 with fail
        clear z1
        refine wp_region_grow (W0 := wr) (by kernel_rfl) (by kernel_rfl) (Below.refl _ _) ?_
        repeat (quiet_step (first
          | (go_at_call 15; exact gL _ _)))
        refine wpQuiet_nil ?_
        rintro _ ⟨xx, rfl⟩
        clear c0 c1 c2 c3 c4 c5 gL
        go_wp2
        go_roundg (gs.length - (k + 1))
        case measure => omega
        case rel => exact ⟨k + 1, by omega, by rw [HST.out, HT.out], by go_num, hB.trans (xx.h.mono hB.size)⟩
      · have hd : decide (f m < f t) = false := decide_eq_false hc
        have HT : Hid (manySt f m t = m) := by show _ = _; unfold manySt; rw [if_neg hc]
        clear hc
        go_upto_region 5 with fail
        clear z1
        refine wp_region_grow (W0 := wr) (by kernel_rfl) (by kernel_rfl) (Below.refl _ _) ?_
        repeat (quiet_step (first
          | (go_at_call 15; exact gL _ _)))
        refine wpQuiet_nil ?_
        rintro _ ⟨xx, rfl⟩
        clear c0 c1 c2 c3 c4 c5 gL
        go_wp2
        go_roundg (gs.length - (k + 1))
        case measure => omega
        case rel => exact ⟨k + 1, by omega, by rw [HST.out, HT.out], by go_num, hB.trans (xx.h.mono hB.size)⟩
    · have hkl : k = gs.length := by omega
      subst hkl
      rw [List.take_length, HRES.out]
      go_wp2
      go_ret
      exact ⟨rfl, hb0.trans (hB.mono hb0.size)⟩
end Go.Proofs.YtfolnlgceighbaaGreatDoor
