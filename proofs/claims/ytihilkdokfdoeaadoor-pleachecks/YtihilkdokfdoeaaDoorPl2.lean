/- The document's look at parts, walked; parts that were copied. -/
import Derived.Test.YtihilkdokfdoeaaDoorPc1
import Derived.Test.YtihilkdokfdoeaaDoorPlH
import Derived.Test.YtihilkdokfdoeaaDoorPl1
import Derived.Test.YtihilkdokfdoeaaDoorPlB
import Derived.Test.YtihilkdokfdoeaaDoorPlI
import Derived.Test.YtihilkdokfdoeaaDoorPlC
namespace Go.Proofs.YtihilkdokfdoeaaDoor
section
open Go.RowKit Go.Maps
attribute [local go_sem ↓] Go.wp_at_zero Go.wp_at_succ

/-- Parts that were copied. -/
structure RG (pc : Nat → List Cl) (pp : Nat → List Pt) (N : Nat) (w : World) (x : Value) (U V : Nat → Value) (s : Nat) (W : World) : Prop where
  row : W.ownsRow N 39 2 x s ((List.range s).flatMap fun i => [U i, V i])
  cs : ∀ i, i < s → SlF ccs 10 W (U i) (pc i)
  ps : ∀ i, i < s → SlF pks 5 W (V i) (pp i)
  ap : ∀ i, i < s → ∀ q, (U i).ownBlock = some q ∨ (V i).ownBlock = some q → q < W.heap.size ∧ x.ownBlock ≠ some q
  below : Below N w W
theorem RG.on {pc : Nat → List Cl} {pp : Nat → List Pt} {N : Nat} {w : World} {x : Value} {U V : Nat → Value} {s : Nat} {W W' : World} (h : RG pc pp N w x U V s W) (hb : Below W.heap.size W W') (hN : N ≤ W.heap.size) : RG pc pp N w x U V s W' :=
  ⟨owns_keep h.row fun q e => hb.block q (h.row.lt q e).2, fun i hi => (h.cs i hi).on hb (Nat.le_refl _), fun i hi => (h.ps i hi).on hb (Nat.le_refl _), fun i hi q hq => ⟨Nat.lt_of_lt_of_le (h.ap i hi q hq).1 hb.size, (h.ap i hi q hq).2⟩, h.below.trans (hb.mono hN)⟩
theorem RG.app {pc : Nat → List Cl} {pp : Nat → List Pt} {N : Nat} {w : World} {x : Value} {U V : Nat → Value} {s : Nat} {W W2 W3 : World} (h : RG pc pp N w x U V s W) (hb : Below W.heap.size W W2) (hN : N ≤ W.heap.size) {X Y : Value} {g cap : Nat}
    (h1 : W3.ownsRow N 39 2 (.slice (some ⟨g, 0, none⟩) (s + 1) cap) (s + 1) (((List.range s).flatMap fun i => [U i, V i]) ++ [X, Y])) (h2 : W2.grownBy W3 x.ownBlock) (h3 : x.ownBlock = some g ∨ g = W2.heap.size)
    (hX : SlF ccs 10 W2 X (pc s)) (hY : SlF pks 5 W2 Y (pp s)) (hq : ∀ q, X.ownBlock = some q ∨ Y.ownBlock = some q → q < W2.heap.size ∧ W.heap.size ≤ q) :
    RG pc pp N w (.slice (some ⟨g, 0, none⟩) (s + 1) cap) (updF U s X) (updF V s Y) (s + 1) W3 := by
  have hs := hb.size
  have hs2 := h2.size
  have hxl : ∀ q, x.ownBlock = some q → q < W.heap.size := fun q e => (h.row.lt q e).2
  have hg : ∀ q, q < W2.heap.size → x.ownBlock ≠ some q → ¬ g = q := fun q hq1 hq2 e => by
    subst e
    rcases h3 with h3 | h3
    · exact hq2 h3
    · omega
  refine ⟨?_, fun i hi => ?_, fun i hi => ?_, fun i hi q hqq => ?_, ?_⟩
  · have e : ((List.range (s + 1)).flatMap fun i => [updF U s X i, updF V s Y i]) = ((List.range s).flatMap fun i => [U i, V i]) ++ [X, Y] := by
      rw [List.range_succ, List.flatMap_append]
      congr 1
      · rw [List.flatMap_def, List.flatMap_def]
        congr 1
        refine List.map_congr_left fun i hi => ?_
        have : i < s := List.mem_range.1 hi
        unfold updF
        rw [if_neg (by omega), if_neg (by omega)]
      · simp [updF]
    rw [e]
    exact h1
  · unfold updF
    by_cases e : i = s
    · subst e
      rw [if_pos rfl]
      exact hX.keep hs2 fun q hq1 hq2 => h2.block q hq2 (fun e => by have := hxl q e.symm; have := (hq q (.inl hq1)).2; omega)
    · rw [if_neg e]
      refine (h.cs i (by omega)).keep (by omega) fun q hq1 hq2 => ?_
      exact (h2.block q (by omega) (fun e => (h.ap i (by omega) q (.inl hq1)).2 e.symm)).trans (hb.block q hq2)
  · unfold updF
    by_cases e : i = s
    · subst e
      rw [if_pos rfl]
      exact hY.keep hs2 fun q hq1 hq2 => h2.block q hq2 (fun e => by have := hxl q e.symm; have := (hq q (.inr hq1)).2; omega)
    · rw [if_neg e]
      refine (h.ps i (by omega)).keep (by omega) fun q hq1 hq2 => ?_
      exact (h2.block q (by omega) (fun e => (h.ap i (by omega) q (.inr hq1)).2 e.symm)).trans (hb.block q hq2)
  · unfold updF at hqq
    by_cases e : i = s
    · subst e
      rw [if_pos rfl, if_pos rfl] at hqq
      have h4 := hq q hqq
      refine ⟨by omega, fun e => hg q h4.1 (fun e2 => by have := hxl q e2; omega) (by simpa [Value.ownBlock] using e)⟩
    · rw [if_neg e, if_neg e] at hqq
      have h4 := h.ap i (by omega) q hqq
      refine ⟨by omega, fun e => hg q (by omega) h4.2 (by simpa [Value.ownBlock] using e)⟩
  · exact (h.below.trans (hb.mono hN)).grown h2 (by omega) (fun z hz => (h.row.lt z hz).1)

theorem plF_at {g : Nat → Int} {n i : Nat} (hi : i < n) (h : ∀ j, j < i → g j = 0) (hg : g i ≠ 0) : plF g n = ((i : Int), g i) := by
  induction n with
  | zero => omega
  | succ n ih =>
    rw [plF]
    by_cases e : i = n
    · subst e
      rw [if_pos ⟨plF_zero.2 h, hg⟩]
    · have h2 := ih (by omega)
      rw [h2, if_neg (fun h' => hg h'.1)]
theorem plF_none {g : Nat → Int} : ∀ {n : Nat}, (∀ j, j < n → g j = 0) → plF g n = (0, 0)
  | 0, _ => rfl
  | n + 1, h => by
    rw [plF, if_neg (fun h' => h'.2 (h n (by omega))), plF_none fun j hj => h j (by omega)]
set_option maxRecDepth 20000 in
set_option maxHeartbeats 3000000 in
theorem rCheck27_any (pc : Nat → List Cl) (pp : Nat → List Pt) (n : Nat) (a : Option Addr) (cap : Nat) (w : World) (h : PSl w a pc pp n) (hn : n ≤ 100000) (hl : ∀ i, i < n → (pc i).length ≤ 150 ∧ (pp i).length ≤ 150) :
    Calls Tryd.prog 16 #[.slice a n cap] w fun e W' => e = .returned (.tuple #[.agg #[.int .i64 (plF (gOf pc pp) n).2, .int .i64 (plF (gOf pc pp) n).1], .int .i64 0]) ∧ Below w.heap.size w W' := by
  obtain ⟨g, hg⟩ : ∃ g, gOf pc pp = g := ⟨_, rfl⟩
  rw [hg]
  obtain ⟨N, hN⟩ : ∃ N, w.heap.size = N := ⟨_, rfl⟩
  have r1 := heap_alloc_new w (.cells #[.int .i64 0, .int .i64 0] 60)
  have hb1 := (Below.refl w.heap.size w).alloc (Nat.le_refl _) (.cells #[.int .i64 0, .int .i64 0] 60)
  obtain ⟨W1, hW1⟩ : ∃ W, w.alloc (.cells #[.int .i64 0, .int .i64 0] 60) = W := ⟨_, rfl⟩
  rw [hW1, hN] at r1 hb1
  have HW1 : Hid (W1.heap[N]? = some (.cells #[.int .i64 0, .int .i64 0] 60) ∧ Below N w W1 ∧ W1.heap.size = N + 1) := ⟨r1, hb1, by rw [← hW1, World.size_alloc, hN]⟩
  have HWE : Hid (w.alloc (.cells #[.int .i64 0, .int .i64 0] 60) = W1) := hW1
  have HN : Hid (w.heap.size = N) := hN
  have HV : Hid (∀ W, Below N w W → PSl W a pc pp n) := fun W hW => h.on hW (by omega)
  have HG : Hid (∀ i, g i = (chkG (pc i) (pp i)).1) := fun i => by rw [← hg]; rfl
  have HL : Hid (n ≤ 100000 ∧ ∀ i, i < n → (pc i).length ≤ 150 ∧ (pp i).length ≤ 150) := ⟨hn, hl⟩
  clear hN h hg hn hl r1 hb1 hW1
  go_enter Tryd.func16, Tryd.ntmps16
  go_upto_region 1 with fail
  rw [HWE.out]
  try rw [HN.out]
  go_wp2_with fail
  go_loopg [14] n (fun gk j wr => ∃ i : Nat, i + gk = n ∧ j = .int .i64 i ∧ Below (N + 1) W1 wr)
  case atStart => exact ⟨0, by omega, rfl, Below.refl _ _⟩
  case round =>
    obtain ⟨i, hii, rfl, hB⟩ := hrel
    by_cases hi1 : i = n
    · subst hi1
      have HB0 : Hid (Below (N + 1) W1 wr) := hB
      clear hB
      go_wp2_with fail
      go_loopg [33] i (fun gk j wr => ∃ m : Nat, m + gk = i ∧ j = .int .i64 m ∧ (∀ k, k < m → g k = 0) ∧ Below (N + 1) W1 wr)
      case atStart => exact ⟨0, by omega, rfl, fun k hk => by omega, HB0.out⟩
      case round =>
        obtain ⟨m, hmm, rfl, hZ, hB⟩ := hrel
        by_cases hm1 : m = i
        · subst hm1
          have hP := plF_none hZ
          have HP : Hid (plF g m = (0, 0)) := hP
          have hres := (hB.block N (by omega)).trans HW1.out.1
          have a0 := cellB hres 0 _ rfl
          have a1 := cellB hres 1 _ rfl
          have f0 := frozenB hres 0
          have f1 := frozenB hres 1
          have hS := set2h hres (.int .i64 0) (.int .i64 0)
          have r0 := cellB hS 0 _ rfl
          have r1 := cellB hS 1 _ rfl
          have HR : Hid (_) := And.intro r0 r1
          have HBR : Hid (_) := HW1.out.2.1.trans (hB.mono (Nat.le_succ N))
          clear hres hS r0 r1
          clear hZ hB hP HV HG HL HB0
          go_wp2
          obtain ⟨r0, r1⟩ := HR.out
          refine bodyPost_ret (v := .tuple #[.agg #[.int .i64 0, .int .i64 0], .int .i64 0]) (by simp [results, Tryd.f16, go_sem, r0, r1]) rfl ⟨by rw [HP.out], ?_⟩
          rw [HN.out]
          exact (HBR.out.setCell (p := ⟨N, 0, none⟩) (Nat.le_refl _) _).setCell (p := ⟨N, 1, none⟩) (Nat.le_refl _) _
        · have hZm := @plF_at g i m (by omega) hZ
          have hZn : g m = 0 → ∀ k, k < m + 1 → g k = 0 := fun e k hk => by
            by_cases ek : k = m
            · subst ek; exact e
            · exact hZ k (by omega)
          have hi2 : m < i := by omega
          obtain ⟨b, o, u, v, rfl, hbl, c0, c1, hu, hv⟩ := HV.out wr (HW1.out.2.1.trans (hB.mono (by omega))) m hi2
          obtain ⟨ua, uc, rfl⟩ := hu.slice
          obtain ⟨va, vc, rfl⟩ := hv.slice
          have hl := HL.out.2 m hi2
          have d0 : (0 : Int) ≤ (m : Int) := by omega
          have d1 : (m : Int) < (i : Int) := by omega
          have hib : m ≤ 100000 := by have := HL.out.1; omega
          obtain ⟨cn, hcn⟩ : ∃ k, (pc m).length = k := ⟨_, rfl⟩
          obtain ⟨pn, hpn⟩ : ∃ k, (pp m).length = k := ⟨_, rfl⟩
          obtain ⟨D, hD⟩ : ∃ D, wr.heap.size = D := ⟨_, rfl⟩
          have hDN : N + 1 ≤ D := by have := hB.size; have := HW1.out.2.2; omega
          have rD := heap_alloc_new wr (.cells #[.slice ua cn uc, .slice va pn vc] 39)
          have hbA := (Below.refl wr.heap.size wr).alloc (Nat.le_refl _) (.cells #[.slice ua cn uc, .slice va pn vc] 39)
          obtain ⟨WA, hWA⟩ : ∃ W, wr.alloc (.cells #[.slice ua cn uc, .slice va pn vc] 39) = W := ⟨_, rfl⟩
          rw [hWA] at rD hbA
          have hu2 := hu.on hbA (Nat.le_refl _)
          have hv2 := hv.on hbA (Nat.le_refl _)
          rw [hD] at rD hbA
          have hBA : Below (N + 1) W1 WA := hB.trans (hbA.mono hDN)
          have hzA : WA.heap.size = D + 1 := by rw [← hWA, World.size_alloc, hD]
          have hC := rCheck24_any (pc m) (pp m) _ _ WA hu2 hv2 hl.1 hl.2
          rw [hcn, hpn] at hC
          rw [hcn] at c0
          rw [hpn] at c1
          rw [← HG.out m] at hC
          obtain ⟨G, hG⟩ : ∃ G, g m = G := ⟨_, rfl⟩
          obtain ⟨G2, hG2⟩ : ∃ G, (chkG (pc m) (pp m)).2 = G := ⟨_, rfl⟩
          rw [hG, hG2] at hC
          have HC : Hid (Calls Tryd.prog 20 #[.slice ua cn uc, .slice va pn vc] WA fun e W' => e = .returned (.tuple #[.agg #[.int .i64 G, .int .i64 G2], .int .i64 0]) ∧ Below (N + 1) W1 W' ∧ N + 1 ≤ W'.heap.size) := hC.mono fun e W' hh => ⟨hh.1, hBA.trans (hh.2.mono (by omega)), by have := hh.2.size; omega⟩
          have HWA : Hid (wr.alloc (.cells #[.slice ua cn uc, .slice va pn vc] 39) = WA) := hWA
          have HD : Hid (wr.heap.size = D) := hD
          have x0 := cellB rD 0 _ rfl
          have x1 := cellB rD 1 _ rfl
          rw [hG] at hZm hZn
          have HZ : Hid ((¬ G = 0 → plF g i = ((m : Int), G)) ∧ (G = 0 → ∀ k, k < m + 1 → g k = 0)) := ⟨hZm, hZn⟩
          clear hB hZ hZm hZn hbl hu hv hl hcn hpn hD hDN rD hbA hWA hu2 hv2 hBA hzA hC hG hG2 HB0
          go_upto_region 11 with fail
          rw [HWA.out]
          try rw [HD.out]
          clear c0 c1 HWA HD
          go_upto_region 12 with (go_at_call 20; refine HC.out.mono ?_; clear HC x0 x1; rintro e1 w1 ⟨rfl, hb1, hs1⟩)
          have rG := heap_alloc_new w1 (.cells #[.int .i64 G, .int .i64 G2] 60)
          have hbG : Below (N + 1) W1 (w1.alloc (.cells #[.int .i64 G, .int .i64 G2] 60)) := hb1.alloc hs1 _
          obtain ⟨X, hX⟩ : ∃ X, w1.heap.size = X := ⟨_, rfl⟩
          obtain ⟨W6, hW6⟩ : ∃ W, w1.alloc (.cells #[.int .i64 G, .int .i64 G2] 60) = W := ⟨_, rfl⟩
          rw [hW6] at rG hbG ⊢
          rw [hX] at rG
          try rw [hX]
          have y0 := cellB rG 0 _ rfl
          clear hb1 hs1 rG hX hW6
          by_cases g0 : G = 0
          · subst g0
            have HZ2 : Hid (_) := HZ.out.2 rfl
            have HB6 : Hid (_) := hbG
            clear HZ hbG
            go_wp2_with fail
            go_roundg (i - (m + 1))
            case measure => omega
            case rel => exact ⟨m + 1, by omega, by go_num, HZ2.out, HB6.out⟩
          · have g1 : (G == 0) = false := by simpa using g0
            have HP : Hid (plF g i = ((m : Int), G)) := HZ.out.1 g0
            have hres := (hbG.block N (by omega)).trans HW1.out.1
            have a0 := cellB hres 0 _ rfl
            have a1 := cellB hres 1 _ rfl
            have f0 := frozenB hres 0
            have f1 := frozenB hres 1
            have hS := set2h hres (.int .i64 G) (.int .i64 (m : Int))
            have r0 := cellB hS 0 _ rfl
            have r1 := cellB hS 1 _ rfl
            have HR : Hid (_) := And.intro r0 r1
            have HBR : Hid (_) := HW1.out.2.1.trans (hbG.mono (Nat.le_succ N))
            clear hres hS r0 r1
            clear HZ hbG g0 HV HG HL
            go_wp2
            obtain ⟨r0, r1⟩ := HR.out
            refine bodyPost_ret (v := .tuple #[.agg #[.int .i64 G, .int .i64 (m : Int)], .int .i64 0]) (by simp [results, Tryd.f16, go_sem, r0, r1]) rfl ⟨by rw [HP.out], ?_⟩
            rw [HN.out]
            exact (HBR.out.setCell (p := ⟨N, 0, none⟩) (Nat.le_refl _) _).setCell (p := ⟨N, 1, none⟩) (Nat.le_refl _) _
    · have hi2 : i < n := by omega
      obtain ⟨b, o, u, v, rfl, hbl, c0, c1, hu, hv⟩ := HV.out wr (HW1.out.2.1.trans (hB.mono (by omega))) i hi2
      obtain ⟨ua, uc, rfl⟩ := hu.slice
      obtain ⟨va, vc, rfl⟩ := hv.slice
      have hl := HL.out.2 i hi2
      have d0 : (0 : Int) ≤ (i : Int) := by omega
      have d1 : (i : Int) < (n : Int) := by omega
      have hib : i ≤ 100000 := by have := HL.out.1; omega
      obtain ⟨cn, hcn⟩ : ∃ k, (pc i).length = k := ⟨_, rfl⟩
      obtain ⟨pn, hpn⟩ : ∃ k, (pp i).length = k := ⟨_, rfl⟩
      obtain ⟨D, hD⟩ : ∃ D, wr.heap.size = D := ⟨_, rfl⟩
      have hDN : N + 1 ≤ D := by have := hB.size; have := HW1.out.2.2; omega
      have rD := heap_alloc_new wr (.cells #[.slice ua cn uc, .slice va pn vc] 39)
      have hbA := (Below.refl wr.heap.size wr).alloc (Nat.le_refl _) (.cells #[.slice ua cn uc, .slice va pn vc] 39)
      obtain ⟨WA, hWA⟩ : ∃ W, wr.alloc (.cells #[.slice ua cn uc, .slice va pn vc] 39) = W := ⟨_, rfl⟩
      rw [hWA] at rD hbA
      have hu2 := hu.on hbA (Nat.le_refl _)
      have hv2 := hv.on hbA (Nat.le_refl _)
      rw [hD] at rD hbA
      have hBA : Below (N + 1) W1 WA := hB.trans (hbA.mono hDN)
      have hzA : WA.heap.size = D + 1 := by rw [← hWA, World.size_alloc, hD]
      have hC := rCheck24_any (pc i) (pp i) _ _ WA hu2 hv2 hl.1 hl.2
      rw [hcn, hpn] at hC
      rw [hcn] at c0
      rw [hpn] at c1
      rw [← HG.out i] at hC
      obtain ⟨G, hG⟩ : ∃ G, g i = G := ⟨_, rfl⟩
      obtain ⟨G2, hG2⟩ : ∃ G, (chkG (pc i) (pp i)).2 = G := ⟨_, rfl⟩
      rw [hG, hG2] at hC
      have HC : Hid (Calls Tryd.prog 20 #[.slice ua cn uc, .slice va pn vc] WA fun e W' => e = .returned (.tuple #[.agg #[.int .i64 G, .int .i64 G2], .int .i64 0]) ∧ Below (N + 1) W1 W' ∧ N + 1 ≤ W'.heap.size) := hC.mono fun e W' hh => ⟨hh.1, hBA.trans (hh.2.mono (by omega)), by have := hh.2.size; omega⟩
      have HWA : Hid (wr.alloc (.cells #[.slice ua cn uc, .slice va pn vc] 39) = WA) := hWA
      have HD : Hid (wr.heap.size = D) := hD
      have x0 := cellB rD 0 _ rfl
      have x1 := cellB rD 1 _ rfl
      clear hB hbl hu hv hl hcn hpn hD hDN rD hbA hWA hu2 hv2 hBA hzA hC hG hG2
      go_upto_region 4 with fail
      rw [HWA.out]
      try rw [HD.out]
      clear c0 c1 HWA HD
      go_wp2_with (go_at_call 20; refine HC.out.mono ?_; clear HC x0 x1; rintro e1 w1 ⟨rfl, hb1, hs1⟩)
      have HB6 : Hid (Below (N + 1) W1 (w1.alloc (.cells #[.int .i64 G, .int .i64 G2] 60))) := hb1.alloc hs1 _
      clear hb1 hs1
      go_roundg (n - (i + 1))
      case measure => omega
      case rel => exact ⟨i + 1, by omega, by go_num, HB6.out⟩
end
section
open Go.RowKit Go.Maps
attribute [local go_sem ↓] Go.wp_at_zero Go.wp_at_succ

set_option maxRecDepth 20000 in
set_option maxHeartbeats 1500000 in
theorem calls2_any (l : List Cl) (v : Value) (w : World) (hv : SlF ccs 10 w v l) (hl : l.length ≤ 100000) : Calls Tryd.prog 11 #[v] w fun e W' => ∃ u, e = .returned u ∧ SlF ccs 10 W' u l ∧ (∀ q, u.ownBlock = some q → q < W'.heap.size ∧ w.heap.size ≤ q) ∧ Below w.heap.size w W' := by
  obtain ⟨va, vc, rfl⟩ := hv.slice
  obtain ⟨i0, hi, hz0, hz1, hz2⟩ := info_parts Tryd.info45
  obtain ⟨N, hN⟩ : ∃ N, w.heap.size = N := ⟨_, rfl⟩
  have HN : Hid (w.heap.size = N) := hN
  have HV : Hid (∀ W, Below N w W → SlF ccs 10 W (.slice va l.length vc) l) := fun W hW => hv.on hW (by omega)
  have HL : Hid (l.length ≤ 100000) := hl
  clear hv hN hl
  go_enter Tryd.func11, Tryd.ntmps11
  go_wp2_with fail
  go_loopg [3, 8] l.length (fun gk x j wr => ∃ n : Nat, n + gk = l.length ∧ j = .int .i64 n ∧ wr.ownsRow N 45 10 x (l.take n).length ((l.take n).flatMap ccs) ∧ Below N w wr)
  case atStart => exact ⟨0, by omega, rfl, World.ownsRow_nil _ _ _ _, by rw [← HN.out]; exact Below.refl _ _⟩
  case round =>
    obtain ⟨n, hnn, rfl, hown, hB⟩ := hrel
    obtain ⟨xa, xc, rfl⟩ := owns_slice hown
    by_cases hn1 : n = l.length
    · subst hn1
      rw [List.take_length] at hown ⊢
      have HO : Hid (_ ∧ _) := ⟨hown, hB⟩
      clear hown hB HV
      go_wp2
      go_ret
      exact ⟨_, rfl, SlF.of_owns (fun _ => rfl) HO.out.1, fun q e => by have := HO.out.1.lt q e; rw [HN.out]; exact ⟨this.2, this.1⟩, by rw [HN.out]; exact HO.out.2⟩
    have hn2 : n < l.length := by omega
    obtain ⟨p, ho⟩ : ∃ p, l[n]? = some p := ⟨_, List.getElem?_eq_getElem hn2⟩
    have htk := take_snoc ho
    have hlen : (l.take n).length = n := by rw [List.length_take]; omega
    obtain ⟨A, hA⟩ : ∃ A, l.take n = A := ⟨_, rfl⟩
    rw [hA] at htk hown hlen ⊢
    obtain ⟨g, e', hg', -, y⟩ := (HV.out _ hB).at ho
    cases hg'
    obtain ⟨cl, no, ⟨kind, k, v, od⟩, fr, tt, T, E⟩ := p
    have y0 : wr.cell? ⟨g, e' + n * 10, none⟩ = some (.int .i64 cl) := y 0 _ rfl
    have y1 : wr.cell? ⟨g, e' + n * 10 + 1, none⟩ = some (.int .i64 no) := y 1 _ rfl
    have y2 : wr.cell? ⟨g, e' + n * 10 + 2, none⟩ = some (.int .i64 kind) := y 2 _ rfl
    have y3 : wr.cell? ⟨g, e' + n * 10 + 3, none⟩ = some (.string (bs k)) := y 3 _ rfl
    have y4 : wr.cell? ⟨g, e' + n * 10 + 4, none⟩ = some (.string (bs v)) := y 4 _ rfl
    have y5 : wr.cell? ⟨g, e' + n * 10 + 5, none⟩ = some (.string (bs od)) := y 5 _ rfl
    have y6 : wr.cell? ⟨g, e' + n * 10 + 6, none⟩ = some (.int .i64 fr) := y 6 _ rfl
    have y7 : wr.cell? ⟨g, e' + n * 10 + 7, none⟩ = some (.int .i64 tt) := y 7 _ rfl
    have y8 : wr.cell? ⟨g, e' + n * 10 + 8, none⟩ = some (.int .i64 E) := y 8 _ rfl
    have y9 : wr.cell? ⟨g, e' + n * 10 + 9, none⟩ = some (.string (bs T)) := y 9 _ rfl
    have d0 : (0 : Int) ≤ (n : Int) := by omega
    have d1 : (n : Int) < (l.length : Int) := by omega
    obtain ⟨D, hD⟩ : ∃ D, wr.heap.size = D := ⟨_, rfl⟩
    have hND : N ≤ D := by have := hB.size; have := HN.out; omega
    have rD := heap_alloc_new wr (.cells #[.int .i64 cl, .int .i64 no, .int .i64 kind, .string (bs k), .string (bs v), .string (bs od), .int .i64 fr, .int .i64 tt, .int .i64 E, .string (bs T)] 51)
    have hbA := (Below.refl wr.heap.size wr).alloc (Nat.le_refl _) (.cells #[.int .i64 cl, .int .i64 no, .int .i64 kind, .string (bs k), .string (bs v), .string (bs od), .int .i64 fr, .int .i64 tt, .int .i64 E, .string (bs T)] 51)
    obtain ⟨WA, hWA⟩ : ∃ W, wr.alloc (.cells #[.int .i64 cl, .int .i64 no, .int .i64 kind, .string (bs k), .string (bs v), .string (bs od), .int .i64 fr, .int .i64 tt, .int .i64 E, .string (bs T)] 51) = W := ⟨_, rfl⟩
    rw [hWA] at rD hbA
    rw [hD] at rD hbA
    have hownA := owns_keep hown (w' := WA) fun q e => hbA.block q (by have := (hown.lt q e).2; omega)
    have hzA : WA.heap.size = D + 1 := by rw [← hWA, World.size_alloc, hD]
    have x0 := cellB rD 0 _ rfl
    have x1 := cellB rD 1 _ rfl
    have x2 := cellB rD 2 _ rfl
    have x3 := cellB rD 3 _ rfl
    have x4 := cellB rD 4 _ rfl
    have x5 := cellB rD 5 _ rfl
    have x6 := cellB rD 6 _ rfl
    have x7 := cellB rD 7 _ rfl
    have x8 := cellB rD 8 _ rfl
    have x9 := cellB rD 9 _ rfl
    have HC : Hid (Calls Tryd.prog 13 #[.agg #[.int .i64 cl, .int .i64 no, .int .i64 kind, .string (bs k), .string (bs v), .string (bs od), .int .i64 fr, .int .i64 tt, .int .i64 E, .string (bs T)]] WA fun e W' => e = .returned (.agg #[.int .i64 cl, .int .i64 no, .int .i64 kind, .string (bs k), .string (bs v), .string (bs od), .int .i64 fr, .int .i64 tt, .int .i64 E, .string (bs T)]) ∧ W'.ownsRow N 45 10 (.slice xa A.length xc) A.length (A.flatMap ccs) ∧ Below N w W' ∧ N ≤ W'.heap.size) := (call_any cl no kind k v od fr tt E T WA).mono fun e W' hh => ⟨hh.1, owns_keep hownA fun q e => hh.2.block q (by have := (hown.lt q e).2; omega), (hB.trans (hbA.mono hND)).trans (hh.2.mono (by omega)), by have := hh.2.size; omega⟩
    have HWA : Hid (wr.alloc (.cells #[.int .i64 cl, .int .i64 no, .int .i64 kind, .string (bs k), .string (bs v), .string (bs od), .int .i64 fr, .int .i64 tt, .int .i64 E, .string (bs T)] 51) = WA) := hWA
    have HD : Hid (wr.heap.size = D) := hD
    have HTk : Hid (l.take (n + 1) = A ++ [⟨cl, no, ⟨kind, k, v, od⟩, fr, tt, (T, E)⟩] ∧ A.length = n) := ⟨htk, hlen⟩
    have hnb : n ≤ 100000 := by have := HL.out; omega
    have hml : A.length + 1 ≤ maxLen := by unfold maxLen; have := HL.out; omega
    have hkb : (A.length + 1) * 112 ≤ 140737488355328 := by have := HL.out; omega
    clear htk hlen hA y hD hND hbA hWA rD hownA hown hB ho hzA
    go_upto_region 5 with fail
    rw [HWA.out]
    try rw [HD.out]
    clear y0 y1 y2 y3 y4 y5 y6 y7 y8 y9
    go_wp2_with (first
      | (go_at_call 13; refine HC.out.mono ?_; clear HC; rintro e W3 ⟨rfl, hown, hB3, hN3⟩; have hN4 : N ≤ (W3.alloc (.cells #[.int .i64 cl, .int .i64 no, .int .i64 kind, .string (bs k), .string (bs v), .string (bs od), .int .i64 fr, .int .i64 tt, .int .i64 E, .string (bs T)] 45)).heap.size := by (rw [World.size_alloc]; omega))
      | (at_builtin; refine wpList_append_lies _ rfl _ _ 32 rfl N 45 i0 (.agg #[.int .i64 0, .int .i64 0, .int .i64 0, .string ⟨#[]⟩, .string ⟨#[]⟩, .string ⟨#[]⟩, .int .i64 0, .int .i64 0, .int .i64 0, .string ⟨#[]⟩]) 10 112 Tryd.underlying32 hi hz0 hz1 hz2 rfl (by decide) (.slice xa A.length xc) A.length _ rfl (hown.alloc _) _ 1 1 [.int .i64 cl, .int .i64 no, .int .i64 kind, .string (bs k), .string (bs v), .string (bs od), .int .i64 fr, .int .i64 tt, .int .i64 E, .string (bs T)] rfl rfl (World.news_of_block (heap_alloc_new _ _)) (by simp [Value.oneCell']) (by decide) hml hkb hN4 _ rfl ?_; intro ga ca w6 g1 g2 g3 g4))
    have HF : Hid (w6.ownsRow N 45 10 (.slice (some ⟨ga, 0, none⟩) (A.length + 1) ca) (A.length + 1) (A.flatMap ccs ++ [.int .i64 cl, .int .i64 no, .int .i64 kind, .string (bs k), .string (bs v), .string (bs od), .int .i64 fr, .int .i64 tt, .int .i64 E, .string (bs T)]) ∧ Below N w w6) := ⟨g1, (hB3.alloc hN3 _).grown g2 hN4 (fun z hz => (hown.lt z hz).1)⟩
    clear g1 g2 g3 g4 hown hB3 hN3 hN4
    go_roundg (l.length - (n + 1))
    case measure => omega
    case rel => exact ⟨n + 1, by omega, by go_num, by rw [HTk.out.1, List.length_append, List.flatMap_append]; exact HF.out.1, HF.out.2⟩
set_option maxRecDepth 20000 in
set_option maxHeartbeats 1500000 in
theorem points2_any (l : List Pt) (v : Value) (w : World) (hv : SlF pks 5 w v l) (hl : l.length ≤ 100000) : Calls Tryd.prog 12 #[v] w fun e W' => ∃ u, e = .returned u ∧ SlF pks 5 W' u l ∧ (∀ q, u.ownBlock = some q → q < W'.heap.size ∧ w.heap.size ≤ q) ∧ Below w.heap.size w W' := by
  obtain ⟨va, vc, rfl⟩ := hv.slice
  obtain ⟨i0, hi, hz0, hz1, hz2⟩ := info_parts Tryd.info53
  obtain ⟨N, hN⟩ : ∃ N, w.heap.size = N := ⟨_, rfl⟩
  have HN : Hid (w.heap.size = N) := hN
  have HV : Hid (∀ W, Below N w W → SlF pks 5 W (.slice va l.length vc) l) := fun W hW => hv.on hW (by omega)
  have HL : Hid (l.length ≤ 100000) := hl
  clear hv hN hl
  go_enter Tryd.func12, Tryd.ntmps12
  go_wp2_with fail
  go_loopg [3, 8] l.length (fun gk x j wr => ∃ n : Nat, n + gk = l.length ∧ j = .int .i64 n ∧ wr.ownsRow N 53 5 x (l.take n).length ((l.take n).flatMap pks) ∧ Below N w wr)
  case atStart => exact ⟨0, by omega, rfl, World.ownsRow_nil _ _ _ _, by rw [← HN.out]; exact Below.refl _ _⟩
  case round =>
    obtain ⟨n, hnn, rfl, hown, hB⟩ := hrel
    obtain ⟨xa, xc, rfl⟩ := owns_slice hown
    by_cases hn1 : n = l.length
    · subst hn1
      rw [List.take_length] at hown ⊢
      have HO : Hid (_ ∧ _) := ⟨hown, hB⟩
      clear hown hB HV
      go_wp2
      go_ret
      exact ⟨_, rfl, SlF.of_owns (fun _ => rfl) HO.out.1, fun q e => by have := HO.out.1.lt q e; rw [HN.out]; exact ⟨this.2, this.1⟩, by rw [HN.out]; exact HO.out.2⟩
    have hn2 : n < l.length := by omega
    obtain ⟨p, ho⟩ : ∃ p, l[n]? = some p := ⟨_, List.getElem?_eq_getElem hn2⟩
    have htk := take_snoc ho
    have hlen : (l.take n).length = n := by rw [List.length_take]; omega
    obtain ⟨A, hA⟩ : ∃ A, l.take n = A := ⟨_, rfl⟩
    rw [hA] at htk hown hlen ⊢
    obtain ⟨g, e', hg', -, y⟩ := (HV.out _ hB).at ho
    cases hg'
    obtain ⟨tm, pcl, pno, pT, pE⟩ := p
    have y0 : wr.cell? ⟨g, e' + n * 5, none⟩ = some (.int .i64 tm) := y 0 _ rfl
    have y1 : wr.cell? ⟨g, e' + n * 5 + 1, none⟩ = some (.int .i64 pcl) := y 1 _ rfl
    have y2 : wr.cell? ⟨g, e' + n * 5 + 2, none⟩ = some (.int .i64 pno) := y 2 _ rfl
    have y3 : wr.cell? ⟨g, e' + n * 5 + 3, none⟩ = some (.int .i64 pE) := y 3 _ rfl
    have y4 : wr.cell? ⟨g, e' + n * 5 + 4, none⟩ = some (.string (bs pT)) := y 4 _ rfl
    have d0 : (0 : Int) ≤ (n : Int) := by omega
    have d1 : (n : Int) < (l.length : Int) := by omega
    obtain ⟨D, hD⟩ : ∃ D, wr.heap.size = D := ⟨_, rfl⟩
    have hND : N ≤ D := by have := hB.size; have := HN.out; omega
    have rD := heap_alloc_new wr (.cells #[.int .i64 tm, .int .i64 pcl, .int .i64 pno, .int .i64 pE, .string (bs pT)] 56)
    have hbA := (Below.refl wr.heap.size wr).alloc (Nat.le_refl _) (.cells #[.int .i64 tm, .int .i64 pcl, .int .i64 pno, .int .i64 pE, .string (bs pT)] 56)
    obtain ⟨WA, hWA⟩ : ∃ W, wr.alloc (.cells #[.int .i64 tm, .int .i64 pcl, .int .i64 pno, .int .i64 pE, .string (bs pT)] 56) = W := ⟨_, rfl⟩
    rw [hWA] at rD hbA
    rw [hD] at rD hbA
    have hownA := owns_keep hown (w' := WA) fun q e => hbA.block q (by have := (hown.lt q e).2; omega)
    have hzA : WA.heap.size = D + 1 := by rw [← hWA, World.size_alloc, hD]
    have x0 := cellB rD 0 _ rfl
    have x1 := cellB rD 1 _ rfl
    have x2 := cellB rD 2 _ rfl
    have x3 := cellB rD 3 _ rfl
    have x4 := cellB rD 4 _ rfl
    have HC : Hid (Calls Tryd.prog 14 #[.agg #[.int .i64 tm, .int .i64 pcl, .int .i64 pno, .int .i64 pE, .string (bs pT)]] WA fun e W' => e = .returned (.agg #[.int .i64 tm, .int .i64 pcl, .int .i64 pno, .int .i64 pE, .string (bs pT)]) ∧ W'.ownsRow N 53 5 (.slice xa A.length xc) A.length (A.flatMap pks) ∧ Below N w W' ∧ N ≤ W'.heap.size) := (point_any tm pcl pno pE pT WA).mono fun e W' hh => ⟨hh.1, owns_keep hownA fun q e => hh.2.block q (by have := (hown.lt q e).2; omega), (hB.trans (hbA.mono hND)).trans (hh.2.mono (by omega)), by have := hh.2.size; omega⟩
    have HWA : Hid (wr.alloc (.cells #[.int .i64 tm, .int .i64 pcl, .int .i64 pno, .int .i64 pE, .string (bs pT)] 56) = WA) := hWA
    have HD : Hid (wr.heap.size = D) := hD
    have HTk : Hid (l.take (n + 1) = A ++ [⟨tm, pcl, pno, (pT, pE)⟩] ∧ A.length = n) := ⟨htk, hlen⟩
    have hnb : n ≤ 100000 := by have := HL.out; omega
    have hml : A.length + 1 ≤ maxLen := by unfold maxLen; have := HL.out; omega
    have hkb : (A.length + 1) * 48 ≤ 140737488355328 := by have := HL.out; omega
    clear htk hlen hA y hD hND hbA hWA rD hownA hown hB ho hzA
    go_upto_region 5 with fail
    rw [HWA.out]
    try rw [HD.out]
    clear y0 y1 y2 y3 y4
    go_wp2_with (first
      | (go_at_call 14; refine HC.out.mono ?_; clear HC; rintro e W3 ⟨rfl, hown, hB3, hN3⟩; have hN4 : N ≤ (W3.alloc (.cells #[.int .i64 tm, .int .i64 pcl, .int .i64 pno, .int .i64 pE, .string (bs pT)] 53)).heap.size := by (rw [World.size_alloc]; omega))
      | (at_builtin; refine wpList_append_lies _ rfl _ _ 34 rfl N 53 i0 (.agg #[.int .i64 0, .int .i64 0, .int .i64 0, .int .i64 0, .string ⟨#[]⟩]) 5 48 Tryd.underlying34 hi hz0 hz1 hz2 rfl (by decide) (.slice xa A.length xc) A.length _ rfl (hown.alloc _) _ 1 1 [.int .i64 tm, .int .i64 pcl, .int .i64 pno, .int .i64 pE, .string (bs pT)] rfl rfl (World.news_of_block (heap_alloc_new _ _)) (by simp [Value.oneCell']) (by decide) hml hkb hN4 _ rfl ?_; intro ga ca w6 g1 g2 g3 g4))
    have HF : Hid (w6.ownsRow N 53 5 (.slice (some ⟨ga, 0, none⟩) (A.length + 1) ca) (A.length + 1) (A.flatMap pks ++ [.int .i64 tm, .int .i64 pcl, .int .i64 pno, .int .i64 pE, .string (bs pT)]) ∧ Below N w w6) := ⟨g1, (hB3.alloc hN3 _).grown g2 hN4 (fun z hz => (hown.lt z hz).1)⟩
    clear g1 g2 g3 g4 hown hB3 hN3 hN4
    go_roundg (l.length - (n + 1))
    case measure => omega
    case rel => exact ⟨n + 1, by omega, by go_num, by rw [HTk.out.1, List.length_append, List.flatMap_append]; exact HF.out.1, HF.out.2⟩
end
section
open Go.RowKit Go.Maps
attribute [local go_sem ↓] Go.wp_at_zero Go.wp_at_succ

theorem Tryd.info39 : (Tryd.prog.info? 39).map (fun i => (i.zero, i.size, i.bytes)) = some (some (.agg #[.slice none 0 0, .slice none 0 0]), 2, 48) := by kernel_rfl
theorem SlF.at_len3 {α : Type} {f : α → List Value} {s : Nat} {w : World} {a : Option Addr} {m c : Nat} {l : List α} (h : SlF f s w (.slice a m c) l) {i : Nat} {x : α} (hx : l[i]? = some x) :
    ∃ b o, a = some ⟨b, o, none⟩ ∧ b < w.heap.size ∧ ∀ k u, (f x)[k]? = some u → w.cell? ⟨b, o + i * s + k, none⟩ = some u := by
  obtain ⟨a', c', e⟩ := h.slice
  injection e with e1 e2 e3
  subst e1; subst e2; subst e3
  exact h.at hx
theorem RG.psl {pc : Nat → List Cl} {pp : Nat → List Pt} {N : Nat} {w : World} {a : Option Addr} {c n : Nat} {U V : Nat → Value} {W : World} (h : RG pc pp N w (.slice a n c) U V n W) : PSl W a pc pp n := fun i hi => by
  have h3 : SlF (fun i => [U i, V i]) 2 W (.slice a n c) (List.range n) := by
    have h4 := SlF.of_owns (f := fun i => [U i, V i]) (s := 2) (l := List.range n) (base := N) (e := 39) (v := .slice a n c) (w := W) (fun _ => rfl) (by rw [List.length_range]; exact h.row)
    exact h4
  obtain ⟨b, o, e, hb, y⟩ := h3.at_len3 (i := i) (x := i) (by rw [List.getElem?_range hi])
  exact ⟨b, o, _, _, e, hb, y 0 _ rfl, y 1 _ rfl, h.cs i hi, h.ps i hi⟩
set_option maxRecDepth 20000 in
set_option maxHeartbeats 4000000 in
theorem checks27_any (pc : Nat → List Cl) (pp : Nat → List Pt) (n : Nat) (a : Option Addr) (cap : Nat) (w : World) (h : PSl w a pc pp n) (hw : ∀ i, i < n → (∀ c ∈ pc i, wfK (ck c)) ∧ (∀ q ∈ pp i, wfK (pk2 q)) ∧ (∀ c ∈ pc i, c.op.k.length ≤ 140737488351232) ∧ (pc i).length ≤ 3000000000000) (he : EnvK w) :
    Calls Tryd.prog 4 #[.slice a n cap] w fun e W' => e = .returned (.bool true) ∧ Below w.heap.size w W' := by
  obtain ⟨N, hN⟩ : ∃ N, w.heap.size = N := ⟨_, rfl⟩
  have HP : Hid (∀ W, Below N w W → Calls Tryd.prog 8 #[] W fun e W' => e = .returned (.bool true) ∧ Below N w W') := fun W hW => (parts_any W (he.below hW (by have := he.size; omega))).mono fun e W' hh => ⟨hh.1, hW.trans (hh.2.mono (by have := hW.size; omega))⟩
  have HN : Hid (w.heap.size = N) := hN
  by_cases hn : 12 < n
  · have d1 : (12 : Int) < (n : Int) := by omega
    have hP := HP.out w (by rw [← hN]; exact Below.refl _ _)
    clear h hw he hN hn HP
    go_enter Tryd.func4, Tryd.ntmps4
    go_wp2_with (go_at_call 8; refine hP.mono ?_; clear hP; rintro e w2 ⟨rfl, hb2⟩)
    go_ret
    exact ⟨rfl, by rw [HN.out]; exact hb2⟩
  have d1 : ¬ (12 : Int) < (n : Int) := by omega
  have hn12 : n ≤ 12 := by omega
  obtain ⟨i2, hi2⟩ := info_parts Tryd.info39
  have HI2 : Hid (_) := hi2
  obtain ⟨F, hF⟩ : ∃ F, plF (gOf pc pp) n = F := ⟨_, rfl⟩
  obtain ⟨F1, F2⟩ := F
  have HV : Hid (∀ W, Below N w W → PSl W a pc pp n ∧ EnvK W) := fun W hW => ⟨h.on hW (by omega), he.below hW (by have := he.size; omega)⟩
  have HW : Hid (∀ i, i < n → (∀ c ∈ pc i, wfK (ck c)) ∧ (∀ q ∈ pp i, wfK (pk2 q)) ∧ (∀ c ∈ pc i, c.op.k.length ≤ 140737488351232) ∧ (pc i).length ≤ 3000000000000) := hw
  have h15 : (∀ k, k < n → lgB (pc k) (pp k).length = false) → ∀ W, Below N w W → Calls Tryd.prog 15 #[.slice a n cap] W fun e W' => e = .returned (.tuple #[.int .i64 F1, .int .i64 F2, .int .i64 0]) ∧ Below W.heap.size W W' ∧ Below N w W' := fun hlg W hW => by
    have h2 := Check27_any pc pp n a cap W (h.on hW (by omega)) (by omega) (fun i hi => ⟨by have := (lgB_no (hlg i hi)).1; omega, by have := (lgB_no (hlg i hi)).2.1; omega, (hw i hi).1, (hw i hi).2.1⟩) (he.below hW (by have := he.size; omega))
    rw [hF] at h2
    exact h2.mono fun e W' hh => ⟨hh.1, hh.2, hW.trans (hh.2.mono (by have := hW.size; omega))⟩
  have h16 : (∀ k, k < n → lgB (pc k) (pp k).length = false) → ∀ W xa xc, Below N w W → PSl W xa pc pp n → Calls Tryd.prog 16 #[.slice xa n xc] W fun e W' => e = .returned (.tuple #[.agg #[.int .i64 F2, .int .i64 F1], .int .i64 0]) ∧ Below N w W' := fun hlg W xa xc hW hx => by
    have h2 := rCheck27_any pc pp n xa xc W hx (by omega) (fun i hi => ⟨by have := (lgB_no (hlg i hi)).1; omega, by have := (lgB_no (hlg i hi)).2.1; omega⟩)
    rw [hF] at h2
    exact h2.mono fun e W' hh => ⟨hh.1, hW.trans (hh.2.mono (by have := hW.size; omega))⟩
  have HCH : Hid (_ ∧ _) := And.intro h15 h16
  clear h15 h16
  clear h hw he hN hn hi2 hF
  go_enter Tryd.func4, Tryd.ntmps4
  go_wp2_with fail
  go_loopg [3, 17] n (fun gk x j wr => ∃ (i : Nat) (U V : Nat → Value), i + gk = n ∧ j = .int .i64 i ∧ RG pc pp N w x U V i wr ∧ N ≤ wr.heap.size ∧ (∀ k, k < i → lgB (pc k) (pp k).length = false))
  case atStart => exact ⟨0, fun _ => .slice none 0 0, fun _ => .slice none 0 0, by omega, rfl, ⟨World.ownsRow_nil _ _ _ _, fun i hi => (by omega), fun i hi => (by omega), fun i hi => (by omega), by rw [← HN.out]; exact Below.refl _ _⟩, by rw [HN.out]; exact Nat.le_refl _, fun k hk => by omega⟩
  case round =>
    obtain ⟨i, U, V, hii, rfl, hR, hNl, hlg⟩ := hrel
    obtain ⟨xa, xc, rfl⟩ := owns_slice hR.row
    by_cases hi1 : i = n
    · subst hi1
      have hc1 := HCH.out.1 hlg
      have hc2 := HCH.out.2 hlg
      have h1 := hc1 wr hR.below
      have HPS : Hid (PSl wr xa pc pp i ∧ Below N w wr) := ⟨hR.psl, hR.below⟩
      have HC2 : Hid (_) := hc2
      clear HCH HV HW hR hNl hlg hc1 hc2
      go_upto_region 12 with (go_at_call 15; refine h1.mono ?_; clear h1; rintro e w2 ⟨rfl, hb12, hb2⟩)
      have h2 := HC2.out w2 xa xc hb2 (HPS.out.1.on hb12 (Nat.le_refl _))
      clear hb12
      go_upto_region 13 with (go_at_call 16; refine h2.mono ?_; clear h2; rintro e w3 ⟨rfl, hb3⟩)
      have rG := heap_alloc_new w3 (.cells #[.int .i64 F2, .int .i64 F1] 60)
      have hb6 : Below N w (w3.alloc (.cells #[.int .i64 F2, .int .i64 F1] 60)) := hb3.alloc (by have := hb3.size; have := HN.out; omega) _
      obtain ⟨X, hX⟩ : ∃ X, w3.heap.size = X := ⟨_, rfl⟩
      obtain ⟨W6, hW6⟩ : ∃ W, w3.alloc (.cells #[.int .i64 F2, .int .i64 F1] 60) = W := ⟨_, rfl⟩
      rw [hW6] at rG hb6 ⊢
      rw [hX] at rG
      try rw [hX]
      have y0 := cellB rG 0 _ rfl
      have y1 := cellB rG 1 _ rfl
      have hP := HP.out W6 hb6
      clear rG hb6 hX hW6 hb3 hb2 HC2 HPS
      go_wp2_with (go_at_call 8; refine hP.mono ?_; clear hP; rintro e w7 ⟨rfl, hb7⟩)
      go_ret
      exact ⟨rfl, by rw [HN.out]; exact hb7⟩
    · have hi3 : i < n := by omega
      obtain ⟨b, o, u, v, hab, hbl, c0, c1, hu, hv⟩ := (HV.out wr hR.below).1 i hi3
      obtain ⟨ua, uc, rfl⟩ := hu.slice
      obtain ⟨va, vc, rfl⟩ := hv.slice
      subst hab
      have hwi := HW.out i hi3
      have e0 : (0 : Int) ≤ (i : Int) := by omega
      have e1 : (i : Int) < (n : Int) := by omega
      obtain ⟨D, hD⟩ : ∃ D, wr.heap.size = D := ⟨_, rfl⟩
      have rD := heap_alloc_new wr (.cells #[.slice ua (pc i).length uc, .slice va (pp i).length vc] 37)
      have hbA := (Below.refl wr.heap.size wr).alloc (Nat.le_refl _) (.cells #[.slice ua (pc i).length uc, .slice va (pp i).length vc] 37)
      obtain ⟨WA, hWA⟩ : ∃ W, wr.alloc (.cells #[.slice ua (pc i).length uc, .slice va (pp i).length vc] 37) = W := ⟨_, rfl⟩
      rw [hWA] at rD hbA
      have hu2 := hu.on hbA (Nat.le_refl _)
      have hv2 := hv.on hbA (Nat.le_refl _)
      have hRA := hR.on hbA hNl
      have HXD : Hid (∀ q, (Value.slice xa i xc).ownBlock = some q → q < D) := fun q e => by rw [← hD]; exact (hR.row.lt q e).2
      rw [hD] at rD hbA
      have hzA : WA.heap.size = D + 1 := by rw [← hWA, World.size_alloc, hD]
      have hLg := large_any (pc i) _ va (pp i).length vc WA hu2 hwi.2.2.1 hwi.2.2.2
      have HWA : Hid (wr.alloc (.cells #[.slice ua (pc i).length uc, .slice va (pp i).length vc] 37) = WA) := hWA
      have HD : Hid (wr.heap.size = D) := hD
      have HUV : Hid (SlF ccs 10 WA (.slice ua (pc i).length uc) (pc i) ∧ SlF pks 5 WA (.slice va (pp i).length vc) (pp i) ∧ RG pc pp N w (.slice xa i xc) U V i WA ∧ N ≤ D ∧ WA.heap.size = D + 1 ∧ WA.heap[D]? = some (.cells #[.slice ua (pc i).length uc, .slice va (pp i).length vc] 37)) := ⟨hu2, hv2, hRA, by omega, hzA, rD⟩
      have HLK : Hid (∀ k, k < i → lgB (pc k) (pp k).length = false) := hlg
      obtain ⟨cn, hcn⟩ : ∃ k, (pc i).length = k := ⟨_, rfl⟩
      obtain ⟨pn, hpn⟩ : ∃ k, (pp i).length = k := ⟨_, rfl⟩
      have HCN : Hid ((pc i).length = cn ∧ (pp i).length = pn) := ⟨hcn, hpn⟩
      rw [hcn] at c0 HWA rD hLg
      rw [hpn] at c1 HWA rD hLg
      rw [hcn, hpn] at HUV
      have x0 := cellB rD 0 _ rfl
      have x1 := cellB rD 1 _ rfl
      cases hlb : lgB (pc i) pn with
      | true =>
        rw [hlb] at hLg
        have HLG1 : Hid (Calls Tryd.prog 7 #[.slice ua cn uc, .slice va pn vc] WA fun e W' => e = .returned (.bool true) ∧ Below N w W') := hLg.mono fun e W' hh => ⟨hh.1, hRA.below.trans (hh.2.mono (by omega))⟩
        clear hR hNl hlg hu hv hwi hbl hD rD hbA hWA hu2 hv2 hRA hzA hLg hcn hpn hlb HCH HV HW
        go_upto_region 7 with fail
        rw [HWA.out]
        try rw [HD.out]
        clear c0 c1 HWA HD
        go_upto_region 8 with (go_at_call 7; refine HLG1.out.mono ?_; clear HLG1 x0 x1; rintro e w1 ⟨rfl, hb1⟩)
        have hP := HP.out w1 hb1
        clear hb1
        go_wp2_with (go_at_call 8; refine hP.mono ?_; clear hP; rintro e w2 ⟨rfl, hb2⟩)
        go_ret
        exact ⟨rfl, by rw [HN.out]; exact hb2⟩
      | false =>
        rw [hlb] at hLg
        have HLG : Hid (∀ k, k < i + 1 → lgB (pc k) (pp k).length = false) := fun k hk => by
          by_cases ek : k = i
          · subst ek; rw [hpn]; exact hlb
          · exact HLK.out k (by omega)
        have h80 := lgB_no hlb
        have HLG1 : Hid (Calls Tryd.prog 7 #[.slice ua cn uc, .slice va pn vc] WA fun e W' => e = .returned (.bool false) ∧ Below WA.heap.size WA W') := hLg
        have H80 : Hid ((pc i).length ≤ 80 ∧ (pp i).length ≤ 80) := ⟨h80.1, by rw [hpn]; exact h80.2.1⟩
        clear hR hNl hlg hu hv hwi hbl hD rD hbA hWA hu2 hv2 hRA hzA hLg hcn hpn hlb h80 HCH HV HW HP
        go_upto_region 7 with fail
        rw [HWA.out]
        try rw [HD.out]
        clear c0 c1 HWA HD
        go_upto_region 9 with (go_at_call 7; refine HLG1.out.mono ?_; clear HLG1 x0 x1; rintro e w1 ⟨rfl, hb1⟩)
        have hs1 := hb1.size
        have hN1 : N ≤ w1.heap.size := by have := HUV.out.2.2.2; omega
        have hR1 := HUV.out.2.2.1.on hb1 (by have := HUV.out.2.2.2; omega)
        have HW1 : Hid (w1.heap[D]? = some (.cells #[.slice ua cn uc, .slice va pn vc] 37) ∧ D < w1.heap.size ∧ N ≤ w1.heap.size) := ⟨(hb1.block D (by have := HUV.out.2.2.2.2.1; omega)).trans HUV.out.2.2.2.2.2, by have := HUV.out.2.2.2.2.1; omega, hN1⟩
        have HRS : Hid (∀ W2 W3 X Y g cap, Below w1.heap.size w1 W2 → W3.ownsRow N 39 2 (.slice (some ⟨g, 0, none⟩) (i + 1) cap) (i + 1) (((List.range i).flatMap fun i => [U i, V i]) ++ [X, Y]) → W2.grownBy W3 (Value.slice xa i xc).ownBlock → ((Value.slice xa i xc).ownBlock = some g ∨ g = W2.heap.size) → SlF ccs 10 W2 X (pc i) → SlF pks 5 W2 Y (pp i) → (∀ q, X.ownBlock = some q ∨ Y.ownBlock = some q → q < W2.heap.size ∧ w1.heap.size ≤ q) → RG pc pp N w (.slice (some ⟨g, 0, none⟩) (i + 1) cap) (updF U i X) (updF V i Y) (i + 1) W3) := fun W2 W3 X Y g cap h1 h2 h3 h4 h5 h6 h7 => hR1.app h1 hN1 h2 h3 h4 h5 h6 h7
        have HRO : Hid (∀ W, Below w1.heap.size w1 W → W.ownsRow N 39 2 (.slice xa i xc) i ((List.range i).flatMap fun i => [U i, V i])) := fun W hW => owns_keep hR1.row fun q e => hW.block q (hR1.row.lt q e).2
        have HC1 : Hid (∀ W, Below w1.heap.size w1 W → Calls Tryd.prog 11 #[.slice ua cn uc] W fun e W' => ∃ u, e = .returned u ∧ SlF ccs 10 W' u (pc i) ∧ (∀ q, u.ownBlock = some q → q < W'.heap.size ∧ w1.heap.size ≤ q) ∧ Below w1.heap.size w1 W') := fun W hW => by
          have hsl := HUV.out.1.on (hb1.trans (hW.mono hs1)) (Nat.le_refl _)
          refine (calls2_any (pc i) _ W hsl (by have := H80.out.1; omega)).mono fun e W' hh => ?_
          obtain ⟨u, h1, h2, h3, h4⟩ := hh
          have := hW.size
          exact ⟨u, h1, h2, fun q e => ⟨(h3 q e).1, by have := (h3 q e).2; omega⟩, hW.trans (h4.mono this)⟩
        have HC2 : Hid (∀ W, Below w1.heap.size w1 W → Calls Tryd.prog 12 #[.slice va pn vc] W fun e W' => ∃ u, e = .returned u ∧ SlF pks 5 W' u (pp i) ∧ (∀ q, u.ownBlock = some q → q < W'.heap.size ∧ W.heap.size ≤ q) ∧ Below W.heap.size W W' ∧ Below w1.heap.size w1 W') := fun W hW => by
          have hsl := HUV.out.2.1.on (hb1.trans (hW.mono hs1)) (Nat.le_refl _)
          refine (points2_any (pp i) _ W hsl (by have := H80.out.2; omega)).mono fun e W' hh => ?_
          obtain ⟨u, h1, h2, h3, h4⟩ := hh
          have := hW.size
          exact ⟨u, h1, h2, h3, h4, hW.trans (h4.mono this)⟩
        clear hs1 hN1 hR1 hb1 HUV HLK
        refine region_Z 99 (fun W => W.heap[D]? = some (.cells #[.slice ua cn uc, .slice va pn vc] 37)) (by kernel_rfl) ?_
        have hS0 : w1.drew.heap[D]? = some (.cells #[.slice ua cn uc, .slice va pn vc] 37) := HW1.out.1
        refine Y_take (i := 0) (v := ?_) rfl (by kernel_rfl) (by kernel_rfl) (by kernel_rfl) (by kernel_rfl) (fun _ _ _ h => h) (by rfl) hS0 ?_ ?_
        rotate_left
        · (intro w' hSw; have p0 := cellB hSw 0 _ rfl; have p1 := cellB hSw 1 _ rfl; (try go_simp); (try with_reducible rfl))
        simp only [Act.put, List.setIfInBounds_toArray, List.getElem_toArray, List.getElem_cons_zero, List.set_cons_succ, List.set_cons_zero]
        refine Y_take (i := 1) (v := ?_) rfl (by kernel_rfl) (by kernel_rfl) (by kernel_rfl) (by kernel_rfl) (fun _ _ _ h => h) (by rfl) hS0 ?_ ?_
        rotate_left
        · (intro w' hSw; have p0 := cellB hSw 0 _ rfl; have p1 := cellB hSw 1 _ rfl; (try go_simp); (try with_reducible rfl))
        simp only [Act.put, List.setIfInBounds_toArray, List.getElem_toArray, List.getElem_cons_succ, List.getElem_cons_zero, List.set_cons_succ, List.set_cons_zero]
        refine Y_take (i := 2) (v := ?_) rfl (by kernel_rfl) (by kernel_rfl) (by kernel_rfl) (by kernel_rfl) (fun _ _ _ h => h) (by rfl) hS0 ?_ ?_
        rotate_left
        · (intro w' hSw; have p0 := cellB hSw 0 _ rfl; have p1 := cellB hSw 1 _ rfl; (try go_simp); (try with_reducible rfl))
        simp only [Act.put, List.setIfInBounds_toArray, List.getElem_toArray, List.getElem_cons_succ, List.getElem_cons_zero, List.set_cons_succ, List.set_cons_zero]
        refine Y_take (i := 4) (v := ?_) rfl (by kernel_rfl) (by kernel_rfl) (by kernel_rfl) (by kernel_rfl) (fun _ _ _ h => h) (by rfl) hS0 ?_ ?_
        rotate_left
        · (intro w' hSw; have p0 := cellB hSw 0 _ rfl; have p1 := cellB hSw 1 _ rfl; (try go_simp); (try with_reducible rfl))
        simp only [Act.put, List.setIfInBounds_toArray, List.getElem_toArray, List.getElem_cons_succ, List.getElem_cons_zero, List.set_cons_succ, List.set_cons_zero]
        refine Y_take (i := 5) (v := ?_) rfl (by kernel_rfl) (by kernel_rfl) (by kernel_rfl) (by kernel_rfl) (fun _ _ _ h => h) (by rfl) hS0 ?_ ?_
        rotate_left
        · (intro w' hSw; have p0 := cellB hSw 0 _ rfl; have p1 := cellB hSw 1 _ rfl; (try go_simp); (try with_reducible rfl))
        simp only [Act.put, List.setIfInBounds_toArray, List.getElem_toArray, List.getElem_cons_succ, List.getElem_cons_zero, List.set_cons_succ, List.set_cons_zero]
        refine Z_step (i := 3) (by kernel_rfl) rfl (fun K' hK => ?_)
        go_simp
        refine (HC1.out _ (below_drew (Below.refl w1.heap.size w1))).mono ?_
        rintro e w2 ⟨u2, rfl, hu2, hq2, hb12⟩
        have hS2 := (hb12.block D HW1.out.2.1).trans HW1.out.1
        refine hK _ _ (fun _ => hS2) ?_
        clear hK K'
        refine Z_step (i := 6) (by kernel_rfl) rfl (fun K' hK => ?_)
        go_simp
        refine (HC2.out _ hb12).mono ?_
        rintro e w3 ⟨v2, rfl, hv2, hq3, hb23, hb13⟩
        have hu3 := hu2.on hb23 (Nat.le_refl _)
        have hS3 := (hb13.block D HW1.out.2.1).trans HW1.out.1
        refine hK _ _ (fun _ => hS3) ?_
        clear hK K'
        obtain ⟨ua2, uc2, rfl⟩ := hu3.slice
        obtain ⟨va2, vc2, rfl⟩ := hv2.slice
        obtain ⟨cn2, hcn2⟩ : ∃ k, (pc i).length = k := ⟨_, rfl⟩
        obtain ⟨pn2, hpn2⟩ : ∃ k, (pp i).length = k := ⟨_, rfl⟩
        rw [hcn2] at hu3 hq2
        rw [hpn2] at hv2 hq3
        try rw [hcn2]
        try rw [hpn2]
        refine Z_step (i := 7) (by kernel_rfl) rfl (fun K' hK => ?_)
        go_simp
        refine hK _ _ (fun _ => hS3) ?_
        clear hK K'
        refine Z_step (i := 8) (by kernel_rfl) rfl (fun K' hK => ?_)
        go_simp
        obtain ⟨w4, hw4⟩ : ∃ W, w3.alloc (.cells #[.slice ua2 cn2 uc2, .slice va2 pn2 vc2] 39) = W := ⟨_, rfl⟩
        have hb34 := (Below.refl w3.heap.size w3).alloc (Nat.le_refl _) (.cells #[.slice ua2 cn2 uc2, .slice va2 pn2 vc2] 39)
        have rN := heap_alloc_new w3 (.cells #[.slice ua2 cn2 uc2, .slice va2 pn2 vc2] 39)
        rw [hw4] at hb34 rN
        try rw [hw4]
        have hs13 : w1.heap.size ≤ w3.heap.size := hb13.size
        have hs34 : w4.heap.size = w3.heap.size + 1 := by rw [← hw4, World.size_alloc]
        have hb14 : Below w1.heap.size w1 w4 := hb13.trans (hb34.mono hs13)
        have hS4 := (hb14.block D HW1.out.2.1).trans HW1.out.1
        refine hK _ _ (fun _ => hS4) ?_
        clear hK K'
        refine Z_step (i := 9) (by kernel_rfl) rfl (fun K' hK => ?_)
        rw [if_pos (by rfl)]
        have hown4 := HRO.out w4 hb14
        refine opwp_append _ _ 30 rfl (.slice xa i xc) (.slice (some ⟨w3.heap.size, 0, none⟩) 1 1) rfl rfl (fun v' w' => ∃ ga ca, v' = .slice (some ⟨ga, 0, none⟩) (i + 1) ca ∧ w'.ownsRow N 39 2 v' (i + 1) (((List.range i).flatMap fun k => [U k, V k]) ++ [.slice ua2 cn2 uc2, .slice va2 pn2 vc2]) ∧ w4.grownBy w' (Value.slice xa i xc).ownBlock ∧ ((Value.slice xa i xc).ownBlock = some ga ∨ ga = w4.heap.size)) ?_ ?_
        · obtain ⟨ga, ca, w', h1, h2, h3, h4, h5⟩ := run_append_lies (P := Tryd.prog) w4 30 30 N 39 i2 (.agg #[.slice none 0 0, .slice none 0 0]) 2 48 Tryd.underlying30 HI2.out.1 HI2.out.2.1 HI2.out.2.2.1 HI2.out.2.2.2 rfl (by decide) (.slice xa i xc) i _ hown4 ⟨w3.heap.size, 0, none⟩ 1 1 [.slice ua2 cn2 uc2, .slice va2 pn2 vc2] rfl (World.news_of_block rN) (by simp [Value.oneCell']) (by decide) (by unfold maxLen; omega) (by omega) (by have := HW1.out.2.2; omega) _ rfl
          exact ⟨_, w', h1, ga, ca, rfl, h2, h3, h4⟩
        rintro v' w5 ⟨ga, ca, rfl, g1, g2, g3⟩
        have hne : (Value.slice xa i xc).ownBlock ≠ some D := fun e => by have := HXD.out D e; omega
        have hS5 := (g2.block D (by have := HW1.out.2.1; omega) (fun e => hne e.symm)).trans hS4
        have hfin := HRS.out w4 w5 _ _ ga ca hb14 g1 g2 g3 (hu3.on hb34 (Nat.le_refl _)) (hv2.on hb34 (Nat.le_refl _)) (fun q e => by
          rcases e with e | e
          · have h1 := hq2 q e
            have h2 := hb23.size
            exact ⟨by omega, by omega⟩
          · have h1 := hq3 q e
            have h2 := hb12.size
            exact ⟨by omega, by omega⟩)
        have HFIN : Hid (_ ∧ N ≤ w5.heap.size) := And.intro hfin (by have := g2.size; have := HW1.out.2.2; omega)
        refine hK _ _ (fun _ => hS5) ?_
        clear hK K'
        refine Z_step (i := 10) (by kernel_rfl) rfl (fun K' hK => ?_)
        go_simp
        refine hK _ _ (fun _ => hS5) (Z_done (by kernel_rfl) ?_ _)
        clear hK K' hS0 hS2 hS3 hS4 hS5 hu2 hq2 hb12 hv2 hq3 hb23 hb13 hu3 hb34 rN hw4 hs13 hs34 hb14 hown4 g1 g2 g3 hne hfin hcn2 hpn2
        go_wp2_with fail
        go_roundg (n - (i + 1))
        case measure => omega
        case rel => exact ⟨i + 1, _, _, by omega, by go_num, HFIN.out.1, HFIN.out.2, HLG.out⟩
end
end Go.Proofs.YtihilkdokfdoeaaDoor
