/- reeve: Check, walked where all is well; same, config. -/
import Derived.Test.YtcehmaegnfelhaaRvJ
namespace Go.Proofs.Ytcehmaegnfelhaa
open Go.RowKit
attribute [local go_sem ↓] Go.wp_at_zero Go.wp_at_succ

set_option maxRecDepth 20000 in
set_option maxHeartbeats 1000000 in
theorem same_any (n : Int) (ns : List Int) (u v : Value) (a b c d : Int) (w : World) (hu : Il w u ns) (hv : Il w v ns) (hl : ns.length ≤ 1000) :
    Calls Try.prog 18 #[.agg (cf n u a b c d), .agg (cf n v a b c d)] w fun e W' => e = .returned (.bool true) ∧ Below w.heap.size w W' := by
  obtain ⟨W0, hW0⟩ : ∃ W, (w.alloc (.cells (cf n u a b c d) 55)).alloc (.cells (cf n v a b c d) 55) = W := ⟨_, rfl⟩
  have hb0 : Below w.heap.size w W0 := by
    rw [← hW0]
    exact ((Below.refl _ w).alloc (Nat.le_refl _) _).alloc (by simp) _
  have r0 : W0.heap[w.heap.size]? = some (.cells (cf n u a b c d) 55) := by
    rw [← hW0]
    exact (Below.heap_alloc _ _ _ (by simp)).trans (heap_alloc_new _ _)
  have r1 : W0.heap[w.heap.size + 1]? = some (.cells (cf n v a b c d) 55) := by
    rw [← hW0]
    have := heap_alloc_new (w.alloc (.cells (cf n u a b c d) 55)) (.cells (cf n v a b c d) 55)
    rwa [show (w.alloc (.cells (cf n u a b c d) 55)).heap.size = w.heap.size + 1 by simp] at this
  have hI := Ints_any ns u v W0 (hu.next hb0) (hv.next hb0) hl
  have x0 := cellB r0 0 _ rfl
  have x1 := cellB r0 1 _ rfl
  have x2 := cellB r0 2 _ rfl
  have x3 := cellB r0 3 _ rfl
  have x4 := cellB r0 4 _ rfl
  have x5 := cellB r0 5 _ rfl
  have y0 := cellB r1 0 _ rfl
  have y1 := cellB r1 1 _ rfl
  have y2 := cellB r1 2 _ rfl
  have y3 := cellB r1 3 _ rfl
  have y4 := cellB r1 4 _ rfl
  have y5 := cellB r1 5 _ rfl
  have z1 : ∀ W, (Op.equalIn 10000 48 (.agg #[.int .i64 a, .int .i64 b, .int .i64 c, .int .i64 d]) (.agg #[.int .i64 a, .int .i64 b, .int .i64 c, .int .i64 d])).run Try.prog W = .ok true W := fun W => by rw [eq23, decide_eq_true rfl]
  have HV : Hid ((w.alloc (.cells (cf n u a b c d) 55)).alloc (.cells (cf n v a b c d) 55) = W0) := hW0
  obtain ⟨ua, uc, rfl⟩ := hu.slice
  obtain ⟨va, vc, rfl⟩ := hv.slice
  clear hW0 r0 r1 hu hv
  go_enter Try.func18, Try.ntmps18
  go_upto_region 1 with fail
  rw [HV.out]
  clear HV
  go_wp2_with (first
    | (go_at_call 13; refine hI.mono ?_; rintro e w1 ⟨rfl, hb1⟩))
  go_ret
  exact ⟨rfl, hb0.trans (hb1.mono hb0.size)⟩
theorem Try.size55 : (Try.prog.info? 55).map (fun i => i.size) = some 6 := by kernel_rfl
set_option maxRecDepth 20000 in
set_option maxHeartbeats 1000000 in
theorem config_any (n : Int) (pa : Option Addr) (m pc : Nat) (a b c d : Int) (w : World) : Calls Try.prog 19 #[.agg (cf n (.slice pa m pc) a b c d)] w fun e W' => e = .returned (.agg (cf n (.slice pa m pc) a b c d)) ∧ Below w.heap.size w W' := by
  have r0 := heap_alloc_new w (.cells (cf n (.slice pa m pc) a b c d) 50)
  have hb0 := ((Below.refl w.heap.size w).alloc (Nat.le_refl _) (.cells (cf n (.slice pa m pc) a b c d) 50)).alloc (by simp) (.cells (cf 0 (.slice none 0 0) 0 0 0 0) 55)
  have r1 := (Below.heap_alloc (w.alloc (.cells (cf n (.slice pa m pc) a b c d) 50)) (.cells (cf 0 (.slice none 0 0) 0 0 0 0) 55) w.heap.size (by simp)).trans r0
  have s1 := heap_alloc_new (w.alloc (.cells (cf n (.slice pa m pc) a b c d) 50)) (.cells (cf 0 (.slice none 0 0) 0 0 0 0) 55)
  obtain ⟨W0, hW0⟩ : ∃ W, (w.alloc (.cells (cf n (.slice pa m pc) a b c d) 50)).alloc (.cells (cf 0 (.slice none 0 0) 0 0 0 0) 55) = W := ⟨_, rfl⟩
  rw [show (w.alloc (.cells (cf n (.slice pa m pc) a b c d) 50)).heap.size = w.heap.size + 1 by simp] at s1
  rw [hW0] at r1 s1 hb0
  have HW : Hid ((w.alloc (.cells (cf n (.slice pa m pc) a b c d) 50)).alloc (.cells (cf 0 (.slice none 0 0) 0 0 0 0) 55) = W0) := hW0
  have S1 : Hid (W0.heap[w.heap.size + 1]? = some (.cells (cf 0 (.slice none 0 0) 0 0 0 0) 55)) := s1
  have x0 := cellB r1 0 _ rfl
  have x1 := cellB r1 1 _ rfl
  have x2 := cellB r1 2 _ rfl
  have x3 := cellB r1 3 _ rfl
  have x4 := cellB r1 4 _ rfl
  have x5 := cellB r1 5 _ rfl
  have HB : Hid (Below w.heap.size w W0) := hb0
  clear r0 r1 s1 hW0 hb0
  go_enter Try.func19, Try.ntmps19
  go_upto_region 1 with fail
  rw [HW.out]
  clear HW
  go_wp2_with (first
    | (refine wpList_store_mid rfl 55 _ _ rfl (w.heap.size + 1) 0 (cf n (.slice pa m pc) a b c d) rfl rfl (blk_there S1.out 0 6 (Nat.le_refl _)) Try.size55 (cf_ones _ _ _ _ _ _ _ _) ?_)
    | fail)
  have k4 := blk_range (blk_set S1.out (L := cfL n (.slice pa m pc) a b c d) rfl)
  exact bodyPost_ret (v := .agg (cf n (.slice pa m pc) a b c d)) (results_one rfl rfl (run_loadVar_mid _ (w.heap.size + 1) 0 55 (cfL n (.slice pa m pc) a b c d) _ k4 Try.underlying55 rfl Try.size55)) rfl ⟨rfl, blk_below (Nat.le_succ _) _ _ _ HB.out⟩
set_option maxRecDepth 20000 in
set_option maxHeartbeats 1000000 in
theorem check_any (l : List Ru) (v : Value) (w : World) (hv : SlF rul 6 w v l) (hl : l.length ≤ 500) (hok : ∀ i, i < l.length → rBad l i = false) (seen : List Cg) (sv : Value) (hs : Cl w sv seen) (hsl : seen.length ≤ 1000)
    (hse : ∀ (i : Nat) x, seen[i]? = some x → ∃ m, m ≤ (rcN l l.length).length ∧ x = cgOf m (cfgP (rcN l l.length) m)) :
    Calls Try.prog 17 #[v, sv] w fun e W' => e = .returned (.tuple #[.int .i64 0, .int .i64 0, .int .i64 0]) ∧ Below w.heap.size w W' := by
  obtain ⟨va, vc, rfl⟩ := hv.slice
  obtain ⟨sa, sc, rfl⟩ := hs.slice
  have hR := ruled_any l _ w hv hl
  have hle := rcN_le l l.length
  obtain ⟨N, hN⟩ : ∃ N, w.heap.size = N := ⟨_, rfl⟩
  obtain ⟨n, hn⟩ : ∃ n, l.length = n := ⟨_, rfl⟩
  have h1 : ¬ (500 : Int) < (n : Int) := by omega
  have hR2 : Calls Try.prog 26 #[.slice va n vc] w fun e W' => ∃ B v lc, e = .returned (.tuple #[.func (.func 34) #[.pointer (some ⟨B, 0, none⟩)] #[], .int .i64 (-1)]) ∧ cls lc = rcN l n ∧ ChAt N W' B v lc ∧ Below N w W' := by
    rw [← hn, ← hN]
    refine hR.mono ?_
    rintro e W' ⟨h | h, hB⟩
    · obtain ⟨B, v, lc, h1, h0, h2, h3⟩ := h
      exact ⟨B, v, lc, h0, h2, h3, hB⟩
    · obtain ⟨i, h1, h2, h3, rfl⟩ := h
      rw [hok i h1] at h2; cases h2
  rw [hn] at hle hse
  have HS : Hid (∀ W, Below N w W → Cl W (.slice sa seen.length sc) seen) := fun W hW => hs.on hW (by omega)
  have HSE : Hid (∀ (i : Nat) x, seen[i]? = some x → ∃ m, m ≤ (rcN l n).length ∧ x = cgOf m (cfgP (rcN l n) m)) := hse
  have HLE : Hid ((rcN l n).length ≤ 40 ∧ seen.length ≤ 1000) := ⟨hle, hsl⟩
  rw [hn, hN]
  clear hR hN hn hv hl hle hs hse hok hsl
  go_enter Try.func17, Try.ntmps17
  go_wp2_with (first
    | (go_at_call 26; refine hR2.mono ?_; clear hR2; rintro e w1 ⟨B, hv', lc, rfl, hcl, hC, hB⟩)
    | fail)
  have HC : Hid (cls lc = rcN l n ∧ ChAt N w1 B hv' lc ∧ Below N w w1 ∧ N ≤ w1.heap.size) := ⟨hcl, hC, hB, by have := hC.lt; have := hC.low; omega⟩
  clear hcl hC hB
  go_loopg [24] seen.length (fun gk j wr => ∃ (i : Nat), i + gk = seen.length ∧ j = .int .i64 i ∧ Below w1.heap.size w1 wr)
  case atStart => exact ⟨0, by omega, rfl, Below.refl _ _⟩
  case round =>
    obtain ⟨i, hin, rfl, hB⟩ := hrel
    by_cases hi1 : i = seen.length
    · subst hi1
      have HF : Hid (Below N w wr) := HC.out.2.2.1.trans (hB.mono HC.out.2.2.2)
      clear hB
      go_wp2_with fail
      exact bodyPost_ret (v := .tuple #[.int .i64 0, .int .i64 0, .int .i64 0]) (by simp [results, Try.f17, go_sem]) rfl ⟨rfl, HF.out⟩
    · have hi2 : i < seen.length := by omega
      obtain ⟨x, hx⟩ : ∃ x, seen[i]? = some x := ⟨_, List.getElem?_eq_getElem hi2⟩
      obtain ⟨m, hm, hxe⟩ := HSE.out i x hx
      obtain ⟨hcl, hC, hBw, hNw⟩ := HC.out
      have hCr := hC.next hB
      have hm2 : m ≤ lc.length := by rw [← cls_len, hcl]; exact hm
      have hl40 : lc.length ≤ 40 := by rw [← cls_len, hcl]; exact HLE.out.1
      have hcf : cfgP (rcN l n) m = cfgAt lc m := by rw [cfgAt_cls, hcl]
      obtain ⟨hm3, hm4⟩ := cfg_mem hCr hm2
      obtain ⟨a, b, c, d, ho⟩ := four_of ((conf_of hm3).2.2 _ hm4).1
      rw [hcf, cgOf_eq ho] at hxe
      have hV := HS.out _ (hBw.trans (hB.mono hNw))
      obtain ⟨g0, e', gv, hg', hgb, hil, y⟩ := hV.at hx
      subst hg'
      subst hxe
      have hil2 : Il wr gv (zi (cfgAt lc m).1) := hil
      have hH := fun W (hW : Below wr.heap.size wr W) => have_any m B N hv' lc W (hCr.next hW) hl40 hm2 gv (hil2.next hW) a b c d ho
      obtain ⟨pa, pc, rfl⟩ := hil2.slice
      obtain ⟨gz, hgz⟩ : ∃ z, zi (cfgAt lc m).1 = z := ⟨_, rfl⟩
      simp only [hgz] at y hH hil2 hil
      have y0 : wr.cell? ⟨g0, e' + i * 6, none⟩ = some (.int .i64 m) := y 0 _ rfl
      have y1 : wr.cell? ⟨g0, e' + i * 6 + 1, none⟩ = some (.slice pa gz.length pc) := y 1 _ rfl
      have y2 : wr.cell? ⟨g0, e' + i * 6 + 2, none⟩ = some (.int .i64 a) := y 2 _ rfl
      have y3 : wr.cell? ⟨g0, e' + i * 6 + 3, none⟩ = some (.int .i64 b) := y 3 _ rfl
      have y4 : wr.cell? ⟨g0, e' + i * 6 + 4, none⟩ = some (.int .i64 c) := y 4 _ rfl
      have y5 : wr.cell? ⟨g0, e' + i * 6 + 5, none⟩ = some (.int .i64 d) := y 5 _ rfl
      have d0 : (0 : Int) ≤ (i : Int) := by omega
      have d1 : (i : Int) < (seen.length : Int) := by omega
      have hib : i ≤ 1000 := by have := HLE.out.2; omega
      have hbA := (Below.refl wr.heap.size wr).alloc (Nat.le_refl _) (.cells (cf m (.slice pa gz.length pc) a b c d) 50)
      have hH2 := hH _ hbA
      have HF : Hid (i + gk = seen.length ∧ i < seen.length ∧ Below w1.heap.size w1 (wr.alloc (.cells (cf m (.slice pa gz.length pc) a b c d) 50)) ∧ w1.heap.size ≤ (wr.alloc (.cells (cf m (.slice pa gz.length pc) a b c d) 50)).heap.size) := ⟨hin, hi2, hB.trans (hbA.mono hB.size), Nat.le_trans hB.size hbA.size⟩
      clear hin hi1 hi2 hx hm hcl hC hBw hNw hCr hm2 hl40 hcf hm3 hm4 ho hV hgb hil hil2 y hH hgz hbA hB HSE
      go_wp2_with (first
        | (go_at_call 28; refine hH2.mono ?_; clear hH2; rintro e w3 ⟨rfl, hB3⟩)
        | fail)
      go_roundg (seen.length - (i + 1))
      case measure => have := HF.out; omega
      case rel =>
        obtain ⟨h1, h2, h3, h4⟩ := HF.out
        exact ⟨i + 1, by omega, by go_num, h3.trans (hB3.mono h4)⟩
end Go.Proofs.Ytcehmaegnfelhaa
