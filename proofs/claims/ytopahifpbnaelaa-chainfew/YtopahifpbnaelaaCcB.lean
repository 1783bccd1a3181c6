/- Chains: ChainFew, walked. -/
import Derived.Test.YtopahifpbnaelaaCcA
namespace Go.Proofs.Ytopahifpbnaelaa
open Go.RowKit
attribute [local go_sem ↓] Go.wp_at_zero Go.wp_at_succ

/-- Owners that are laid one by one. -/
def owP (l : List Nat) : Array Value := ow (l.getD 0 0) (l.getD 1 0) (l.getD 2 0) (l.getD 3 0)
theorem owP_set (l : List Nat) (g : Nat) (h : l.length < 4) : (owP l).setIfInBounds l.length (.int .i64 g) = owP (l ++ [g]) := by
  match l, h with
  | [], _ => rfl
  | [_], _ => rfl
  | [_, _], _ => rfl
  | [_, _, _], _ => rfl
theorem owP_zero (l : List Nat) (k : Nat) (h : l.length ≤ k) (h4 : k < 4) : (owP l)[k]? = some (.int .i64 0) := by
  have e : l.getD k 0 = 0 := by rw [List.getD_eq_getElem?_getD, List.getElem?_eq_none h]; rfl
  rcases k with _ | _ | _ | _ | k
  · show some (Value.int .i64 ((l.getD 0 0 : Nat) : Int)) = _; rw [e]; rfl
  · show some (Value.int .i64 ((l.getD 1 0 : Nat) : Int)) = _; rw [e]; rfl
  · show some (Value.int .i64 ((l.getD 2 0 : Nat) : Int)) = _; rw [e]; rfl
  · show some (Value.int .i64 ((l.getD 3 0 : Nat) : Int)) = _; rw [e]; rfl
  · omega
theorem wayL_len (G : List Nat) (way k : Nat) : (wayL G way k).length = k := by simp [wayL]
theorem wayL_succ (G : List Nat) (way k : Nat) : wayL G way (k + 1) = wayL G way k ++ [wayO G way k] := by simp [wayL, List.range_succ]
theorem wayO_at (G : List Nat) (way k : Nat) (h0 : 0 < G.length) : G[way / 4 ^ k % 4 % G.length]? = some (wayO G way k) := by
  have hlt : way / 4 ^ k % 4 % G.length < G.length := Nat.mod_lt _ h0
  unfold wayO
  rw [List.getD_eq_getElem?_getD, List.getElem?_eq_getElem hlt]
  rfl
theorem cnt_lds (l : List Nat) (g : Nat) (hg : g ≤ 4) : (lds (cnt l)).setIfInBounds g (.int .i64 ((cnt l g + 1 : Nat) : Int)) = lds (cnt (l ++ [g])) := by
  rw [lds_set _ g hg]
  congr 1
  funext x
  rw [cnt_snoc]
  by_cases e : x = g
  · subst e; simp
  · rw [if_neg e, if_neg (by simp; exact fun h => e h.symm), Nat.add_zero]
set_option maxRecDepth 20000 in
set_option maxHeartbeats 4000000 in
theorem few_any (num : Int) (gv : Value) (ns : List Int) (a b c d : Int) (k g s : Int) (w : World) (hu : Il w gv ns) :
    Calls Try.prog 6 #[.agg (cf num gv a b c d), .agg #[.int .i64 k, .int .i64 g, .int .i64 s]] w fun e W' => e = .returned (.bool true) ∧ Below w.heap.size w W' := by
  have hT := fun W => three_any W
  obtain ⟨W0, hW0⟩ : ∃ W, (w.alloc (.cells (cf num gv a b c d) 25)).alloc (.cells #[.int .i64 k, .int .i64 g, .int .i64 s] 27) = W := ⟨_, rfl⟩
  have hb0 : Below w.heap.size w W0 := by
    rw [← hW0]
    exact ((Below.refl _ w).alloc (Nat.le_refl _) _).alloc (by simp) _
  have hsz : W0.heap.size = w.heap.size + 2 := by rw [← hW0]; simp
  have r0 : W0.heap[w.heap.size]? = some (.cells (cf num gv a b c d) 25) := by
    rw [← hW0]
    exact (Below.heap_alloc _ _ _ (by simp)).trans (heap_alloc_new _ _)
  have r1 : W0.heap[w.heap.size + 1]? = some (.cells #[.int .i64 k, .int .i64 g, .int .i64 s] 27) := by
    rw [← hW0]
    have := heap_alloc_new (w.alloc (.cells (cf num gv a b c d) 25)) (.cells #[.int .i64 k, .int .i64 g, .int .i64 s] 27)
    rwa [show (w.alloc (.cells (cf num gv a b c d) 25)).heap.size = w.heap.size + 1 by simp] at this
  have HV : Hid ((w.alloc (.cells (cf num gv a b c d) 25)).alloc (.cells #[.int .i64 k, .int .i64 g, .int .i64 s] 27) = W0) := hW0
  have x1 := cellB r0 1 _ rfl
  have c0 := cellB r1 0 _ rfl
  have c1 := cellB r1 1 _ rfl
  have c2 := cellB r1 2 _ rfl
  have K0 : Hid (W0.rangeAt w.heap.size 0 (cfL num gv a b c d)) := blk_range (L := cfL num gv a b c d) r0
  have HX : Hid (Below w.heap.size w W0 ∧ W0.heap.size = w.heap.size + 2 ∧ W0.heap[w.heap.size]? = some (.cells (cf num gv a b c d) 25) ∧ W0.heap[w.heap.size + 1]? = some (.cells #[.int .i64 k, .int .i64 g, .int .i64 s] 27)) := ⟨hb0, hsz, r0, r1⟩
  have HU : Hid (Il W0 gv ns) := hu.next hb0
  obtain ⟨pa, pc, rfl⟩ := hu.slice
  clear hW0 r0 r1 hu hsz
  by_cases hbig : 100 < ns.length
  · have hq : (100 : Int) < (ns.length : Int) := by omega
    go_enter Try.func6, Try.ntmps6
    go_upto_region 1 with fail
    rw [HV.out]
    clear HV
    go_wp2_with (first
      | (go_at_call 8; refine (hT _).mono ?_; rintro e w5 ⟨rfl, hb5⟩; have hB5 := hb0.trans (hb5.mono hb0.size)))
    go_ret
    exact ⟨rfl, hB5⟩
  have hq : ¬ (100 : Int) < (ns.length : Int) := by omega
  have hN := Next_all num (.slice pa ns.length pc) ns a b c d k g s W0 HU.out (by omega)
  obtain ⟨E, hE⟩ : ∃ E, nxE num ns [a, b, c, d] k g s = E := ⟨_, rfl⟩
  rw [hE] at hN
  clear hE hbig
  go_enter Try.func6, Try.ntmps6
  go_upto_region 1 with fail
  rw [HV.out]
  clear HV
  go_upto_region 4 with (first
    | (refine wpList_load_mid rfl 25 _ rfl w.heap.size 0 rfl (cfL num (.slice pa ns.length pc) a b c d) _ K0.out Try.underlying25 rfl Try.size25 ?_)
    | (go_at_call 9; refine hN.mono ?_; rintro e w1 ⟨x, rfl, v, n, G', O', p, q, r, t, rfl, j1, j2, j3, j4, j5, j6, j7, j8⟩; have hj1 := j1; obtain ⟨ua, uc, rfl⟩ := j1.slice; rw [zi_len] at hj1 ⊢; have HJ : Hid (Il w1 (.slice ua G'.length uc) (zi G') ∧ _ ∧ _ ∧ _ ∧ _ ∧ _) := ⟨hj1, j2, j3, j6, j7, j8⟩; clear hj1 j1 j2 j3 j4 j5 j6 j7 j8))
  obtain ⟨j1, j2, j3, j6, j7, _⟩ := HJ.out
  obtain ⟨_, hsz, r0, r1⟩ := HX.out
  have hbA := j6.alloc j6.size (.cells (cf n (.slice ua G'.length uc) p q r t) 25)
  have s0 := (hbA.block _ (by omega)).trans r0
  have s1 := (hbA.block _ (by omega)).trans r1
  have s2 := heap_alloc_new w1 (.cells (cf n (.slice ua G'.length uc) p q r t) 25)
  have hilA := j1.next ((Below.refl _ w1).alloc (Nat.le_refl _) (.cells (cf n (.slice ua G'.length uc) p q r t) 25))
  have hbw := hb0.trans (hbA.mono hb0.size)
  obtain ⟨W1, hW1⟩ : ∃ W, w1.alloc (.cells (cf n (.slice ua G'.length uc) p q r t) 25) = W := ⟨_, rfl⟩
  have hlt : w1.heap.size < W1.heap.size := by rw [← hW1]; simp
  have hwl : w.heap.size + 1 < W1.heap.size := by have := hbA.size; rw [hW1] at this; omega
  rw [hW1] at s0 s1 s2 hilA hbw ⊢
  obtain ⟨X, hX⟩ : ∃ X, w1.heap.size = X := ⟨_, rfl⟩
  rw [hX] at s2 hlt ⊢
  have y0 := cellB s1 0 _ rfl
  clear hN hX hW1 hbA r0 r1 hsz j1 j6 HJ x1 c0 c1 c2 K0 HX HU
  have hB1 := hbw.size
  by_cases hE0 : E = 0
  · subst hE0
    obtain ⟨gs, o, K, G, S, rfl, ho4, rfl, rfl, rfl, hg, ho, hk, n0, n1, rfl, hG, hO, m1, m2⟩ := j7 rfl
    by_cases hk3 : K = 3
    · subst hk3
      go_wp2_with (first
        | (go_at_call 8; refine (hT _).mono ?_; rintro e w5 ⟨rfl, hb5⟩; have hB5 := hbw.trans (hb5.mono hB1)))
      go_ret
      exact ⟨rfl, hB5⟩
    · have hfew := few_of hg ho hk hk3
      obtain ⟨_, _, hpos⟩ := nx_mem hg ho hk
      rw [← hG, ← hO, j2] at hfew
      rw [← hG] at hpos
      obtain ⟨a', b', c', d', rfl⟩ := four_of ((conf_of hg).2.2 _ ho).1
      have e4 : a = a' ∧ b = b' ∧ c = c' ∧ d = d' := by simpa [zi] using ho4
      obtain ⟨rfl, rfl, rfl, rfl⟩ := e4
      have hG4 := (conf_of m1).2.1
      have hGl := (conf_of m1).1
      have hq3 : ((K : Int) == 3) = false := by rw [beq_eq_false_iff_ne]; omega
      have hq4 : ((G'.length : Int) == 0) = false := by rw [beq_eq_false_iff_ne]; omega
      have y1 := cellB s2 1 _ rfl
      have HS : Hid (W1.heap[w.heap.size]? = some (.cells (cf num (.slice pa (zi gs).length pc) a' b' c' d') 25) ∧ W1.heap[X]? = some (.cells (cf (num + 1) (.slice ua G'.length uc) p q r t) 25) ∧ Il W1 (.slice ua G'.length uc) (zi G')) := ⟨s0, s2, hilA⟩
      have HF : Hid (movedN [a', b', c', d'] [p, q, r, t] = leastM [a', b', c', d'] (waysB G' 256)) := hfew
      have HG4 : Hid (∀ x ∈ G', 1 ≤ x ∧ x ≤ 4) := hG4
      have HBW : Hid (Below w.heap.size w W1 ∧ w.heap.size + 1 < W1.heap.size ∧ X < W1.heap.size) := ⟨hbw, hwl, hlt⟩
      have hpos2 := hpos
      rw [← zi_len] at hpos2
      obtain ⟨g0, hg0⟩ : ∃ g0, (zi G')[0]? = some g0 := ⟨_, List.getElem?_eq_getElem hpos2⟩
      have hil0 := hilA
      rw [← zi_len G'] at hil0
      obtain ⟨gb, go, hua, _, _⟩ := hil0.at hg0
      subst hua
      have HCG : Hid (∀ W, Below W1.heap.size W1 W → ∀ (i n : Nat), G'[i]? = some n → W.cell? ⟨gb, go + i, none⟩ = some (.int .i64 n)) := fun W hW i n hn => by
        obtain ⟨b2, o2, e1, _, e2⟩ := (hil0.next hW).at (zi_at G' i n hn)
        injection e1 with e1
        injection e1 with e3 e4 _
        subst e3 e4
        exact e2
      have HCX : Hid (∀ W, Below W1.heap.size W1 W → W.cell? ⟨X, 1, none⟩ = some (.slice (some ⟨gb, go, none⟩) G'.length uc)) := fun W hW => cellB ((hW.block _ hlt).trans s2) 1 _ rfl
      clear hil0 hg0 hpos2
      obtain ⟨L, hL⟩ : ∃ L, G'.length = L := ⟨_, rfl⟩
      rw [hL] at HCX hq4 y1 hpos hGl ⊢
      have HL : Hid (G'.length = L) := hL
      have hL0 : (L : Int) ≠ 0 := by omega
      have hL1 : L ≠ 0 := by omega
      clear hL hfew hk hG hO m1 m2 hk3 j2 j3 j7 hg ho hilA s0 s1 s2 hq hG4 hbw hB1 hwl hlt hb0 ho4
      go_upto_region 7 with fail
      clear y0 y1 hq3
      go_wp2_with fail
      go_loopg [8, 9] 256 (fun gk ls wy wr => ∃ (way : Nat), way + gk = 256 ∧ ls = .int .i64 (leastM [a', b', c', d'] (waysB G' way) : Nat) ∧ wy = .int .i64 way ∧ Below W1.heap.size W1 wr)
      case atStart => exact ⟨0, by omega, rfl, rfl, Below.refl _ _⟩
      case round =>
        obtain ⟨way, hway, rfl, rfl, hB⟩ := hrel
        by_cases hw256 : way < 256
        · have hw1 : (way : Int) < 256 := by omega
          go_upto_region 13 with fail
          have hbA : Below W1.heap.size W1 ((wr.alloc (.cells (owP []) 23)).alloc (.cells (lds (cnt [])) 52)) := (hB.alloc hB.size _).alloc (by have := hB.size; simp; omega) _
          have hsA : ((wr.alloc (.cells (owP []) 23)).alloc (.cells (lds (cnt [])) 52)).heap.size = wr.heap.size + 2 := by simp
          have rO : ((wr.alloc (.cells (owP []) 23)).alloc (.cells (lds (cnt [])) 52)).heap[wr.heap.size]? = some (.cells (owP []) 23) := (Below.heap_alloc _ _ _ (by simp)).trans (heap_alloc_new _ _)
          have rQ : ((wr.alloc (.cells (owP []) 23)).alloc (.cells (lds (cnt [])) 52)).heap[wr.heap.size + 1]? = some (.cells (lds (cnt [])) 52) := by
            have := heap_alloc_new (wr.alloc (.cells (owP []) 23)) (.cells (lds (cnt [])) 52)
            rwa [show (wr.alloc (.cells (owP []) 23)).heap.size = wr.heap.size + 1 by simp] at this
          obtain ⟨WA, hWA⟩ : ∃ W, (wr.alloc (.cells (owP []) 23)).alloc (.cells (lds (cnt [])) 52) = W := ⟨_, rfl⟩
          rw [hWA] at hbA hsA rO rQ
          change Code.wp _ _ _ _ ((wr.alloc (.cells (owP []) 23)).alloc (.cells (lds (cnt [])) 52))
          rw [hWA]
          have hlo := hB.size
          obtain ⟨O, hO⟩ : ∃ O, wr.heap.size = O := ⟨_, rfl⟩
          rw [hO] at hsA rO rQ hlo ⊢
          have RO : Hid (WA.heap[O]? = some (.cells (owP []) 23)) := rO
          have RQ : Hid (WA.heap[O + 1]? = some (.cells (lds (cnt [])) 52)) := rQ
          clear rO rQ hWA hO hB hsA
          clear wr
          go_wp2_with fail
          go_loopg [12, 53] 4 (fun gk rs i wr => ∃ (k : Nat), k + gk = 4 ∧ rs = .int .i64 (way / 4 ^ k : Nat) ∧ i = .int .i64 k ∧ Below W1.heap.size W1 wr ∧ wr.heap[O]? = some (.cells (owP (wayL G' way k)) 23) ∧ wr.heap[O + 1]? = some (.cells (lds (cnt (wayL G' way k))) 52))
          case atStart => exact ⟨0, by omega, by simp, rfl, hbA, RO.out, RQ.out⟩
          case round =>
            obtain ⟨k, hk, rfl, rfl, hB, pO, pQ⟩ := hrel
            clear RO RQ hbA
            by_cases hk4 : k < 4
            · have g1 := wayO_at G' way k (by rw [HL.out]; exact hpos)
              rw [HL.out] at g1
              have x1 := HCX.out _ hB
              have x2 := HCG.out _ hB _ _ g1
              have hgm := HG4.out _ (List.mem_of_getElem? g1)
              have hidx : way / 4 ^ k % 4 % L < L := Nat.mod_lt _ hpos
              obtain ⟨g, hg⟩ : ∃ g, wayO G' way k = g := ⟨_, rfl⟩
              obtain ⟨idx, hix⟩ : ∃ idx, way / 4 ^ k % 4 % L = idx := ⟨_, rfl⟩
              obtain ⟨R, hR⟩ : ∃ R, way / 4 ^ k = R := ⟨_, rfl⟩
              have hRl : R ≤ 255 := by rw [← hR]; exact Nat.le_trans (Nat.div_le_self _ _) (by omega)
              have hRs : way / 4 ^ (k + 1) = R / 4 := by rw [Nat.pow_succ, ← Nat.div_div_eq_div_mul, hR]
              rw [hg] at x2 hgm
              rw [hR] at hix
              rw [hR, hix] at x2 hidx
              rw [hR]
              have k1 : (k : Int) < 4 := by omega
              have k0 : (0 : Int) ≤ (k : Int) := by omega
              obtain ⟨M, hM⟩ : ∃ M, R % 4 = M := ⟨_, rfl⟩
              rw [hM] at hix
              have t1 : Int.tmod (R : Int) 4 = (M : Int) := by rw [Int.tmod_eq_emod_of_nonneg (by omega)]; omega
              have t2 : Int.tmod (M : Int) (L : Int) = (idx : Int) := by rw [Int.tmod_eq_emod_of_nonneg (by omega), ← hix]; simp
              have t3 : IntKind.i64.wrap (Int.tdiv (R : Int) 4) = ((R / 4 : Nat) : Int) := by rw [Int.tdiv_eq_ediv_of_nonneg (by omega)]; simp [IntKind.wrap, IntKind.bits, IntKind.signed]; omega
              have i0 : (0 : Int) ≤ (idx : Int) := by omega
              have i1 : (idx : Int) < (L : Int) := by omega
              have HRS : Hid (way / 4 ^ (k + 1) = R / 4) := hRs
              clear hR hix hM hRs g1
              go_upto_region 17 with fail
              go_quiet (fail)
              have hBd := below_drewN hB nq
              have hdr := below_drewN (Below.refl wr.heap.size wr) nq
              have qO := (hdr.block O (Array.getElem?_eq_some_iff.1 pO).1).trans pO
              have qQ := (hdr.block (O + 1) (Array.getElem?_eq_some_iff.1 pQ).1).trans pQ
              obtain ⟨WD, hWD⟩ : ∃ W, wr.drewN nq = W := ⟨_, rfl⟩
              rw [hWD] at hBd qO qQ ⊢
              have n4 : cnt (wayL G' way k) g ≤ 4 := Nat.le_trans (cnt_le _ _) (by rw [wayL_len]; omega)
              have y1 := cellB qQ g _ (lds_at (cnt (wayL G' way k)) g hgm.2)
              have y2 := frozenB qQ g
              have y3 := frozenB qO k
              have y4 : WD.cell? ⟨O, k, none⟩ = some (.int .i64 0) := cellB qO k _ (owP_zero _ k (by rw [wayL_len]; exact Nat.le_refl _) hk4)
              have y5 := cellB ((set_far (k := O + 1) (B := O) (by omega) k (.int .i64 g)).trans qQ) g _ (lds_at (cnt (wayL G' way k)) g hgm.2)
              have HWL : Hid (wayL G' way (k + 1) = wayL G' way k ++ [g]) := by show _ = _; rw [wayL_succ, hg]
              have z1 := setB qO k (.int .i64 (g : Int))
              have hseto := owP_set (wayL G' way k) g (by rw [wayL_len]; exact hk4)
              rw [wayL_len] at hseto
              rw [hseto] at z1
              have z2 := setB ((set_far (k := O + 1) (B := O) (by omega) k (.int .i64 g)).trans qQ) g (.int .i64 ((cnt (wayL G' way k) g + 1 : Nat) : Int))
              rw [cnt_lds _ g hgm.2] at z2
              have z3 := (set_far (w := WD.setCell ⟨O, k, none⟩ (.int .i64 g)) (k := O) (B := O + 1) (by omega) g (.int .i64 ((cnt (wayL G' way k) g + 1 : Nat) : Int))).trans z1
              have hBB : Below W1.heap.size W1 ((WD.setCell ⟨O, k, none⟩ (.int .i64 g)).setCell ⟨O + 1, g, none⟩ (.int .i64 ((cnt (wayL G' way k) g + 1 : Nat) : Int))) := (hBd.setCell (p := ⟨O, k, none⟩) hlo _).setCell (p := ⟨O + 1, g, none⟩) (by show W1.heap.size ≤ O + 1; omega) _
              rw [← HWL.out] at z2 z3
              have HZ : Hid (_ ∧ _ ∧ _) := ⟨hBB, z3, z2⟩
              obtain ⟨N, hN⟩ : ∃ N, cnt (wayL G' way k) g = N := ⟨_, rfl⟩
              rw [hN] at y1 y5 n4 HZ
              have g0 : (0 : Int) ≤ (g : Int) := by omega
              have g5 : (g : Int) < 5 := by omega
              have g5' : g < 5 := by omega
              clear hB hdr pO pQ hWD hseto z1 z2 z3 hBB hN qO qQ hBd x1 x2 hg
              go_wp2
              go_roundg (4 - (k + 1))
              case measure => omega
              case rel =>
                obtain ⟨hBB, z3, z2⟩ := HZ.out
                exact ⟨k + 1, by omega, by rw [HRS.out]; simp, by go_num, hBB, z3, z2⟩
            · have hk4 : k = 4 := by omega
              subst hk4
              obtain ⟨o, ho⟩ : ∃ o, wayL G' way 4 = o := ⟨_, rfl⟩
              have hol : o.length = 4 := by rw [← ho, wayL_len]
              rw [ho] at pO pQ
              have hcl : ∀ x, cnt o x ≤ 4 := fun x => by have := cnt_le o x; omega
              have HO : Hid (wayL G' way 4 = o) := ho
              obtain ⟨WB, rfl⟩ : ∃ WB, WB = wr := ⟨_, rfl⟩
              have PO : Hid (WB.heap[O]? = some (.cells (owP o) 23)) := pO
              have PQ : Hid (WB.heap[O + 1]? = some (.cells (lds (cnt o)) 52)) := pQ
              have x1 := HCX.out _ hB
              have HB0 : Hid (Below W1.heap.size W1 WB) := hB
              clear ho pO pQ hB
              go_wp2_with fail
              clear x1
              go_loopg [15, 78] L (fun gk rt i wr => ∃ (j : Nat), j + gk = L ∧ rt = .bool ((G'.take j).all fun a => G'.all fun b => decide (cnt o a < cnt o b + 2)) ∧ i = .int .i64 j ∧ Below W1.heap.size W1 wr ∧ wr.heap[O]? = some (.cells (owP o) 23) ∧ wr.heap[O + 1]? = some (.cells (lds (cnt o)) 52))
              case atStart => exact ⟨0, by omega, rfl, rfl, HB0.out, PO.out, PQ.out⟩
              case round =>
                obtain ⟨j, hj, rfl, rfl, hB, pO, pQ⟩ := hrel
                clear HB0 PO PQ
                by_cases hjl : j < L
                · obtain ⟨a1, ha1⟩ : ∃ a1, G'[j]? = some a1 := ⟨_, List.getElem?_eq_getElem (by rw [HL.out]; exact hjl)⟩
                  have ha4 := HG4.out _ (List.mem_of_getElem? ha1)
                  have x1 := HCX.out _ hB
                  have x2 := HCG.out _ hB _ _ ha1
                  have j0 : (0 : Int) ≤ (j : Int) := by omega
                  have j1 : (j : Int) < (L : Int) := by omega
                  obtain ⟨RT, hRT⟩ : ∃ RT, ((G'.take j).all fun a => G'.all fun b => decide (cnt o a < cnt o b + 2)) = RT := ⟨_, rfl⟩
                  have HNX : Hid (((G'.take (j + 1)).all fun a => G'.all fun b => decide (cnt o a < cnt o b + 2)) = (RT && G'.all fun b => decide (cnt o a1 < cnt o b + 2))) := by
                    show _ = _
                    rw [List.take_add_one, ha1, List.all_append, hRT]
                    simp
                  rw [hRT]
                  obtain ⟨WC, rfl⟩ : ∃ WC, WC = wr := ⟨_, rfl⟩
                  have PO : Hid (WC.heap[O]? = some (.cells (owP o) 23)) := pO
                  have PQ : Hid (WC.heap[O + 1]? = some (.cells (lds (cnt o)) 52)) := pQ
                  have HB0 : Hid (Below W1.heap.size W1 WC) := hB
                  clear ha1 hRT pO pQ hB
                  go_wp2_with fail
                  clear x1 x2
                  go_loopg [15, 85] L (fun gk rt i wr => ∃ (m : Nat), m + gk = L ∧ rt = .bool (RT && (G'.take m).all fun b => decide (cnt o a1 < cnt o b + 2)) ∧ i = .int .i64 m ∧ Below W1.heap.size W1 wr ∧ wr.heap[O]? = some (.cells (owP o) 23) ∧ wr.heap[O + 1]? = some (.cells (lds (cnt o)) 52))
                  case atStart => exact ⟨0, by omega, by simp, rfl, HB0.out, PO.out, PQ.out⟩
                  case round =>
                    obtain ⟨m, hm, rfl, rfl, hB, pO, pQ⟩ := hrel
                    clear HB0 PO PQ
                    by_cases hml : m < L
                    · obtain ⟨b1, hb1⟩ : ∃ b1, G'[m]? = some b1 := ⟨_, List.getElem?_eq_getElem (by rw [HL.out]; exact hml)⟩
                      have hb4 := HG4.out _ (List.mem_of_getElem? hb1)
                      have x2 := HCG.out _ hB _ _ hb1
                      have q1 := cellB pQ a1 _ (lds_at (cnt o) a1 ha4.2)
                      have q2 := cellB pQ b1 _ (lds_at (cnt o) b1 hb4.2)
                      have m0 : (0 : Int) ≤ (m : Int) := by omega
                      have m1 : (m : Int) < (L : Int) := by omega
                      obtain ⟨T, hTT⟩ : ∃ T, (RT && (G'.take m).all fun b => decide (cnt o a1 < cnt o b + 2)) = T := ⟨_, rfl⟩
                      have HN2 : Hid ((RT && (G'.take (m + 1)).all fun b => decide (cnt o a1 < cnt o b + 2)) = (T && decide (cnt o a1 < cnt o b1 + 2))) := by
                        show _ = _
                        rw [List.take_add_one, hb1, List.all_append, ← hTT, Bool.and_assoc]
                        simp
                      rw [hTT]
                      obtain ⟨ca, hca⟩ : ∃ ca, cnt o a1 = ca := ⟨_, rfl⟩
                      obtain ⟨cb, hcb⟩ : ∃ cb, cnt o b1 = cb := ⟨_, rfl⟩
                      have ca4 : ca ≤ 4 := by rw [← hca]; exact hcl a1
                      have cb4 : cb ≤ 4 := by rw [← hcb]; exact hcl b1
                      have a0 : (0 : Int) ≤ (a1 : Int) := by omega
                      have a5 : (a1 : Int) < 5 := by omega
                      have b0 : (0 : Int) ≤ (b1 : Int) := by omega
                      have b5 : (b1 : Int) < 5 := by omega
                      rw [hca] at q1
                      rw [hcb] at q2
                      have HN3 : Hid ((RT && (G'.take (m + 1)).all fun b => decide (cnt o a1 < cnt o b + 2)) = (T && decide (ca < cb + 2))) := by
                        show _ = _
                        rw [HN2.out, hca, hcb]
                      clear HN2
                      have PO : Hid (wr.heap[O]? = some (.cells (owP o) 23)) := pO
                      have PQ : Hid (wr.heap[O + 1]? = some (.cells (lds (cnt o)) 52)) := pQ
                      have hsub : IntKind.i64.wrap ((ca : Int) - (cb : Int)) = (ca : Int) - (cb : Int) := by simp [IntKind.wrap, IntKind.bits, IntKind.signed]; omega
                      clear hb1 hTT hca hcb pO pQ HNX hcl
                      cases T with
                      | false =>
                        go_upto_region 29 with fail
                        go_quiet (fail)
                        go_wp2
                        go_roundg (L - (m + 1))
                        case measure => omega
                        case rel =>
                          have hdr := below_drewN (Below.refl wr.heap.size wr) nq
                          exact ⟨m + 1, by omega, by rw [HN3.out]; rfl, by go_num, below_drewN hB _, (hdr.block O (Array.getElem?_eq_some_iff.1 PO.out).1).trans PO.out, (hdr.block (O + 1) (Array.getElem?_eq_some_iff.1 PQ.out).1).trans PQ.out⟩
                      | true =>
                        obtain ⟨dv, hdv⟩ : ∃ dv, decide (ca < cb + 2) = dv := ⟨_, rfl⟩
                        have hd2 : decide ((ca : Int) - (cb : Int) < 2) = dv := by rw [← hdv]; apply decide_eq_decide.2; omega
                        rw [hdv] at HN3
                        clear hdv
                        go_upto_region 29 with fail
                        go_quiet (fail)
                        go_wp2
                        go_roundg (L - (m + 1))
                        case measure => omega
                        case rel =>
                          have hdr := below_drewN (Below.refl wr.heap.size wr) nq
                          exact ⟨m + 1, by omega, by rw [HN3.out]; simp, by go_num, below_drewN hB _, (hdr.block O (Array.getElem?_eq_some_iff.1 PO.out).1).trans PO.out, (hdr.block (O + 1) (Array.getElem?_eq_some_iff.1 PQ.out).1).trans PQ.out⟩
                    · have hml : m = L := by omega
                      subst hml
                      have htk : G'.take m = G' := by rw [← HL.out]; exact List.take_length
                      rw [htk] at *
                      go_wp2
                      go_roundg (m - (j + 1))
                      case measure => omega
                      case rel => exact ⟨j + 1, by omega, by rw [HNX.out], by go_num, hB, pO, pQ⟩
                · have hjl : j = L := by omega
                  subst hjl
                  have htk : G'.take j = G' := by rw [← HL.out]; exact List.take_length
                  rw [htk]
                  obtain ⟨T, hTT⟩ : ∃ T, balanced G' o = T := ⟨_, rfl⟩
                  have hTT2 : (G'.all fun a => G'.all fun b => decide (cnt o a < cnt o b + 2)) = T := hTT
                  rw [hTT2]
                  have hstep := least_step G' [a', b', c', d'] way
                  rw [HO.out, hTT] at hstep
                  obtain ⟨p', q', r', t', rfl⟩ := four_of hol
                  obtain ⟨ls, hls⟩ : ∃ ls, leastM [a', b', c', d'] (waysB G' way) = ls := ⟨_, rfl⟩
                  have ls4 : ls ≤ 4 := by rw [← hls]; exact (least_prop _ _).1
                  obtain ⟨mv, hmv⟩ : ∃ mv, movedN [a', b', c', d'] [p', q', r', t'] = mv := ⟨_, rfl⟩
                  have mv4 : mv ≤ 4 := by rw [← hmv]; exact moved_le _ _
                  rw [hls, hmv] at hstep
                  rw [hls]
                  have HST : Hid (leastM [a', b', c', d'] (waysB G' (way + 1)) = if T = true ∧ mv < ls then mv else ls) := hstep
                  have hcells : ∀ W, Below wr.heap.size wr W → W.cell? ⟨w.heap.size, 2, none⟩ = some (.int .i64 a') ∧ W.cell? ⟨w.heap.size, 3, none⟩ = some (.int .i64 b') ∧ W.cell? ⟨w.heap.size, 4, none⟩ = some (.int .i64 c') ∧ W.cell? ⟨w.heap.size, 5, none⟩ = some (.int .i64 d') ∧ W.cell? ⟨O, 0, none⟩ = some (.int .i64 p') ∧ W.cell? ⟨O, 1, none⟩ = some (.int .i64 q') ∧ W.cell? ⟨O, 2, none⟩ = some (.int .i64 r') ∧ W.cell? ⟨O, 3, none⟩ = some (.int .i64 t') := fun W hW => by
                    have e1 := (hB.block _ (by have := HBW.out.2.1; omega)).trans HS.out.1
                    have e2 := (hW.block _ (Array.getElem?_eq_some_iff.1 e1).1).trans e1
                    have e3 := (hW.block _ (Array.getElem?_eq_some_iff.1 pO).1).trans pO
                    exact ⟨cellB e2 2 _ rfl, cellB e2 3 _ rfl, cellB e2 4 _ rfl, cellB e2 5 _ rfl, cellB e3 0 _ rfl, cellB e3 1 _ rfl, cellB e3 2 _ rfl, cellB e3 3 _ rfl⟩
                  have hMv : ∀ W, Below wr.heap.size wr W → Calls Try.prog 21 #[.agg (ow a' b' c' d'), .agg (ow p' q' r' t')] W fun e W' => e = .returned (.int .i64 (mv : Int)) ∧ Below wr.heap.size wr W' ∧ W'.cell? ⟨w.heap.size, 2, none⟩ = some (.int .i64 a') ∧ W'.cell? ⟨w.heap.size, 3, none⟩ = some (.int .i64 b') ∧ W'.cell? ⟨w.heap.size, 4, none⟩ = some (.int .i64 c') ∧ W'.cell? ⟨w.heap.size, 5, none⟩ = some (.int .i64 d') ∧ W'.cell? ⟨O, 0, none⟩ = some (.int .i64 p') ∧ W'.cell? ⟨O, 1, none⟩ = some (.int .i64 q') ∧ W'.cell? ⟨O, 2, none⟩ = some (.int .i64 r') ∧ W'.cell? ⟨O, 3, none⟩ = some (.int .i64 t') := fun W hW => by
                    refine (moved_any a' b' c' d' p' q' r' t' W).mono ?_
                    rintro e W' ⟨rfl, hb⟩
                    have hW' := hW.trans (hb.mono hW.size)
                    exact ⟨by rw [hmv], hW', hcells W' hW'⟩
                  obtain ⟨f1, f2, f3, f4, f5, f6, f7, f8⟩ := hcells wr (Below.refl _ _)
                  have hbR : Below wr.heap.size wr wr := Below.refl _ _
                  have HBR : Hid (Below W1.heap.size W1 wr) := hB
                  clear hls hmv hstep hTT hTT2 hcells hB pO pQ htk HO hol hcl
                  cases T with
                  | false =>
                    go_wp2
                    go_roundg (256 - (way + 1))
                    case measure => omega
                    case rel => exact ⟨way + 1, by omega, by rw [HST.out]; simp, by go_num, HBR.out⟩
                  | true =>
                    by_cases hlm : mv < ls
                    · have d1 : (mv : Int) < (ls : Int) := by omega
                      go_wp2_with (first
                        | (go_at_call 21; refine (hMv _ (by assumption)).mono ?_; rintro e w5 ⟨rfl, hb5, f1, f2, f3, f4, f5, f6, f7, f8⟩))
                      go_roundg (256 - (way + 1))
                      case measure => omega
                      case rel => exact ⟨way + 1, by omega, by rw [HST.out]; simp [hlm], by go_num, HBR.out.trans (hb5.mono HBR.out.size)⟩
                    · have d1 : ¬ (mv : Int) < (ls : Int) := by omega
                      go_wp2_with (first
                        | (go_at_call 21; refine (hMv _ (by assumption)).mono ?_; rintro e w5 ⟨rfl, hb5, f1, f2, f3, f4, f5, f6, f7, f8⟩))
                      go_roundg (256 - (way + 1))
                      case measure => omega
                      case rel => exact ⟨way + 1, by omega, by rw [HST.out]; simp [hlm], by go_num, HBR.out.trans (hb5.mono HBR.out.size)⟩
        · have hkl : way = 256 := by omega
          subst hkl
          obtain ⟨hbw, hwl, hlt⟩ := HBW.out
          obtain ⟨s0, s2, _⟩ := HS.out
          have e0 := (hB.block _ (by omega)).trans s0
          have e2 := (hB.block _ hlt).trans s2
          have f1 := cellB e0 2 _ rfl
          have f2 := cellB e0 3 _ rfl
          have f3 := cellB e0 4 _ rfl
          have f4 := cellB e0 5 _ rfl
          have f5 := cellB e2 2 _ rfl
          have f6 := cellB e2 3 _ rfl
          have f7 := cellB e2 4 _ rfl
          have f8 := cellB e2 5 _ rfl
          rw [← HF.out]
          have hM := moved_any a' b' c' d' p q r t wr
          obtain ⟨mv, hmv⟩ : ∃ mv, movedN [a', b', c', d'] [p, q, r, t] = mv := ⟨_, rfl⟩
          rw [hmv] at hM
          rw [hmv]
          have hB1 := hbw.trans (hB.mono hbw.size)
          clear hmv e0 e2 s0 s2 hB hbw hwl hlt HS HF
          go_wp2_with (first
            | (go_at_call 21; refine hM.mono ?_; rintro e w5 ⟨rfl, hb5⟩; have hB5 := hB1.trans (hb5.mono hB1.size))
            | (go_at_call 8; refine (hT _).mono ?_; rintro e w6 ⟨rfl, hb6⟩; have hB6 := hB5.trans (hb6.mono hB5.size)))
          go_ret
          exact ⟨rfl, hB6⟩
  · have hne : (E != 0) = true := by simpa using hE0
    clear j2 j3 j7 hilA s0 s1 s2 hE0
    go_wp2_with (first
      | (go_at_call 8; refine (hT _).mono ?_; rintro e w5 ⟨rfl, hb5⟩; have hB5 := hbw.trans (hb5.mono hB1)))
    go_ret
    exact ⟨rfl, hB5⟩
end Go.Proofs.Ytopahifpbnaelaa
