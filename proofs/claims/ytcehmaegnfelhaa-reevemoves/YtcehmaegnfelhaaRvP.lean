/- The document's side: are configurations linked, walked. -/
import Derived.Test.YtcehmaegnfelhaaCdA
namespace Go.Proofs.Ytcehmaegnfelhaa
open Go.RowKit
attribute [local go_sem ↓] Go.wp_at_zero Go.wp_at_succ

set_option maxRecDepth 20000 in
set_option maxHeartbeats 1000000 in
theorem linked_any (l : List Cg) (v : Value) (w : World) (hv : Cl w v l) (hl : l.length ≤ 1000) (hgl : ∀ (i : Nat) x, l[i]? = some x → x.gs.length ≤ 1000) : Calls Try.prog 22 #[v] w fun e W' => e = .returned (.int .i64 (if foB l l.length = true then 0 else 4)) ∧ Below w.heap.size w W' := by
  obtain ⟨va, vc, rfl⟩ := hv.slice
  obtain ⟨N, hN⟩ : ∃ N, w.heap.size = N := ⟨_, rfl⟩
  have HN : Hid (w.heap.size = N) := hN
  have HV : Hid (∀ W, Below N w W → Cl W (.slice va l.length vc) l) := fun W hW => hv.on hW (by omega)
  have HG : Hid (∀ (i : Nat) x, l[i]? = some x → x.gs.length ≤ 1000) := hgl
  have HZ : Hid (l.length ≤ 1000) := hl
  obtain ⟨T, hT⟩ : ∃ T, foB l l.length = T := ⟨_, rfl⟩
  rw [hT, hN]
  have HT : Hid (foB l l.length = T) := hT
  obtain ⟨RV, hRV⟩ : ∃ RV : Int, (if T = true then 0 else 4) = RV := ⟨_, rfl⟩
  rw [hRV]
  have HRV : Hid ((if T = true then (0 : Int) else 4) = RV) := hRV
  clear hv hN hgl hl hT hRV
  go_enter Try.func22, Try.ntmps22
  go_wp2_with fail
  go_loopg [7] l.length (fun gk j wr => ∃ (n : Nat), n + gk = l.length ∧ j = .int .i64 n ∧ foB l n = true ∧ Below N w wr)
  case atStart => exact ⟨0, by omega, rfl, rfl, by rw [← HN.out]; exact Below.refl _ _⟩
  case round =>
    obtain ⟨n, hnn, rfl, hok, hB⟩ := hrel
    by_cases hn1 : n = l.length
    · subst hn1
      have hRV2 : RV = 0 := by rw [← HRV.out, ← HT.out, hok]; rfl
      subst hRV2
      go_wp2_with fail
      go_ret
      exact ⟨rfl, hB⟩
    · have hn2 : n < l.length := by omega
      obtain ⟨x, ho⟩ : ∃ x, l[n]? = some x := ⟨_, List.getElem?_eq_getElem hn2⟩
      have hf := foB_at ho
      rw [hok, Bool.true_and] at hf
      have hgl := HG.out n x ho
      obtain ⟨g0, e', gv, hg', hgb, hil, y⟩ := (HV.out _ hB).at ho
      subst hg'
      obtain ⟨pa, pc, rfl⟩ := hil.slice
      obtain ⟨num, gs, o0, o1, o2, o3⟩ := x
      have y0 : wr.cell? ⟨g0, e' + n * 6, none⟩ = some (.int .i64 num) := y 0 _ rfl
      have y1 : wr.cell? ⟨g0, e' + n * 6 + 1, none⟩ = some (.slice pa gs.length pc) := y 1 _ rfl
      have y2 : wr.cell? ⟨g0, e' + n * 6 + 2, none⟩ = some (.int .i64 o0) := y 2 _ rfl
      have y3 : wr.cell? ⟨g0, e' + n * 6 + 3, none⟩ = some (.int .i64 o1) := y 3 _ rfl
      have y4 : wr.cell? ⟨g0, e' + n * 6 + 4, none⟩ = some (.int .i64 o2) := y 4 _ rfl
      have y5 : wr.cell? ⟨g0, e' + n * 6 + 5, none⟩ = some (.int .i64 o3) := y 5 _ rfl
      have d0 : (0 : Int) ≤ (n : Int) := by omega
      have d1 : (n : Int) < (l.length : Int) := by omega
      have hnb : n ≤ 1000 := by have := HZ.out; omega
      obtain ⟨D, hD⟩ : ∃ D, wr.heap.size = D := ⟨_, rfl⟩
      have hND : N ≤ D := by have := hB.size; have := HN.out; omega
      have rD := heap_alloc_new wr (.cells (cf num (.slice pa gs.length pc) o0 o1 o2 o3) 55)
      have hbA := (Below.refl wr.heap.size wr).alloc (Nat.le_refl _) (.cells (cf num (.slice pa gs.length pc) o0 o1 o2 o3) 55)
      obtain ⟨WA, hWA⟩ : ∃ W, wr.alloc (.cells (cf num (.slice pa gs.length pc) o0 o1 o2 o3) 55) = W := ⟨_, rfl⟩
      rw [hWA] at rD hbA
      have hilA := hil.next hbA
      rw [hD] at rD hbA
      have hBA : Below N w WA := hB.trans (hbA.mono hND)
      have hzA : WA.heap.size = D + 1 := by rw [← hWA, World.size_alloc, hD]
      obtain ⟨OK, hOK⟩ : ∃ OK, okC num gs [o0, o1, o2, o3] = OK := ⟨_, rfl⟩
      have HCK : Hid (Calls Try.prog 30 #[.agg (cf num (.slice pa gs.length pc) o0 o1 o2 o3)] WA fun e W' => e = .returned (.int .i64 (if OK = true then 0 else 4)) ∧ Below WA.heap.size WA W') := by
        have := rCheck_any num (.slice pa gs.length pc) gs o0 o1 o2 o3 WA hilA hgl
        rw [hOK] at this
        exact this
      have HWA : Hid (wr.alloc (.cells (cf num (.slice pa gs.length pc) o0 o1 o2 o3) 55) = WA) := hWA
      have HD : Hid (wr.heap.size = D) := hD
      have HDW : Hid (D < WA.heap.size) := by show D < WA.heap.size; omega
      have HBA : Hid (Below N w WA ∧ N ≤ WA.heap.size) := ⟨hBA, by omega⟩
      have x0 := cellB rD 0 _ rfl
      have x1 := cellB rD 1 _ rfl
      have x2 := cellB rD 2 _ rfl
      have x3 := cellB rD 3 _ rfl
      have x4 := cellB rD 4 _ rfl
      have x5 := cellB rD 5 _ rfl
      have hf2 : foB l (n + 1) = (OK && nxN l n num) := by rw [hf]; show (okC num gs [o0, o1, o2, o3] && _) = _; rw [hOK]
      have hmon : foB l (n + 1) = false → RV = 4 := fun h => by
        rw [← HRV.out]
        rcases Bool.eq_false_or_eq_true T with h2 | h2
        · rw [← HT.out] at h2
          rw [foB_mono (n := n + 1) (by omega) h2] at h; cases h
        · rw [h2]; rfl
      have hgN : g0 < D := by omega
      have HGD : Hid (g0 < D) := hgN
      cases OK with
      | false =>
        have hT2 : RV = 4 := hmon (by rw [hf2]; rfl)
        subst hT2
        have HC : Hid (Calls Try.prog 30 #[.agg (cf num (.slice pa gs.length pc) o0 o1 o2 o3)] WA fun e W' => e = .returned (.int .i64 4) ∧ Below WA.heap.size WA W') := HCK
        clear hok hB ho hf hf2 hmon y hD hND hWA hilA hil hBA hOK HT HZ HG hgN
        go_upto_region 4 with fail
        rw [HWA.out, HD.out]
        clear y0 y1 y2 y3 y4 y5 HWA HD HV HCK rD hbA hzA
        go_wp2_with (first
          | (go_at_call 30; refine HC.out.mono ?_; clear HC; rintro e w2 ⟨rfl, hB2⟩)
          | fail)
        go_ret
        exact ⟨rfl, HBA.out.1.trans (hB2.mono HBA.out.2)⟩
      | true =>
        by_cases hz : n = 0
        · have hok1 : foB l (n + 1) = true := by rw [hf2, Bool.true_and]; subst hz; rfl
          have HOK1 : Hid (foB l (n + 1) = true) := hok1
          have hz1 : ¬ (0 : Int) < (n : Int) := by omega
          have hz2 : ¬ 0 < n := by omega
          have HC : Hid (Calls Try.prog 30 #[.agg (cf num (.slice pa gs.length pc) o0 o1 o2 o3)] WA fun e W' => e = .returned (.int .i64 0) ∧ Below WA.heap.size WA W') := HCK
          clear hok hB ho hf hf2 hmon y hD hND hWA hilA hil hBA hOK HT HZ HG hgN hz hok1
          go_upto_region 4 with fail
          rw [HWA.out, HD.out]
          clear y0 y1 y2 y3 y4 y5 HWA HD HV HCK rD hbA hzA
          go_upto_region 6 with (first
            | (go_at_call 30; refine HC.out.mono ?_; clear HC; rintro e w2 ⟨rfl, hB2⟩)
            | fail)
          have HB2 : Hid (Below N w w2) := HBA.out.1.trans (hB2.mono HBA.out.2)
          have p0 : w2.cell? ⟨D, 0, none⟩ = some (.int .i64 num) := (hB2.cell (p := ⟨D, 0, none⟩) HDW.out).trans x0
          clear hB2 x0 x1 x2 x3 x4 x5
          go_quiet (fail)
          go_wp2_with fail
          go_roundg (l.length - (n + 1))
          case measure => omega
          case rel => exact ⟨n + 1, by omega, by go_num, HOK1.out, below_drewN HB2.out _⟩
        · obtain ⟨im, him⟩ : ∃ im, n - 1 = im := ⟨_, rfl⟩
          have him2 : (n : Int) - 1 = (im : Int) := by omega
          have hni : n = im + 1 := by omega
          obtain ⟨q, hq⟩ : ∃ q, l[im]? = some q := ⟨_, List.getElem?_eq_getElem (by omega)⟩
          have hqn := okC_num (foB_ok hok (by omega) hq).1
          have hnx : nxN l n num = decide (num = q.num + 1) := by rw [hni, nxN, hq]
          obtain ⟨g1, e1', gv1, hg1, -, -, z⟩ := (HV.out _ hB).at hq
          injection hg1 with hg1
          injection hg1 with hga hgb'
          subst hga
          subst hgb'
          obtain ⟨pn, pgs, q0, q1, q2, q3⟩ := q
          have z0 : wr.cell? ⟨g0, e' + im * 6, none⟩ = some (.int .i64 pn) := z 0 _ rfl
          have z1 : WA.cell? ⟨g0, e' + im * 6, none⟩ = some (.int .i64 pn) := (hbA.cell (p := ⟨g0, e' + im * 6, none⟩) (by show g0 < D; omega)).trans z0
          have hz1 : (0 : Int) < (n : Int) := by omega
          have hz2 : 0 < n := by omega
          have dm0 : (0 : Int) ≤ (im : Int) := by omega
          have dm1 : (im : Int) < (l.length : Int) := by omega
          have dm5 : im ≤ 1000 := by omega
          have dmw : IntKind.i64.wrap (im : Int) = (im : Int) := wrap_small _ (by omega) (by omega)
          obtain ⟨pm, hpm⟩ : ∃ pm, pn + 1 = pm := ⟨_, rfl⟩
          have hpw : IntKind.i64.wrap pm = pm := wrap_small _ (by simp only at hqn; omega) (by simp only at hqn; omega)
          rw [show (⟨pn, pgs, q0, q1, q2, q3⟩ : Cg).num + 1 = pm from hpm] at hnx
          by_cases heq : num = pm
          · have hok1 : foB l (n + 1) = true := by rw [hf2, hnx, Bool.true_and]; simpa using heq
            have HOK1 : Hid (foB l (n + 1) = true) := hok1
            subst heq
            have HC : Hid (Calls Try.prog 30 #[.agg (cf num (.slice pa gs.length pc) o0 o1 o2 o3)] WA fun e W' => e = .returned (.int .i64 0) ∧ Below WA.heap.size WA W') := HCK
            clear hok hB ho hf hf2 hmon y hD hND hWA hilA hil hBA hOK HT HZ HG hgN hz hok1 hq him hni hqn hnx z z0
            go_upto_region 4 with fail
            rw [HWA.out, HD.out]
            clear y0 y1 y2 y3 y4 y5 HWA HD HV HCK rD hbA hzA
            go_upto_region 6 with (first
              | (go_at_call 30; refine HC.out.mono ?_; clear HC; rintro e w2 ⟨rfl, hB2⟩)
              | fail)
            have HB2 : Hid (Below N w w2) := HBA.out.1.trans (hB2.mono HBA.out.2)
            have p0 : w2.cell? ⟨D, 0, none⟩ = some (.int .i64 num) := (hB2.cell (p := ⟨D, 0, none⟩) HDW.out).trans x0
            have p1 : w2.cell? ⟨g0, e' + im * 6, none⟩ = some (.int .i64 pn) := (hB2.cell (p := ⟨g0, e' + im * 6, none⟩) (Nat.lt_trans HGD.out HDW.out)).trans z1
            clear hB2 x0 x1 x2 x3 x4 x5 z1
            go_quiet (fail)
            go_wp2_with fail
            go_roundg (l.length - (n + 1))
            case measure => omega
            case rel => exact ⟨n + 1, by omega, by go_num, HOK1.out, below_drewN HB2.out _⟩
          · have hT2 : RV = 4 := hmon (by rw [hf2, hnx, Bool.true_and]; simpa using heq)
            subst hT2
            have hne : (num != pm) = true := by simpa using heq
            have HC : Hid (Calls Try.prog 30 #[.agg (cf num (.slice pa gs.length pc) o0 o1 o2 o3)] WA fun e W' => e = .returned (.int .i64 0) ∧ Below WA.heap.size WA W') := HCK
            clear hok hB ho hf hf2 hmon y hD hND hWA hilA hil hBA hOK HT HZ HG hgN hz hq him hni hqn hnx z z0
            go_upto_region 4 with fail
            rw [HWA.out, HD.out]
            clear y0 y1 y2 y3 y4 y5 HWA HD HV HCK rD hbA hzA
            go_upto_region 6 with (first
              | (go_at_call 30; refine HC.out.mono ?_; clear HC; rintro e w2 ⟨rfl, hB2⟩)
              | fail)
            have HB2 : Hid (Below N w w2) := HBA.out.1.trans (hB2.mono HBA.out.2)
            have p0 : w2.cell? ⟨D, 0, none⟩ = some (.int .i64 num) := (hB2.cell (p := ⟨D, 0, none⟩) HDW.out).trans x0
            have p1 : w2.cell? ⟨g0, e' + im * 6, none⟩ = some (.int .i64 pn) := (hB2.cell (p := ⟨g0, e' + im * 6, none⟩) (Nat.lt_trans HGD.out HDW.out)).trans z1
            clear hB2 x0 x1 x2 x3 x4 x5 z1
            go_quiet (fail)
            go_wp2_with fail
            go_ret
            exact ⟨rfl, below_drewN HB2.out _⟩
end Go.Proofs.Ytcehmaegnfelhaa
