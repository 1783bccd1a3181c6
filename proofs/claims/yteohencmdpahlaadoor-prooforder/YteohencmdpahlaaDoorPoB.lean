/- Where a call's point stands, walked. -/
import Derived.Test.YteohencmdpahlaaDoorPoA
import Derived.Test.YteohencmdpahlaaDoorPrT
namespace Go.Proofs.YteohencmdpahlaaDoor
open Go.RowKit Go.Maps
attribute [local go_sem ↓] Go.wp_at_zero Go.wp_at_succ

set_option maxRecDepth 20000 in
set_option maxHeartbeats 1500000 in
theorem pAt_any (c : Cl) (pts : List Pt) (vp : Value) (w : World) (hp : SlF pks 5 w vp pts) (hl : pts.length ≤ 100000) : Calls Tryd.prog 16 #[clV c, vp] w fun e W' => e = .returned (.int .i64 (atP pts c)) ∧ Below w.heap.size w W' := by
  obtain ⟨pa, pcap, rfl⟩ := hp.slice
  obtain ⟨P, hP⟩ : ∃ P : Nat → Bool, (fun i => decide ((pts.map pk2)[i]? = some (ck c))) = P := ⟨_, rfl⟩
  have hF : atP pts c = fstB P pts.length := by rw [atP, hP]
  have hPi : ∀ i p, pts[i]? = some p → P i = (decide (p.cl = c.cl) && decide (p.no = c.no)) := fun i p h => by
    rw [← hP]
    show decide ((pts.map pk2)[i]? = some (ck c)) = _
    rw [List.getElem?_map, h]
    show decide (some (p.cl, p.no) = some (c.cl, c.no)) = _
    rw [Bool.eq_iff_iff]
    simp
  rw [hF]
  obtain ⟨cl, no, ⟨kind, k, v, od⟩, fr, tt, T, E⟩ := c
  show Calls Tryd.prog 16 #[.agg #[.int .i64 cl, .int .i64 no, .int .i64 kind, .string (bs k), .string (bs v), .string (bs od), .int .i64 fr, .int .i64 tt, .int .i64 E, .string (bs T)], .slice pa pts.length pcap] w _
  obtain ⟨N, hN⟩ : ∃ N, w.heap.size = N := ⟨_, rfl⟩
  obtain ⟨W2, hW2⟩ : ∃ W, w.alloc (.cells #[.int .i64 cl, .int .i64 no, .int .i64 kind, .string (bs k), .string (bs v), .string (bs od), .int .i64 fr, .int .i64 tt, .int .i64 E, .string (bs T)] 53) = W := ⟨_, rfl⟩
  have hb1 : Below N w W2 := by rw [← hW2, ← hN]; exact (Below.refl _ w).alloc (Nat.le_refl _) _
  have z0 := heap_alloc_new w (.cells #[.int .i64 cl, .int .i64 no, .int .i64 kind, .string (bs k), .string (bs v), .string (bs od), .int .i64 fr, .int .i64 tt, .int .i64 E, .string (bs T)] 53)
  rw [hW2, hN] at z0
  have HV : Hid (∀ W, Below N w W → SlF pks 5 W (.slice pa pts.length pcap) pts) := fun W hW => hp.on hW (by omega)
  have HW : Hid (w.alloc (.cells #[.int .i64 cl, .int .i64 no, .int .i64 kind, .string (bs k), .string (bs v), .string (bs od), .int .i64 fr, .int .i64 tt, .int .i64 E, .string (bs T)] 53) = W2) := hW2
  have HN : Hid (w.heap.size = N) := hN
  have HZ : Hid (W2.heap[N]? = some (.cells #[.int .i64 cl, .int .i64 no, .int .i64 kind, .string (bs k), .string (bs v), .string (bs od), .int .i64 fr, .int .i64 tt, .int .i64 E, .string (bs T)] 53) ∧ Below N w W2 ∧ N < W2.heap.size) := ⟨z0, hb1, by rw [← hW2, ← hN, World.size_alloc]; omega⟩
  have HPi : Hid (∀ i p, pts[i]? = some p → P i = (decide (p.cl = cl) && decide (p.no = no))) := hPi
  clear hp hP hF hPi hb1 z0 hW2 hN
  go_enter Tryd.func16, Tryd.ntmps16
  go_upto_region 1 with fail
  rw [HW.out]
  try rw [HN.out]
  go_wp2_with fail
  go_loopg [9] pts.length (fun gk i wr => ∃ n : Nat, n + gk = pts.length ∧ i = .int .i64 n ∧ (∀ j, j < n → P j = false) ∧ Below (N + 1) W2 wr)
  case atStart => exact ⟨0, by omega, rfl, fun i hi => by omega, Below.refl _ _⟩
  case round =>
    obtain ⟨n, hnn, rfl, hP, hB⟩ := hrel
    have hBN := HZ.out.2.1.trans (hB.mono (by omega))
    by_cases hn1 : n = pts.length
    · subst hn1
      have HF : Hid (fstB P pts.length = -1 ∧ Below N w wr) := ⟨fstB_none hP, hBN⟩
      clear hP hB hBN HV HZ
      go_wp2
      go_ret
      rw [HF.out.1]
      exact ⟨rfl, by rw [HN.out]; exact HF.out.2⟩
    have hn2 : n < pts.length := by omega
    obtain ⟨p, ho⟩ : ∃ p, pts[n]? = some p := ⟨_, List.getElem?_eq_getElem hn2⟩
    have hPn := HPi.out n p ho
    obtain ⟨g, e', hg', -, y⟩ := (HV.out _ hBN).at ho
    subst hg'
    obtain ⟨tm, pcl, pno, pT, pE⟩ := p
    have y0 : wr.cell? ⟨g, e' + n * 5, none⟩ = some (.int .i64 tm) := y 0 _ rfl
    have y1 : wr.cell? ⟨g, e' + n * 5 + 1, none⟩ = some (.int .i64 pcl) := y 1 _ rfl
    have y2 : wr.cell? ⟨g, e' + n * 5 + 2, none⟩ = some (.int .i64 pno) := y 2 _ rfl
    have y3 : wr.cell? ⟨g, e' + n * 5 + 3, none⟩ = some (.int .i64 pE) := y 3 _ rfl
    have y4 : wr.cell? ⟨g, e' + n * 5 + 4, none⟩ = some (.string (bs pT)) := y 4 _ rfl
    have d0 : (0 : Int) ≤ (n : Int) := by omega
    have d1 : (n : Int) < (pts.length : Int) := by omega
    obtain ⟨D, hD⟩ : ∃ D, wr.heap.size = D := ⟨_, rfl⟩
    have hDN : N + 1 ≤ D := by have := hB.size; have := HZ.out.2.2; omega
    have rD := heap_alloc_new wr (.cells #[.int .i64 tm, .int .i64 pcl, .int .i64 pno, .int .i64 pE, .string (bs pT)] 56)
    have hbA := (Below.refl wr.heap.size wr).alloc (Nat.le_refl _) (.cells #[.int .i64 tm, .int .i64 pcl, .int .i64 pno, .int .i64 pE, .string (bs pT)] 56)
    obtain ⟨WA, hWA⟩ : ∃ W, wr.alloc (.cells #[.int .i64 tm, .int .i64 pcl, .int .i64 pno, .int .i64 pE, .string (bs pT)] 56) = W := ⟨_, rfl⟩
    rw [hWA] at rD hbA
    rw [hD] at rD hbA
    have x1 := cellB rD 1 _ rfl
    have x2 := cellB rD 2 _ rfl
    have zA := (((hB.trans (hbA.mono hDN)).block N (by omega))).trans HZ.out.1
    have c0 := cellB zA 0 _ rfl
    have c1 := cellB zA 1 _ rfl
    have HA : Hid (Below (N + 1) W2 WA) := hB.trans (hbA.mono hDN)
    have HP : Hid (∀ j, j < n → P j = false) := hP
    have HPn : Hid (P n = (decide (pcl = cl) && decide (pno = no))) := hPn
    have HWA : Hid (wr.alloc (.cells #[.int .i64 tm, .int .i64 pcl, .int .i64 pno, .int .i64 pE, .string (bs pT)] 56) = WA) := hWA
    have HD : Hid (wr.heap.size = D) := hD
    clear hP hB hBN hPn y hD hDN rD hbA hWA zA ho
    go_upto_region 4 with fail
    rw [HWA.out]
    try rw [HD.out]
    clear y0 y1 y2 y3 y4 HWA HD
    by_cases e : pcl = cl ∧ pno = no
    · have e1 : (pcl == cl) = true := by simpa using e.1
      have e2 : (pno == no) = true := by simpa using e.2
      have HF : Hid (fstB P pts.length = n ∧ Below N w WA) := ⟨fstB_at hn2 (by rw [HPn.out, decide_eq_true e.1, decide_eq_true e.2]; rfl) HP.out, HZ.out.2.1.trans (HA.out.mono (by omega))⟩
      clear e HP HPn HA HV HZ
      go_wp2
      go_ret
      rw [HF.out.1]
      exact ⟨rfl, by rw [HN.out]; exact HF.out.2⟩
    · have HPN : Hid (∀ j, j < n + 1 → P j = false) := fun j hj => by
        by_cases ej : j = n
        · subst ej
          rw [HPn.out, ← Bool.decide_and]
          exact decide_eq_false e
        · exact HP.out j (by omega)
      by_cases e1 : pcl = cl
      · have e3 : (pcl == cl) = true := by simpa using e1
        have e2 : (pno == no) = false := by simpa using fun h => e ⟨e1, h⟩
        clear e e1 HP HPn HV HZ
        go_wp2
        go_roundg (pts.length - (n + 1))
        case measure => omega
        case rel => exact ⟨n + 1, by omega, by go_num, HPN.out, HA.out⟩
      · have e3 : (pcl == cl) = false := by simpa using e1
        clear e e1 HP HPn HV HZ
        go_wp2
        go_roundg (pts.length - (n + 1))
        case measure => omega
        case rel => exact ⟨n + 1, by omega, by go_num, HPN.out, HA.out⟩
end Go.Proofs.YteohencmdpahlaaDoor
