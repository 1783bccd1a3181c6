/- The document's find, walked. -/
import Derived.Test.YtdfonbhboncjmaaDoorPoA
import Derived.Test.YtdfonbhboncjmaaDoorPrT
namespace Go.Proofs.YtdfonbhboncjmaaDoor
open Go.RowKit Go.Maps
attribute [local go_sem ↓] Go.wp_at_zero Go.wp_at_succ

/-- The first call of a point. -/
def fnI (calls : List Cl) (p : Pt) : Int := fstB (fun i => decide ((calls.map ck)[i]? = some (pk2 p))) calls.length
set_option maxRecDepth 20000 in
set_option maxHeartbeats 1500000 in
theorem find_any (calls : List Cl) (p : Pt) (vc : Value) (w : World) (hc : SlF ccs 10 w vc calls) (hl : calls.length ≤ 100000) : Calls Tryd.prog 22 #[vc, ptV p] w fun e W' => e = .returned (.int .i64 (fnI calls p)) ∧ Below w.heap.size w W' := by
  obtain ⟨va, vcap, rfl⟩ := hc.slice
  obtain ⟨P, hP⟩ : ∃ P : Nat → Bool, (fun i => decide ((calls.map ck)[i]? = some (pk2 p))) = P := ⟨_, rfl⟩
  have hF : fnI calls p = fstB P calls.length := by rw [fnI, hP]
  have hPi : ∀ i c, calls[i]? = some c → P i = (decide (c.cl = p.cl) && decide (c.no = p.no)) := fun i c h => by
    rw [← hP]
    show decide ((calls.map ck)[i]? = some (pk2 p)) = _
    rw [List.getElem?_map, h]
    show decide (some (c.cl, c.no) = some (p.cl, p.no)) = _
    rw [Bool.eq_iff_iff]
    simp
  rw [hF]
  obtain ⟨tm, pcl, pno, pT, pE⟩ := p
  show Calls Tryd.prog 22 #[.slice va calls.length vcap, .agg #[.int .i64 tm, .int .i64 pcl, .int .i64 pno, .int .i64 pE, .string (bs pT)]] w _
  obtain ⟨N, hN⟩ : ∃ N, w.heap.size = N := ⟨_, rfl⟩
  obtain ⟨W2, hW2⟩ : ∃ W, w.alloc (.cells #[.int .i64 tm, .int .i64 pcl, .int .i64 pno, .int .i64 pE, .string (bs pT)] 70) = W := ⟨_, rfl⟩
  have hb1 : Below N w W2 := by rw [← hW2, ← hN]; exact (Below.refl _ w).alloc (Nat.le_refl _) _
  have z0 := heap_alloc_new w (.cells #[.int .i64 tm, .int .i64 pcl, .int .i64 pno, .int .i64 pE, .string (bs pT)] 70)
  rw [hW2, hN] at z0
  have HV : Hid (∀ W, Below N w W → SlF ccs 10 W (.slice va calls.length vcap) calls) := fun W hW => hc.on hW (by omega)
  have HW : Hid (w.alloc (.cells #[.int .i64 tm, .int .i64 pcl, .int .i64 pno, .int .i64 pE, .string (bs pT)] 70) = W2) := hW2
  have HN : Hid (w.heap.size = N) := hN
  have HZ : Hid (W2.heap[N]? = some (.cells #[.int .i64 tm, .int .i64 pcl, .int .i64 pno, .int .i64 pE, .string (bs pT)] 70) ∧ Below N w W2 ∧ N < W2.heap.size) := ⟨z0, hb1, by rw [← hW2, ← hN, World.size_alloc]; omega⟩
  have HPi : Hid (∀ i c, calls[i]? = some c → P i = (decide (c.cl = pcl) && decide (c.no = pno))) := hPi
  clear hc hP hF hPi hb1 z0 hW2 hN
  go_enter Tryd.func22, Tryd.ntmps22
  go_upto_region 1 with fail
  rw [HW.out]
  try rw [HN.out]
  go_wp2_with fail
  go_loopg [9] calls.length (fun gk i wr => ∃ n : Nat, n + gk = calls.length ∧ i = .int .i64 n ∧ (∀ j, j < n → P j = false) ∧ Below (N + 1) W2 wr)
  case atStart => exact ⟨0, by omega, rfl, fun i hi => by omega, Below.refl _ _⟩
  case round =>
    obtain ⟨n, hnn, rfl, hP, hB⟩ := hrel
    have hBN := HZ.out.2.1.trans (hB.mono (by omega))
    by_cases hn1 : n = calls.length
    · subst hn1
      have HF : Hid (fstB P calls.length = -1 ∧ Below N w wr) := ⟨fstB_none hP, hBN⟩
      clear hP hB hBN HV HZ
      go_wp2
      go_ret
      rw [HF.out.1]
      exact ⟨rfl, by rw [HN.out]; exact HF.out.2⟩
    have hn2 : n < calls.length := by omega
    obtain ⟨c, ho⟩ : ∃ c, calls[n]? = some c := ⟨_, List.getElem?_eq_getElem hn2⟩
    have hPn := HPi.out n c ho
    obtain ⟨g, e', hg', -, y⟩ := (HV.out _ hBN).at ho
    subst hg'
    obtain ⟨cl, no, ⟨kind, k, v, od⟩, fr, tt, T, E⟩ := c
    have y0 : wr.cell? ⟨g, e' + n * 10, none⟩ = some (.int .i64 cl) := y 0 _ rfl
    have y1 : wr.cell? ⟨g, e' + n * 10 + 1, none⟩ = some (.int .i64 no) := y 1 _ rfl
    have y2 : wr.cell? ⟨g, e' + n * 10 + 2, none⟩ = some (.int .i64 kind) := y 2 _ rfl
    have y3 : wr.cell? ⟨g, e' + n * 10 + 3, none⟩ = some (.string (bs k)) := y 3 _ rfl
    have y4 : wr.cell? ⟨g, e' + n * 10 + 4, none⟩ = some (.string (bs v)) := y 4 _ rfl
    have y5 : wr.cell? ⟨g, e' + n * 10 + 5, none⟩ = some (.string (bs od)) := y 5 _ rfl
    have y6 : wr.cell? ⟨g, e' + n * 10 + 6, none⟩ = some (.int .i64 fr) := y 6 _ rfl
    have y7 : wr.cell? ⟨g, e' + n * 10 + 7, none⟩ = some (.int .i64 tt) := y 7 _ rfl
    have y8 : wr.cell? ⟨g, e' + n * 10 + 8, none⟩ = some (.int .i64 E) := y 8 _ rfl
    have y9 : wr.cell? ⟨g, e' + n * 10 + 9, none⟩ = some (.string (bs T)) := y 9 _ rfl
    have d0 : (0 : Int) ≤ (n : Int) := by omega
    have d1 : (n : Int) < (calls.length : Int) := by omega
    obtain ⟨D, hD⟩ : ∃ D, wr.heap.size = D := ⟨_, rfl⟩
    have hDN : N + 1 ≤ D := by have := hB.size; have := HZ.out.2.2; omega
    have rD := heap_alloc_new wr (.cells #[.int .i64 cl, .int .i64 no, .int .i64 kind, .string (bs k), .string (bs v), .string (bs od), .int .i64 fr, .int .i64 tt, .int .i64 E, .string (bs T)] 68)
    have hbA := (Below.refl wr.heap.size wr).alloc (Nat.le_refl _) (.cells #[.int .i64 cl, .int .i64 no, .int .i64 kind, .string (bs k), .string (bs v), .string (bs od), .int .i64 fr, .int .i64 tt, .int .i64 E, .string (bs T)] 68)
    obtain ⟨WA, hWA⟩ : ∃ W, wr.alloc (.cells #[.int .i64 cl, .int .i64 no, .int .i64 kind, .string (bs k), .string (bs v), .string (bs od), .int .i64 fr, .int .i64 tt, .int .i64 E, .string (bs T)] 68) = W := ⟨_, rfl⟩
    rw [hWA] at rD hbA
    rw [hD] at rD hbA
    have x0 := cellB rD 0 _ rfl
    have x1 := cellB rD 1 _ rfl
    have zA := (((hB.trans (hbA.mono hDN)).block N (by omega))).trans HZ.out.1
    have c1 := cellB zA 1 _ rfl
    have c2 := cellB zA 2 _ rfl
    have HA : Hid (Below (N + 1) W2 WA) := hB.trans (hbA.mono hDN)
    have HP : Hid (∀ j, j < n → P j = false) := hP
    have HPn : Hid (P n = (decide (cl = pcl) && decide (no = pno))) := hPn
    have HWA : Hid (wr.alloc (.cells #[.int .i64 cl, .int .i64 no, .int .i64 kind, .string (bs k), .string (bs v), .string (bs od), .int .i64 fr, .int .i64 tt, .int .i64 E, .string (bs T)] 68) = WA) := hWA
    have HD : Hid (wr.heap.size = D) := hD
    clear hP hB hBN hPn y hD hDN rD hbA hWA zA ho
    go_upto_region 4 with fail
    rw [HWA.out]
    try rw [HD.out]
    clear y0 y1 y2 y3 y4 y5 y6 y7 y8 y9 HWA HD
    by_cases e : cl = pcl ∧ no = pno
    · have e1 : (cl == pcl) = true := by simpa using e.1
      have e2 : (no == pno) = true := by simpa using e.2
      have HF : Hid (fstB P calls.length = n ∧ Below N w WA) := ⟨fstB_at hn2 (by rw [HPn.out, decide_eq_true e.1, decide_eq_true e.2]; rfl) HP.out, HZ.out.2.1.trans (HA.out.mono (by omega))⟩
      clear e HP HPn HA HV HZ
      go_wp2
      go_ret
      rw [HF.out.1]
      exact ⟨rfl, by rw [HN.out]; exact HF.out.2⟩
    · have HPN : Hid (∀ j, j < n + 1 → P j = false) := fun j hj => by
        by_cases ej : j = n
        · subst ej
          rw [HPn.out, ← Bool.decide_and]
          exact decide_eq_false e
        · exact HP.out j (by omega)
      by_cases e1 : cl = pcl
      · have e3 : (cl == pcl) = true := by simpa using e1
        have e2 : (no == pno) = false := by simpa using fun h => e ⟨e1, h⟩
        clear e e1 HP HPn HV HZ
        go_wp2
        go_roundg (calls.length - (n + 1))
        case measure => omega
        case rel => exact ⟨n + 1, by omega, by go_num, HPN.out, HA.out⟩
      · have e3 : (cl == pcl) = false := by simpa using e1
        clear e e1 HP HPn HV HZ
        go_wp2
        go_roundg (calls.length - (n + 1))
        case measure => omega
        case rel => exact ⟨n + 1, by omega, by go_num, HPN.out, HA.out⟩
end Go.Proofs.YtdfonbhboncjmaaDoor
