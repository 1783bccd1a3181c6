/- Rule 3: the first call that was answered and has no point, walked. -/
import Derived.Test.YtdfonbhboncjmaaDoorPrN
namespace Go.Proofs.YtdfonbhboncjmaaDoor
open Go.RowKit Go.Maps
attribute [local go_sem ↓] Go.wp_at_zero Go.wp_at_succ

def P3 (calls : List Cl) (pts : List Pt) (i : Nat) : Bool := match calls[i]? with
  | some c => !(lastI (pts.map pk2) c.cl c.no pts.length).isSome && decide (c.tt ≠ -1)
  | none => false
theorem P3_at {calls : List Cl} {pts : List Pt} {i : Nat} {c : Cl} (h : calls[i]? = some c) : P3 calls pts i = (!(lastI (pts.map pk2) c.cl c.no pts.length).isSome && decide (c.tt ≠ -1)) := by
  rw [P3, h]
set_option maxRecDepth 20000 in
set_option maxHeartbeats 1500000 in
theorem missingPoint_any (calls : List Cl) (pts : List Pt) (vc vp : Value) (q : Nat) (w : World) (hc : SlF ccs 10 w vc calls) (hp : SlF pks 5 w vp pts) (hl : pts.length ≤ 100000) (hw : ∀ p ∈ pts, wfK (pk2 p)) (hwc : ∀ c ∈ calls, wfK (ck c)) (hlc : calls.length ≤ 100000) :
    Calls Tryd.prog 30 #[.agg #[vc, vp, .map (some q)]] w fun e W' => e = .returned (.int .i64 (fstB (P3 calls pts) calls.length)) ∧ Below w.heap.size w W' := by
  obtain ⟨va, vcap, rfl⟩ := hc.slice
  obtain ⟨pa, pcap, rfl⟩ := hp.slice
  have HV : Hid (SlF ccs 10 w (.slice va calls.length vcap) calls ∧ SlF pks 5 w (.slice pa pts.length pcap) pts ∧ (∀ p ∈ pts, wfK (pk2 p)) ∧ ∀ c ∈ calls, wfK (ck c)) := ⟨hc, hp, hw, hwc⟩
  have hB0 : BP (pts.map pk2) w.heap.size #[.slice va calls.length vcap, .slice pa pts.length pcap, .map (some q)] w [] 0 ((w.alloc (.cells #[.slice va calls.length vcap, .slice pa pts.length pcap, .map (some q)] 61)).alloc (.map #[] 0)) := BP.new
  obtain ⟨N, hN⟩ : ∃ N, w.heap.size = N := ⟨_, rfl⟩
  obtain ⟨W2, hW2⟩ : ∃ W, (w.alloc (.cells #[.slice va calls.length vcap, .slice pa pts.length pcap, .map (some q)] 61)).alloc (.map #[] 0) = W := ⟨_, rfl⟩
  rw [hW2, hN] at hB0
  have HB0 : Hid (_) := hB0
  have HN : Hid (w.heap.size = N) := hN
  have HW : Hid ((w.alloc (.cells #[.slice va calls.length vcap, .slice pa pts.length pcap, .map (some q)] 61)).alloc (.map #[] 0) = W2) := hW2
  have c1 := cellB hB0.box 1 (.slice pa pts.length pcap) rfl
  have hmm := @run_makeMap Tryd.prog
  have HL : Hid (pts.length ≤ 100000 ∧ calls.length ≤ 100000) := ⟨hl, hlc⟩
  clear hc hp hw hwc hB0 hN hW2
  go_enter Tryd.func30, Tryd.ntmps30
  go_upto_region 2 with fail
  rw [HW.out, HN.out]
  clear hmm HW
  go_wp2_with fail
  go_loopg [14] pts.length (fun gk i wr => ∃ (n : Nat) (Q2 : List (Int × Int × Int)), n + gk = pts.length ∧ i = .int .i64 n ∧ BP (pts.map pk2) N #[.slice va calls.length vcap, .slice pa pts.length pcap, .map (some q)] w Q2 n wr)
  case atStart => exact ⟨0, [], by omega, rfl, HB0.out⟩
  case round =>
    obtain ⟨n, Q2, hnn, rfl, hB⟩ := hrel
    by_cases hn1 : n < pts.length
    · obtain ⟨p, ho⟩ : ∃ p, pts[n]? = some p := ⟨_, List.getElem?_eq_getElem hn1⟩
      have hwp := HV.out.2.2.1 p (List.mem_of_getElem? ho)
      have hks : (pts.map pk2)[n]? = some (pk2 p) := by rw [List.getElem?_map, ho]; rfl
      obtain ⟨g, e', hg', -, y⟩ := (HV.out.2.1.on hB.below (by rw [HN.out]; exact Nat.le_refl _)).at ho
      subst hg'
      obtain ⟨tm, pcl, pno, pT, pE⟩ := p
      have y0 : wr.cell? ⟨g, e' + n * 5, none⟩ = some (.int .i64 tm) := y 0 _ rfl
      have y1 : wr.cell? ⟨g, e' + n * 5 + 1, none⟩ = some (.int .i64 pcl) := y 1 _ rfl
      have y2 : wr.cell? ⟨g, e' + n * 5 + 2, none⟩ = some (.int .i64 pno) := y 2 _ rfl
      have y3 : wr.cell? ⟨g, e' + n * 5 + 3, none⟩ = some (.int .i64 pE) := y 3 _ rfl
      have y4 : wr.cell? ⟨g, e' + n * 5 + 4, none⟩ = some (.string (bs pT)) := y 4 _ rfl
      have d0 : (0 : Int) ≤ (n : Int) := by omega
      have d1 : (n : Int) < (pts.length : Int) := by omega
      obtain ⟨D, hD⟩ : ∃ D, wr.heap.size = D := ⟨_, rfl⟩
      have HK : Hid (wfK (pcl, pno) ∧ (pts.map pk2)[n]? = some (pcl, pno)) := ⟨hwp, hks⟩
      have rD := heap_alloc_new wr (.cells #[.int .i64 tm, .int .i64 pcl, .int .i64 pno, .int .i64 pE, .string (bs pT)] 56)
      have hbA := (Below.refl wr.heap.size wr).alloc (Nat.le_refl _) (.cells #[.int .i64 tm, .int .i64 pcl, .int .i64 pno, .int .i64 pE, .string (bs pT)] 56)
      obtain ⟨WA, hWA⟩ : ∃ W, wr.alloc (.cells #[.int .i64 tm, .int .i64 pcl, .int .i64 pno, .int .i64 pE, .string (bs pT)] 56) = W := ⟨_, rfl⟩
      rw [hWA] at rD hbA
      have hBA := hB.on hbA (Nat.le_refl _)
      rw [hD] at rD hbA
      have x0 := cellB rD 0 _ rfl
      have x1 := cellB rD 1 _ rfl
      have x2 := cellB rD 2 _ rfl
      have x3 := cellB rD 3 _ rfl
      have x4 := cellB rD 4 _ rfl
      have HA : Hid (_) := hBA
      have HRQ : Hid (∀ W, Below WA.heap.size WA W → Calls Tryd.prog 42 #[.agg #[.int .i64 tm, .int .i64 pcl, .int .i64 pno, .int .i64 pE, .string (bs pT)]] W fun e W' => e = .returned (.agg #[.int .i64 pcl, .int .i64 pno]) ∧ Below WA.heap.size WA W') := fun W hW => (request_any tm pcl pno pE pT W).mono fun e W' hh => ⟨hh.1, hW.trans (hh.2.mono hW.size)⟩
      have HWA : Hid (wr.alloc (.cells #[.int .i64 tm, .int .i64 pcl, .int .i64 pno, .int .i64 pE, .string (bs pT)] 56) = WA) := hWA
      have HD : Hid (wr.heap.size = D) := hD
      clear hwp hks y hB rD hbA hWA hBA hD ho c1 HB0
      go_upto_region 5 with fail
      rw [HWA.out]
      try rw [HD.out]
      clear y0 y1 y2 y3 y4 HWA HD
      go_wp2_with (go_at_call 42; refine (HRQ.out _ (Below.refl _ _)).mono ?_; rintro e w4 ⟨rfl, hB4⟩; have hBP4 := HA.out.on hB4 (Nat.le_refl _); obtain ⟨w5, hup, hM5, hQ5, hg5⟩ := store_q hBP4.map hBP4.qi (by have := HL.out.1; omega) HK.out.2 HK.out.1; have hBP5 := hBP4.grown hM5 hQ5 hg5)
      go_roundg (pts.length - (n + 1))
      case measure => omega
      case rel => exact ⟨n + 1, _, by omega, by go_num, hBP5⟩
    obtain rfl : n = pts.length := by omega
    have HB : Hid (_) := hB
    have b0 := cellB hB.box 0 _ rfl
    clear hB c1 HB0
    go_wp2_with fail
    go_loopg [27] calls.length (fun gk i wr => ∃ m : Nat, m + gk = calls.length ∧ i = .int .i64 m ∧ (∀ i, i < m → P3 calls pts i = false) ∧ BP (pts.map pk2) N #[.slice va calls.length vcap, .slice pa pts.length pcap, .map (some q)] w Q2 pts.length wr)
    case atStart => exact ⟨0, by omega, rfl, fun i hi => by omega, HB.out⟩
    case round =>
      obtain ⟨m, hmm, rfl, hP, hB⟩ := hrel
      by_cases hn1 : m = calls.length
      · subst hn1
        have HF : Hid (fstB (P3 calls pts) calls.length = -1 ∧ Below N w wr) := ⟨fstB_none hP, hB.below⟩
        clear hP hB HB HV b0
        go_wp2
        go_ret
        rw [HF.out.1]
        exact ⟨rfl, by rw [HN.out]; exact HF.out.2⟩
      have hn2 : m < calls.length := by omega
      obtain ⟨c, ho⟩ : ∃ c, calls[m]? = some c := ⟨_, List.getElem?_eq_getElem hn2⟩
      have hP3 := P3_at (pts := pts) ho
      have hwp := HV.out.2.2.2 c (List.mem_of_getElem? ho)
      have hlk := look_q hB.map hB.qi hwp
      have hia := fun W => isAns_any c.cl c.no c.op.kind c.op.k c.op.v c.op.o c.fr c.tt c.an.2 c.an.1 W
      obtain ⟨SE, hSE⟩ : ∃ x, lastI (pts.map pk2) c.cl c.no pts.length = x := ⟨_, rfl⟩
      rw [hSE] at hP3
      obtain ⟨g, e', hg', -, y⟩ := (HV.out.1.on hB.below (by rw [HN.out]; exact Nat.le_refl _)).at ho
      subst hg'
      obtain ⟨cl, no, ⟨kind, k, v, od⟩, fr, tt, T, E⟩ := c
      have y0 : wr.cell? ⟨g, e' + m * 10, none⟩ = some (.int .i64 cl) := y 0 _ rfl
      have y1 : wr.cell? ⟨g, e' + m * 10 + 1, none⟩ = some (.int .i64 no) := y 1 _ rfl
      have y2 : wr.cell? ⟨g, e' + m * 10 + 2, none⟩ = some (.int .i64 kind) := y 2 _ rfl
      have y3 : wr.cell? ⟨g, e' + m * 10 + 3, none⟩ = some (.string (bs k)) := y 3 _ rfl
      have y4 : wr.cell? ⟨g, e' + m * 10 + 4, none⟩ = some (.string (bs v)) := y 4 _ rfl
      have y5 : wr.cell? ⟨g, e' + m * 10 + 5, none⟩ = some (.string (bs od)) := y 5 _ rfl
      have y6 : wr.cell? ⟨g, e' + m * 10 + 6, none⟩ = some (.int .i64 fr) := y 6 _ rfl
      have y7 : wr.cell? ⟨g, e' + m * 10 + 7, none⟩ = some (.int .i64 tt) := y 7 _ rfl
      have y8 : wr.cell? ⟨g, e' + m * 10 + 8, none⟩ = some (.int .i64 E) := y 8 _ rfl
      have y9 : wr.cell? ⟨g, e' + m * 10 + 9, none⟩ = some (.string (bs T)) := y 9 _ rfl
      have d0 : (0 : Int) ≤ (m : Int) := by omega
      have d1 : (m : Int) < (calls.length : Int) := by omega
      obtain ⟨D, hD⟩ : ∃ D, wr.heap.size = D := ⟨_, rfl⟩
      have rD := heap_alloc_new wr (.cells #[.int .i64 cl, .int .i64 no, .int .i64 kind, .string (bs k), .string (bs v), .string (bs od), .int .i64 fr, .int .i64 tt, .int .i64 E, .string (bs T)] 53)
      have hbA := (Below.refl wr.heap.size wr).alloc (Nat.le_refl _) (.cells #[.int .i64 cl, .int .i64 no, .int .i64 kind, .string (bs k), .string (bs v), .string (bs od), .int .i64 fr, .int .i64 tt, .int .i64 E, .string (bs T)] 53)
      obtain ⟨WA, hWA⟩ : ∃ W, wr.alloc (.cells #[.int .i64 cl, .int .i64 no, .int .i64 kind, .string (bs k), .string (bs v), .string (bs od), .int .i64 fr, .int .i64 tt, .int .i64 E, .string (bs T)] 53) = W := ⟨_, rfl⟩
      rw [hWA] at rD hbA
      have hBA := hB.on hbA (Nat.le_refl _)
      have hlkA := look_q hBA.map hBA.qi hwp
      have hlkB : (Instr.lookup 59 (.map (some (N + 1))) (.agg #[.int .i64 cl, .int .i64 no]) true).run Tryd.prog WA = .ok (.tuple #[.int .i64 ((SE.getD 0 : Nat) : Int), .bool SE.isSome]) WA := by rw [← hSE]; exact hlkA
      rw [hD] at rD hbA
      have x0 := cellB rD 0 _ rfl
      have x1 := cellB rD 1 _ rfl
      have x2 := cellB rD 2 _ rfl
      have x3 := cellB rD 3 _ rfl
      have x4 := cellB rD 4 _ rfl
      have x5 := cellB rD 5 _ rfl
      have x6 := cellB rD 6 _ rfl
      have x7 := cellB rD 7 _ rfl
      have x8 := cellB rD 8 _ rfl
      have x9 := cellB rD 9 _ rfl
      have HA : Hid (_) := hBA
      have HP : Hid (∀ i, i < m → P3 calls pts i = false) := hP
      have HP3 : Hid (P3 calls pts m = (!SE.isSome && decide (tt ≠ -1))) := hP3
      obtain ⟨AN, hAN⟩ : ∃ x, decide (tt ≠ -1) = x := ⟨_, rfl⟩
      have hia' : ∀ W, Calls Tryd.prog 43 #[.agg #[.int .i64 cl, .int .i64 no, .int .i64 kind, .string (bs k), .string (bs v), .string (bs od), .int .i64 fr, .int .i64 tt, .int .i64 E, .string (bs T)]] W fun e W' => e = .returned (.bool (decide (tt ≠ -1))) ∧ Below W.heap.size W W' := hia
      rw [hAN] at HP3 hia'
      have HIA : Hid (∀ W, Below WA.heap.size WA W → Calls Tryd.prog 43 #[.agg #[.int .i64 cl, .int .i64 no, .int .i64 kind, .string (bs k), .string (bs v), .string (bs od), .int .i64 fr, .int .i64 tt, .int .i64 E, .string (bs T)]] W fun e W' => e = .returned (.bool AN) ∧ Below WA.heap.size WA W') := fun W hW => (hia' W).mono fun e W' hh => ⟨hh.1, hW.trans (hh.2.mono hW.size)⟩
      have HWA : Hid (wr.alloc (.cells #[.int .i64 cl, .int .i64 no, .int .i64 kind, .string (bs k), .string (bs v), .string (bs od), .int .i64 fr, .int .i64 tt, .int .i64 E, .string (bs T)] 53) = WA) := hWA
      have HD : Hid (wr.heap.size = D) := hD
      clear hwp hP3 hP y hB rD hbA hWA hBA hD ho HB hlkA hlk hia hia' hAN hSE b0
      go_upto_region 10 with fail
      rw [HWA.out]
      try rw [HD.out]
      clear y0 y1 y2 y3 y4 y5 y6 y7 y8 y9 HWA HD
      cases SE with
      | some j =>
        have HPN : Hid (∀ i, i < m + 1 → P3 calls pts i = false) := fun i hi => by
          by_cases e : i = m
          · subst e; rw [HP3.out]; rfl
          · exact HP.out i (by omega)
        clear HP HP3 HIA HV
        go_wp2
        go_roundg (calls.length - (m + 1))
        case measure => omega
        case rel => exact ⟨m + 1, by omega, by go_num, HPN.out, HA.out⟩
      | none =>
        cases AN with
        | true =>
          have HF : Hid (fstB (P3 calls pts) calls.length = m) := fstB_at hn2 (by rw [HP3.out]; rfl) HP.out
          clear HP HP3 HV
          go_wp2_with (go_at_call 43; refine (HIA.out _ (Below.refl _ _)).mono ?_; rintro e w4 ⟨rfl, hB4⟩)
          go_ret
          rw [HF.out]
          exact ⟨rfl, by rw [HN.out]; exact (HA.out.on hB4 (Nat.le_refl _)).below⟩
        | false =>
          have HPN : Hid (∀ i, i < m + 1 → P3 calls pts i = false) := fun i hi => by
            by_cases e : i = m
            · subst e; rw [HP3.out]; rfl
            · exact HP.out i (by omega)
          clear HP HP3 HV
          go_wp2_with (go_at_call 43; refine (HIA.out _ (Below.refl _ _)).mono ?_; rintro e w4 ⟨rfl, hB4⟩)
          go_roundg (calls.length - (m + 1))
          case measure => omega
          case rel => exact ⟨m + 1, by omega, by go_num, HPN.out, HA.out.on hB4 (Nat.le_refl _)⟩
end Go.Proofs.YtdfonbhboncjmaaDoor
