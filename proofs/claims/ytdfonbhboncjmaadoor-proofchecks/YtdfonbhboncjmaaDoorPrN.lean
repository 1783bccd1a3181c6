/- Rule 2: the first point that no call has, walked. -/
import Derived.Test.YtdfonbhboncjmaaDoorPrM
namespace Go.Proofs.YtdfonbhboncjmaaDoor
open Go.RowKit Go.Maps
attribute [local go_sem ↓] Go.wp_at_zero Go.wp_at_succ

/-- The moment ahead of a point. -/
def prevT (pts : List Pt) : Nat → Int
  | 0 => 0
  | n + 1 => match pts[n]? with
    | some p => p.tm
    | none => 0
theorem prevT_succ {pts : List Pt} {n : Nat} {p : Pt} (h : pts[n]? = some p) : prevT pts (n + 1) = p.tm := by
  show (match pts[n]? with | some p => p.tm | none => 0) = _
  rw [h]
def P2 (calls : List Cl) (pts : List Pt) (i : Nat) : Bool := match pts[i]? with
  | some p => decide (p.tm < prevT pts i) || !(callOf calls p).isSome || !(hasM ((callOf calls p).getD clZ) p.tm) || (lastI (pts.map pk2) p.cl p.no i).isSome
  | none => false
theorem P2_at {calls : List Cl} {pts : List Pt} {i : Nat} {p : Pt} (h : pts[i]? = some p) : P2 calls pts i = (decide (p.tm < prevT pts i) || !(callOf calls p).isSome || !(hasM ((callOf calls p).getD clZ) p.tm) || (lastI (pts.map pk2) p.cl p.no i).isSome) := by
  rw [P2, h]
/-- In the midst of a walk through points: the history's box, the map of the points so far. -/
structure BP (ks : List (Int × Int)) (N : Nat) (hist : Array Value) (w : World) (Q : List (Int × Int × Int)) (n : Nat) (W : World) : Prop where
  box : W.heap[N]? = some (.cells hist 61)
  map : MapAt W 87 (some (N + 1)) (Q.map sent)
  qi : QI ks n Q
  below : Below N w W
theorem BP.on {ks : List (Int × Int)} {N : Nat} {hist : Array Value} {w : World} {Q : List (Int × Int × Int)} {n : Nat} {W W' : World} {m : Nat} (h : BP ks N hist w Q n W) (hb : Below m W W') (hm : W.heap.size ≤ m) : BP ks N hist w Q n W' := by
  have hN : N < W.heap.size := (Array.getElem?_eq_some_iff.1 h.box).1
  exact ⟨(hb.block N (by omega)).trans h.box, h.map.keep fun b e => hb.block b (by have := h.map.lt e; omega), h.qi, h.below.trans (hb.mono (by omega))⟩
theorem BP.grown {ks : List (Int × Int)} {N : Nat} {hist : Array Value} {w : World} {Q Q' : List (Int × Int × Int)} {n n' : Nat} {W W' : World} (h : BP ks N hist w Q n W) (hM : MapAt W' 87 (some (N + 1)) (Q'.map sent)) (hQ : QI ks n' Q') (hg : W.grownBy W' (some (N + 1))) : BP ks N hist w Q' n' W' := by
  have hN : N < W.heap.size := (Array.getElem?_eq_some_iff.1 h.box).1
  exact ⟨(hg.block N hN (fun e => by injection e with e; omega)).trans h.box, hM, hQ, h.below.grown hg (by omega) (fun z hz => by injection hz with hz; omega)⟩
/-- A history's box and an empty map. -/
theorem BP.new {ks : List (Int × Int)} {w : World} {hist : Array Value} : BP ks w.heap.size hist w [] 0 ((w.alloc (.cells hist 61)).alloc (.map #[] 0)) := by
  have h1 := MapAt.made (w.alloc (.cells hist 61)) 87
  rw [World.size_alloc] at h1
  exact ⟨((Below.refl (w.heap.size + 1) (w.alloc (.cells hist 61))).alloc (by simp) _).block w.heap.size (by omega) |>.trans (heap_alloc_new _ _), h1, QI.nil _, ((Below.refl _ w).alloc (Nat.le_refl _) _).alloc (by simp) _⟩
set_option maxRecDepth 20000 in
set_option maxHeartbeats 1500000 in
theorem brokenPoint_any (calls : List Cl) (pts : List Pt) (vc vp : Value) (q : Nat) (Q : List (Int × Int × Int)) (w : World) (hc : SlF ccs 10 w vc calls) (hp : SlF pks 5 w vp pts) (hM : MapAt w 87 (some q) (Q.map sent)) (hQ : QI (calls.map ck) calls.length Q) (hl : pts.length ≤ 100000) (hw : ∀ p ∈ pts, wfK (pk2 p)) :
    Calls Tryd.prog 29 #[.agg #[vc, vp, .map (some q)]] w fun e W' => e = .returned (.int .i64 (fstB (P2 calls pts) pts.length)) ∧ Below w.heap.size w W' := by
  obtain ⟨va, vcap, rfl⟩ := hc.slice
  obtain ⟨pa, pcap, rfl⟩ := hp.slice
  have HV : Hid (SlF ccs 10 w (.slice va calls.length vcap) calls ∧ SlF pks 5 w (.slice pa pts.length pcap) pts ∧ MapAt w 87 (some q) (Q.map sent) ∧ QI (calls.map ck) calls.length Q ∧ ∀ p ∈ pts, wfK (pk2 p)) := ⟨hc, hp, hM, hQ, hw⟩
  have hB0 : BP (pts.map pk2) w.heap.size #[.slice va calls.length vcap, .slice pa pts.length pcap, .map (some q)] w [] 0 ((w.alloc (.cells #[.slice va calls.length vcap, .slice pa pts.length pcap, .map (some q)] 61)).alloc (.map #[] 0)) := BP.new
  obtain ⟨N, hN⟩ : ∃ N, w.heap.size = N := ⟨_, rfl⟩
  obtain ⟨W2, hW2⟩ : ∃ W, (w.alloc (.cells #[.slice va calls.length vcap, .slice pa pts.length pcap, .map (some q)] 61)).alloc (.map #[] 0) = W := ⟨_, rfl⟩
  rw [hW2, hN] at hB0
  have HB0 : Hid (_) := hB0
  have HN : Hid (w.heap.size = N) := hN
  have HW : Hid ((w.alloc (.cells #[.slice va calls.length vcap, .slice pa pts.length pcap, .map (some q)] 61)).alloc (.map #[] 0) = W2) := hW2
  have c1 := cellB hB0.box 1 (.slice pa pts.length pcap) rfl
  have hmm := @run_makeMap Tryd.prog
  clear hc hp hM hQ hw hB0 hN hW2
  go_enter Tryd.func29, Tryd.ntmps29
  go_upto_region 2 with fail
  rw [HW.out, HN.out]
  clear hmm HW
  go_wp2_with fail
  go_loopg [4, 15] pts.length (fun gk lt i wr => ∃ (n : Nat) (Q2 : List (Int × Int × Int)), n + gk = pts.length ∧ i = .int .i64 n ∧ lt = .int .i64 (prevT pts n) ∧ (∀ i, i < n → P2 calls pts i = false) ∧ BP (pts.map pk2) N #[.slice va calls.length vcap, .slice pa pts.length pcap, .map (some q)] w Q2 n wr)
  case atStart => exact ⟨0, [], by omega, rfl, rfl, fun i hi => by omega, HB0.out⟩
  case round =>
    obtain ⟨n, Q2, hnn, rfl, rfl, hP, hB⟩ := hrel
    by_cases hn1 : n = pts.length
    · subst hn1
      have HF : Hid (fstB (P2 calls pts) pts.length = -1 ∧ Below N w wr) := ⟨fstB_none hP, hB.below⟩
      clear hP hB HB0 HV c1
      go_wp2
      go_ret
      rw [HF.out.1]
      exact ⟨rfl, by rw [HN.out]; exact HF.out.2⟩
    have hn2 : n < pts.length := by omega
    obtain ⟨p, ho⟩ : ∃ p, pts[n]? = some p := ⟨_, List.getElem?_eq_getElem hn2⟩
    have hP2 := P2_at (calls := calls) ho
    have hwp := HV.out.2.2.2.2 p (List.mem_of_getElem? ho)
    have hks : (pts.map pk2)[n]? = some (pk2 p) := by rw [List.getElem?_map, ho]; rfl
    have hps := prevT_succ ho
    have hcf := fun W (h : Below N w W) => callOf_any calls (.slice va calls.length vcap) pa pts.length pcap q Q p W (HV.out.1.on h (by rw [HN.out]; exact Nat.le_refl _)) (HV.out.2.2.1.keep fun b e => h.block b (by have := HV.out.2.2.1.lt e; have := HN.out; omega)) HV.out.2.2.2.1 hwp
    obtain ⟨c, hce⟩ : ∃ c, (callOf calls p).getD clZ = c := ⟨_, rfl⟩
    obtain ⟨ok, hok⟩ : ∃ ok, (callOf calls p).isSome = ok := ⟨_, rfl⟩
    have hha := fun m W => has_any c m W
    obtain ⟨LT, hLT⟩ : ∃ x, prevT pts n = x := ⟨_, rfl⟩
    obtain ⟨SE, hSE⟩ : ∃ x, lastI (pts.map pk2) p.cl p.no n = x := ⟨_, rfl⟩
    rw [hce, hok] at hcf
    rw [hce, hok, hLT, hSE] at hP2
    rw [hLT]
    obtain ⟨g, e', hg', -, y⟩ := (HV.out.2.1.on hB.below (by rw [HN.out]; exact Nat.le_refl _)).at ho
    subst hg'
    obtain ⟨tm, pcl, pno, pT, pE⟩ := p
    obtain ⟨HM, hHM⟩ : ∃ x, hasM c tm = x := ⟨_, rfl⟩
    have hha1 := hha tm
    rw [hHM] at hP2 hha1
    obtain ⟨cl, no, ⟨kind, k, v, od⟩, fr, tt, T, E⟩ := c
    have y0 : wr.cell? ⟨g, e' + n * 5, none⟩ = some (.int .i64 tm) := y 0 _ rfl
    have y1 : wr.cell? ⟨g, e' + n * 5 + 1, none⟩ = some (.int .i64 pcl) := y 1 _ rfl
    have y2 : wr.cell? ⟨g, e' + n * 5 + 2, none⟩ = some (.int .i64 pno) := y 2 _ rfl
    have y3 : wr.cell? ⟨g, e' + n * 5 + 3, none⟩ = some (.int .i64 pE) := y 3 _ rfl
    have y4 : wr.cell? ⟨g, e' + n * 5 + 4, none⟩ = some (.string (bs pT)) := y 4 _ rfl
    have d0 : (0 : Int) ≤ (n : Int) := by omega
    have d1 : (n : Int) < (pts.length : Int) := by omega
    obtain ⟨D, hD⟩ : ∃ D, wr.heap.size = D := ⟨_, rfl⟩
    have HP : Hid (∀ i, i < n → P2 calls pts i = false) := hP
    have HP2 : Hid (P2 calls pts n = (decide (tm < LT) || !ok || !HM || SE.isSome)) := hP2
    have HK : Hid (wfK (pcl, pno) ∧ (pts.map pk2)[n]? = some (pcl, pno) ∧ lastI (pts.map pk2) pcl pno n = SE ∧ prevT pts (n + 1) = tm) := ⟨hwp, hks, hSE, hps⟩
    have HB : Hid (_) := hB
    have HND : Hid (N + 1 < D) := by rw [← hD]; exact hB.map.lt rfl
    have rD := heap_alloc_new wr (.cells #[.int .i64 tm, .int .i64 pcl, .int .i64 pno, .int .i64 pE, .string (bs pT)] 56)
    have hbA := (Below.refl wr.heap.size wr).alloc (Nat.le_refl _) (.cells #[.int .i64 tm, .int .i64 pcl, .int .i64 pno, .int .i64 pE, .string (bs pT)] 56)
    obtain ⟨WA, hWA⟩ : ∃ W, wr.alloc (.cells #[.int .i64 tm, .int .i64 pcl, .int .i64 pno, .int .i64 pE, .string (bs pT)] 56) = W := ⟨_, rfl⟩
    rw [hWA] at rD hbA
    have hBA := hB.on hbA (Nat.le_refl _)
    have hzA : WA.heap.size = D + 1 := by rw [← hWA, ← hD]; simp
    have HCF : Hid (∀ W, Below (D + 1) WA W → Calls Tryd.prog 40 #[.agg #[.slice va calls.length vcap, .slice (some ⟨g, e', none⟩) pts.length pcap, .map (some q)], .agg #[.int .i64 tm, .int .i64 pcl, .int .i64 pno, .int .i64 pE, .string (bs pT)]] W fun e W' => e = .returned (.tuple #[.agg #[.int .i64 cl, .int .i64 no, .int .i64 kind, .string (bs k), .string (bs v), .string (bs od), .int .i64 fr, .int .i64 tt, .int .i64 E, .string (bs T)], .bool ok]) ∧ Below (D + 1) WA W') := fun W hW => (hcf W (hBA.below.trans (hW.mono (by have := (Array.getElem?_eq_some_iff.1 hBA.box).1; omega)))).mono fun e W' hh => ⟨hh.1, hW.trans (hh.2.mono (by have := hW.size; omega))⟩
    rw [hD] at rD hbA
    have x0 := cellB rD 0 _ rfl
    have x1 := cellB rD 1 _ rfl
    have x2 := cellB rD 2 _ rfl
    have x3 := cellB rD 3 _ rfl
    have x4 := cellB rD 4 _ rfl
    have b0 := cellB hBA.box 0 _ rfl
    have b1 := cellB hBA.box 1 _ rfl
    have b2 := cellB hBA.box 2 _ rfl
    have HAll : Hid (WA.heap[D]? = some (.cells #[.int .i64 tm, .int .i64 pcl, .int .i64 pno, .int .i64 pE, .string (bs pT)] 56) ∧ WA.heap.size = D + 1 ∧ BP (pts.map pk2) N #[.slice va calls.length vcap, .slice (some ⟨g, e', none⟩) pts.length pcap, .map (some q)] w Q2 n WA) := ⟨rD, hzA, hBA⟩
    have HWA : Hid (wr.alloc (.cells #[.int .i64 tm, .int .i64 pcl, .int .i64 pno, .int .i64 pE, .string (bs pT)] 56) = WA) := hWA
    have HD : Hid (wr.heap.size = D) := hD
    clear hP hP2 hwp hks hps hcf hce hok hha hLT hSE y hHM hB rD hbA hWA hBA hzA hD ho c1 HB0
    go_upto_region 6 with fail
    rw [HWA.out]
    try rw [HD.out]
    clear y0 y1 y2 y3 y4 HWA HD HB
    go_upto_region 7 with (go_at_call 40; refine (HCF.out _ (by first | exact Below.refl _ _ | exact below_drew (Below.refl _ _) | exact below_drewN (Below.refl _ _) _)).mono ?_; rintro e w1 ⟨rfl, hB1⟩)
    obtain ⟨F, hF⟩ : ∃ F, w1.heap.size = F := ⟨_, rfl⟩
    have rF := heap_alloc_new w1 (.cells #[.int .i64 cl, .int .i64 no, .int .i64 kind, .string (bs k), .string (bs v), .string (bs od), .int .i64 fr, .int .i64 tt, .int .i64 E, .string (bs T)] 53)
    have hbF := (Below.refl w1.heap.size w1).alloc (Nat.le_refl _) (.cells #[.int .i64 cl, .int .i64 no, .int .i64 kind, .string (bs k), .string (bs v), .string (bs od), .int .i64 fr, .int .i64 tt, .int .i64 E, .string (bs T)] 53)
    obtain ⟨WB, hWB⟩ : ∃ W, w1.alloc (.cells #[.int .i64 cl, .int .i64 no, .int .i64 kind, .string (bs k), .string (bs v), .string (bs od), .int .i64 fr, .int .i64 tt, .int .i64 E, .string (bs T)] 53) = W := ⟨_, rfl⟩
    have hzB : WB.heap.size = F + 1 := by rw [← hWB, ← hF]; simp
    rw [hWB] at rF hbF ⊢
    rw [hF] at rF hbF
    try rw [hF]
    have hBB : Below (D + 1) WA WB := hB1.trans (hbF.mono (by have := hB1.size; rw [HAll.out.2.1] at this; omega))
    have hDF : D + 1 ≤ F := by have := hB1.size; rw [HAll.out.2.1] at this; omega
    have HS : Hid (∀ W, Below (F + 1) WB W → (W.cell? ⟨D, 0, none⟩ = some (.int .i64 tm) ∧ W.cell? ⟨D, 1, none⟩ = some (.int .i64 pcl) ∧ W.cell? ⟨D, 2, none⟩ = some (.int .i64 pno) ∧ W.cell? ⟨D, 3, none⟩ = some (.int .i64 pE) ∧ W.cell? ⟨D, 4, none⟩ = some (.string (bs pT))) ∧ (W.cell? ⟨F, 0, none⟩ = some (.int .i64 cl) ∧ W.cell? ⟨F, 1, none⟩ = some (.int .i64 no) ∧ W.cell? ⟨F, 2, none⟩ = some (.int .i64 kind) ∧ W.cell? ⟨F, 3, none⟩ = some (.string (bs k)) ∧ W.cell? ⟨F, 4, none⟩ = some (.string (bs v)) ∧ W.cell? ⟨F, 5, none⟩ = some (.string (bs od)) ∧ W.cell? ⟨F, 6, none⟩ = some (.int .i64 fr) ∧ W.cell? ⟨F, 7, none⟩ = some (.int .i64 tt) ∧ W.cell? ⟨F, 8, none⟩ = some (.int .i64 E) ∧ W.cell? ⟨F, 9, none⟩ = some (.string (bs T))) ∧ BP (pts.map pk2) N #[.slice va calls.length vcap, .slice (some ⟨g, e', none⟩) pts.length pcap, .map (some q)] w Q2 n W) := fun W hW => by
      have hb := hBB.trans (hW.mono (by omega))
      have g0 := (hb.block D (by omega)).trans HAll.out.1
      have g1 := (hW.block F (by omega)).trans rF
      exact ⟨⟨cellB g0 0 _ rfl, cellB g0 1 _ rfl, cellB g0 2 _ rfl, cellB g0 3 _ rfl, cellB g0 4 _ rfl⟩, ⟨cellB g1 0 _ rfl, cellB g1 1 _ rfl, cellB g1 2 _ rfl, cellB g1 3 _ rfl, cellB g1 4 _ rfl, cellB g1 5 _ rfl, cellB g1 6 _ rfl, cellB g1 7 _ rfl, cellB g1 8 _ rfl, cellB g1 9 _ rfl⟩, HAll.out.2.2.on hb (by rw [HAll.out.2.1]; exact Nat.le_refl _)⟩
    obtain ⟨⟨z0, z1, z2, z3, z4⟩, ⟨u0, u1, u2, u3, u4, u5, u6, u7, u8, u9⟩, hBW⟩ := HS.out WB (Below.refl _ _)
    have HZB : Hid (WB.heap.size = F + 1 ∧ Below N w WB) := ⟨hzB, hBW.below⟩
    clear rF hbF hWB hzB hF hBB hDF hBW hB1 HCF HAll b0 b1 b2 x0 x1 x2 x3 x4
    by_cases h1 : tm < LT
    · have HF : Hid (fstB (P2 calls pts) pts.length = n) := fstB_at hn2 (by rw [HP2.out, decide_eq_true h1]; rfl) HP.out
      clear HP HP2 HK HS HV hha1
      go_wp2
      go_ret
      rw [HF.out]
      exact ⟨rfl, by rw [HN.out]; exact HZB.out.2⟩
    rw [decide_eq_false h1] at HP2
    cases ok with
    | false =>
      have HF : Hid (fstB (P2 calls pts) pts.length = n) := fstB_at hn2 (by rw [HP2.out]; rfl) HP.out
      clear HP HP2 HK HS HV hha1
      go_wp2
      go_ret
      rw [HF.out]
      exact ⟨rfl, by rw [HN.out]; exact HZB.out.2⟩
    | true =>
    have HHA : Hid (∀ W, Below (F + 1) WB W → Calls Tryd.prog 41 #[.agg #[.int .i64 cl, .int .i64 no, .int .i64 kind, .string (bs k), .string (bs v), .string (bs od), .int .i64 fr, .int .i64 tt, .int .i64 E, .string (bs T)], .int .i64 tm] W fun e W' => e = .returned (.bool HM) ∧ Below (F + 1) WB W') := fun W hW => (hha1 W).mono fun e W' hh => ⟨hh.1, hW.trans (hh.2.mono (by have := hW.size; rw [HZB.out.1] at this; exact this))⟩
    have HRQ : Hid (∀ W, Below (F + 1) WB W → Calls Tryd.prog 42 #[.agg #[.int .i64 tm, .int .i64 pcl, .int .i64 pno, .int .i64 pE, .string (bs pT)]] W fun e W' => e = .returned (.agg #[.int .i64 pcl, .int .i64 pno]) ∧ Below (F + 1) WB W') := fun W hW => (request_any tm pcl pno pE pT W).mono fun e W' hh => ⟨hh.1, hW.trans (hh.2.mono (by have := hW.size; rw [HZB.out.1] at this; exact this))⟩
    clear hha1 HV
    cases HM with
    | false =>
      have HF : Hid (fstB (P2 calls pts) pts.length = n) := fstB_at hn2 (by rw [HP2.out]; rfl) HP.out
      clear HP HP2 HK HRQ
      go_wp2_with (go_at_call 41; refine (HHA.out _ (by first | exact Below.refl _ _ | exact below_drew (Below.refl _ _) | exact below_drewN (Below.refl _ _) _)).mono ?_; rintro e w2 ⟨rfl, hB2⟩)
      go_ret
      rw [HF.out]
      exact ⟨rfl, by rw [HN.out]; exact (HS.out w2 hB2).2.2.below⟩
    | true =>
    go_upto_region 9 with (go_at_call 41; refine (HHA.out _ (by first | exact Below.refl _ _ | exact below_drew (Below.refl _ _) | exact below_drewN (Below.refl _ _) _)).mono ?_; rintro e w2 ⟨rfl, hB2⟩; obtain ⟨⟨s0, s1, s2, s3, s4⟩, -, -⟩ := HS.out w2 hB2)
    go_upto_region 10 with (go_at_call 42; refine (HRQ.out _ hB2).mono ?_; rintro e w3 ⟨rfl, hB3⟩; obtain ⟨⟨r0, r1, r2, r3, r4⟩, -, hBP3⟩ := HS.out w3 hB3; have hlk := look_q hBP3.map hBP3.qi HK.out.1; rw [HK.out.2.2.1] at hlk)
    cases SE with
    | some j =>
      have HF : Hid (fstB (P2 calls pts) pts.length = n ∧ Below N w w3) := ⟨fstB_at hn2 (by rw [HP2.out]; rfl) HP.out, hBP3.below⟩
      clear HP HP2 HK HRQ HS hBP3
      go_wp2
      go_ret
      rw [HF.out.1]
      exact ⟨rfl, by rw [HN.out]; exact HF.out.2⟩
    | none =>
    have HPN : Hid (∀ i, i < n + 1 → P2 calls pts i = false) := fun i hi => by
      by_cases e : i = n
      · subst e; rw [HP2.out]; rfl
      · exact HP.out i (by omega)
    have HL : Hid (pts.length ≤ 100000) := hl
    clear HP HP2 hBP3 hlk
    go_wp2_with (go_at_call 42; refine (HRQ.out _ hB3).mono ?_; rintro e w4 ⟨rfl, hB4⟩; obtain ⟨⟨q0, q1, q2, q3, q4⟩, -, hBP4⟩ := HS.out w4 hB4; obtain ⟨w5, hup, hM5, hQ5, hg5⟩ := store_q hBP4.map hBP4.qi (by have := HL.out; omega) HK.out.2.1 HK.out.1; have hBP5 := hBP4.grown hM5 hQ5 hg5; have t0 := (hg5.cell_far ⟨D, 0, none⟩ (World.block_lt_of_cell? w4 _ q0) (fun e => by have h1 : D = N + 1 := Option.some.inj e; have := HND.out; omega)).trans q0)
    go_roundg (pts.length - (n + 1))
    case measure => omega
    case rel => exact ⟨n + 1, _, by omega, by go_num, by rw [HK.out.2.2.2], HPN.out, hBP5⟩
end Go.Proofs.YtdfonbhboncjmaaDoor
