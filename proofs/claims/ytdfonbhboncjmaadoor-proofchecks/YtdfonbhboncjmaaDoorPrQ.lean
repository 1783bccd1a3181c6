/- Rule 4: the first point at which one map would have told something else, walked. -/
import Derived.Test.YtdfonbhboncjmaaDoorPrO
namespace Go.Proofs.YtdfonbhboncjmaaDoor
open Go.RowKit Go.Maps
attribute [local go_sem ↓] Go.wp_at_zero Go.wp_at_succ

theorem bs_tl (t : List UInt8) : (bs t).toList = t := by rw [ByteArray.toList_eq]; rfl
set_option maxRecDepth 20000 in
theorem neq48 (E F : Int) (t u : List UInt8) (w : World) : (binOp .neq 48 (.agg #[.int .i64 E, .string (bs t)]) (.agg #[.int .i64 F, .string (bs u)])).run Tryd.prog w = .ok (.bool (decide ((t, E) ≠ (u, F)))) w := by
  go_simp
  rw [bs_tl, bs_tl]
  by_cases h1 : E = F
  · by_cases h2 : t = u
    · simp [h1, h2]
    · simp [h1, h2]
  · simp [h1]
/-- The call of a point that has one. -/
def callAt (calls : List Cl) (p : Pt) : Cl := (callOf calls p).getD clZ
def opsOf (calls : List Cl) (pts : List Pt) : List Opr := pts.map fun p => (callAt calls p).op
def P4 (calls : List Cl) (pts : List Pt) (i : Nat) : Bool := match pts[i]? with
  | some p => decide (p.an ≠ tell (fin (fun _ => []) ((opsOf calls pts).take i)) (callAt calls p).op) || (decide ((callAt calls p).tt ≠ -1) && decide (p.an ≠ (callAt calls p).an))
  | none => false
theorem P4_at {calls : List Cl} {pts : List Pt} {i : Nat} {p : Pt} (h : pts[i]? = some p) : P4 calls pts i = (decide (p.an ≠ tell (fin (fun _ => []) ((opsOf calls pts).take i)) (callAt calls p).op) || (decide ((callAt calls p).tt ≠ -1) && decide (p.an ≠ (callAt calls p).an))) := by
  rw [P4, h]
/-- In the midst of it: the history's box, the tables, their box. -/
structure BA (N b X : Nat) (hist : Array Value) (w : World) (S : Ms) (V : Nat → Value) (W : World) : Prop where
  box : W.heap[N]? = some (.cells hist 61)
  xb : W.heap[X]? = some (.cells (tcs b) 82)
  m4 : M4 (N + 1) W b S V
  xo : ∀ j, j < 4 → X ≠ b + j
  below : Below N w W
theorem BA.on {N b X : Nat} {hist : Array Value} {w : World} {S : Ms} {V : Nat → Value} {W W' : World} {m : Nat} (h : BA N b X hist w S V W) (hb : Below m W W') (hm : W.heap.size ≤ m) : BA N b X hist w S V W' := by
  have hN : N < W.heap.size := (Array.getElem?_eq_some_iff.1 h.box).1
  have hX : X < W.heap.size := (Array.getElem?_eq_some_iff.1 h.xb).1
  exact ⟨(hb.block N (by omega)).trans h.box, (hb.block X (by omega)).trans h.xb, h.m4.on (hb.mono hm), h.xo, h.below.trans (hb.mono (by omega))⟩
theorem BA.did {N b X : Nat} {hist : Array Value} {w : World} {S S' : Ms} {V V' : Nat → Value} {W W' : World} (h : BA N b X hist w S V W) (h4 : M4 (N + 1) W' b S' V') (hm : Mv4 b W W') : BA N b X hist w S' V' W' := by
  have hN : N < W.heap.size := (Array.getElem?_eq_some_iff.1 h.box).1
  have hX : X < W.heap.size := (Array.getElem?_eq_some_iff.1 h.xb).1
  have hup := h.m4.up
  exact ⟨(hm.block N hN (fun j _ => by omega)).trans h.box, (hm.block X hX h.xo).trans h.xb, h4, h.xo, h.below.trans (hm.below (by omega) (by omega))⟩
set_option maxRecDepth 20000 in
set_option maxHeartbeats 1500000 in
theorem brokenAnswer_any (calls : List Cl) (pts : List Pt) (vc vp : Value) (q : Nat) (Q : List (Int × Int × Int)) (w : World) (hc : SlF ccs 10 w vc calls) (hp : SlF pks 5 w vp pts) (hM : MapAt w 87 (some q) (Q.map sent)) (hQ : QI (calls.map ck) calls.length Q) (hl : pts.length ≤ 100000) (hw : ∀ p ∈ pts, wfK (pk2 p)) (hk : ∀ p ∈ pts, (callAt calls p).op.k.length ≤ 140737488351232) (he : EnvK w) :
    Calls Tryd.prog 31 #[.agg #[vc, vp, .map (some q)]] w fun e W' => e = .returned (.int .i64 (fstB (P4 calls pts) pts.length)) ∧ Below w.heap.size w W' := by
  obtain ⟨va, vcap, rfl⟩ := hc.slice
  obtain ⟨pa, pcap, rfl⟩ := hp.slice
  have HV : Hid (SlF ccs 10 w (.slice va calls.length vcap) calls ∧ SlF pks 5 w (.slice pa pts.length pcap) pts ∧ MapAt w 87 (some q) (Q.map sent) ∧ QI (calls.map ck) calls.length Q ∧ (∀ p ∈ pts, wfK (pk2 p)) ∧ (∀ p ∈ pts, (callAt calls p).op.k.length ≤ 140737488351232) ∧ EnvK w) := ⟨hc, hp, hM, hQ, hw, hk, he⟩
  obtain ⟨N, hN⟩ : ∃ N, w.heap.size = N := ⟨_, rfl⟩
  obtain ⟨W1, hW1⟩ : ∃ W, w.alloc (.cells #[.slice va calls.length vcap, .slice pa pts.length pcap, .map (some q)] 61) = W := ⟨_, rfl⟩
  have h1 : W1.heap[N]? = some (.cells #[.slice va calls.length vcap, .slice pa pts.length pcap, .map (some q)] 61) := by rw [← hN, ← hW1]; exact heap_alloc_new _ _
  have hb1 : Below N w W1 := by rw [← hN, ← hW1]; exact (Below.refl _ w).alloc (Nat.le_refl _) _
  have hz1 : W1.heap.size = N + 1 := by rw [← hN, ← hW1]; simp
  have hT : Calls Tryd.prog 24 #[] W1 fun e W' => ∃ b, e = .returned (.agg #[.pointer (some ⟨b, 0, none⟩), .pointer (some ⟨b + 1, 0, none⟩), .pointer (some ⟨b + 2, 0, none⟩), .pointer (some ⟨b + 3, 0, none⟩)]) ∧ M4 W1.heap.size W' b (fun _ => []) (fun _ => .slice none 0 0) ∧ Below W1.heap.size W1 W' := newTables_any W1
  rw [hz1] at hT
  have H1 : Hid (W1.heap[N]? = some (.cells #[.slice va calls.length vcap, .slice pa pts.length pcap, .map (some q)] 61) ∧ Below N w W1 ∧ W1.heap.size = N + 1) := ⟨h1, hb1, hz1⟩
  have HN : Hid (w.heap.size = N) := hN
  have HW : Hid (w.alloc (.cells #[.slice va calls.length vcap, .slice pa pts.length pcap, .map (some q)] 61) = W1) := hW1
  clear hc hp hM hQ hw hk he hN hW1 h1 hb1 hz1
  go_enter Tryd.func31, Tryd.ntmps31
  go_upto_region 1 with fail
  rw [HW.out, HN.out]
  clear HW
  go_upto_region 2 with (go_at_call 24; refine hT.mono ?_; clear hT; rintro e w1 ⟨b, rfl, hM, hB⟩)
  obtain ⟨X, hX⟩ : ∃ X, w1.heap.size = X := ⟨_, rfl⟩
  have rX := heap_alloc_new w1 (.cells (tcs b) 82)
  have hbX := (Below.refl _ w1).alloc (Nat.le_refl _) (.cells (tcs b) 82)
  obtain ⟨W2, hW2⟩ : ∃ W, w1.alloc (.cells (tcs b) 82) = W := ⟨_, rfl⟩
  have hW2' : w1.alloc (.cells #[.pointer (some ⟨b, 0, none⟩), .pointer (some ⟨b + 1, 0, none⟩), .pointer (some ⟨b + 2, 0, none⟩), .pointer (some ⟨b + 3, 0, none⟩)] 82) = W2 := hW2
  have hs1 : N + 1 ≤ w1.heap.size := by have := hB.size; rw [H1.out.2.2] at this; exact this
  rw [hX] at rX ⊢
  rw [hW2] at rX hbX
  have hR0 : BA N b X #[.slice va calls.length vcap, .slice pa pts.length pcap, .map (some q)] w (fun _ => []) (fun _ => .slice none 0 0) W2 :=
    ⟨(hbX.block N (by omega)).trans ((hB.block N (by omega)).trans H1.out.1), rX, hM.on hbX, fun j hj => by have := (hM.tab j hj).lt; omega, H1.out.2.1.trans ((hB.mono (by omega)).trans (hbX.mono (by omega)))⟩
  have HR0 : Hid (_) := hR0
  have c1 := cellB hR0.box 1 (.slice pa pts.length pcap) rfl
  try rw [hW2']
  clear hM hB hbX rX hW2 hW2' hX hR0 hs1 H1
  go_wp2_with fail
  go_loopg [12] pts.length (fun gk i wr => ∃ (n : Nat) (V : Nat → Value), n + gk = pts.length ∧ i = .int .i64 n ∧ (∀ i, i < n → P4 calls pts i = false) ∧ BA N b X #[.slice va calls.length vcap, .slice pa pts.length pcap, .map (some q)] w (fin (fun _ => []) ((opsOf calls pts).take n)) V wr)
  case atStart => exact ⟨0, _, by omega, rfl, fun i hi => by omega, HR0.out⟩
  case round =>
    obtain ⟨n, V, hnn, rfl, hP, hB⟩ := hrel
    by_cases hn1 : n = pts.length
    · subst hn1
      have HF : Hid (fstB (P4 calls pts) pts.length = -1 ∧ Below N w wr) := ⟨fstB_none hP, hB.below⟩
      clear hP hB HR0 HV c1
      go_wp2
      go_ret
      rw [HF.out.1]
      exact ⟨rfl, by rw [HN.out]; exact HF.out.2⟩
    have hn2 : n < pts.length := by omega
    obtain ⟨p, ho⟩ : ∃ p, pts[n]? = some p := ⟨_, List.getElem?_eq_getElem hn2⟩
    have hP4 := P4_at (calls := calls) ho
    have hmem := List.mem_of_getElem? ho
    have hko := HV.out.2.2.2.2.2.1 p hmem
    have hcf := fun W (h : Below N w W) => callOf_any calls (.slice va calls.length vcap) pa pts.length pcap q Q p W (HV.out.1.on h (by rw [HN.out]; exact Nat.le_refl _)) (HV.out.2.2.1.keep fun b e => h.block b (by have := HV.out.2.2.1.lt e; have := HN.out; omega)) HV.out.2.2.2.1 (HV.out.2.2.2.2.1 p hmem)
    have hops : (opsOf calls pts)[n]? = some (callAt calls p).op := by rw [opsOf, List.getElem?_map, ho]; rfl
    obtain ⟨ok, hok⟩ : ∃ ok, (callOf calls p).isSome = ok := ⟨_, rfl⟩
    rw [hok] at hcf
    have hcf' : ∀ W (_ : Below N w W), Calls Tryd.prog 40 #[.agg #[.slice va calls.length vcap, .slice pa pts.length pcap, .map (some q)], ptV p] W fun e W' => e = .returned (.tuple #[clV (callAt calls p), .bool ok]) ∧ Below W.heap.size W W' := hcf
    obtain ⟨c, hce⟩ : ∃ c, callAt calls p = c := ⟨_, rfl⟩
    obtain ⟨S, hS⟩ : ∃ S, fin (fun _ => []) ((opsOf calls pts).take n) = S := ⟨_, rfl⟩
    have hnx : fin (fun _ => []) ((opsOf calls pts).take (n + 1)) = next S c.op := by rw [take_snoc hops, fin_snoc, hS, hce]
    rw [hce] at hko hcf' hP4
    rw [hS] at hB hP4
    have hia := fun W => isAns_any c.cl c.no c.op.kind c.op.k c.op.v c.op.o c.fr c.tt c.an.2 c.an.1 W
    obtain ⟨A, hA⟩ : ∃ A, tell S c.op = A := ⟨_, rfl⟩
    rw [hA] at hP4
    have hdo := fun W (h4 : M4 (N + 1) W b S V) (hE : EnvK W) => do_any h4 c.op hko hE
    rw [hA] at hdo
    obtain ⟨g, e', hg', -, y⟩ := (HV.out.2.1.on hB.below (by rw [HN.out]; exact Nat.le_refl _)).at ho
    subst hg'
    obtain ⟨tm, pcl, pno, pT, pE⟩ := p
    obtain ⟨cl, no, ⟨kind, k, v, od⟩, fr, tt, T, E⟩ := c
    obtain ⟨aT, aE⟩ := A
    have y0 : wr.cell? ⟨g, e' + n * 5, none⟩ = some (.int .i64 tm) := y 0 _ rfl
    have y1 : wr.cell? ⟨g, e' + n * 5 + 1, none⟩ = some (.int .i64 pcl) := y 1 _ rfl
    have y2 : wr.cell? ⟨g, e' + n * 5 + 2, none⟩ = some (.int .i64 pno) := y 2 _ rfl
    have y3 : wr.cell? ⟨g, e' + n * 5 + 3, none⟩ = some (.int .i64 pE) := y 3 _ rfl
    have y4 : wr.cell? ⟨g, e' + n * 5 + 4, none⟩ = some (.string (bs pT)) := y 4 _ rfl
    have d0 : (0 : Int) ≤ (n : Int) := by omega
    have d1 : (n : Int) < (pts.length : Int) := by omega
    obtain ⟨D, hD⟩ : ∃ D, wr.heap.size = D := ⟨_, rfl⟩
    have HP : Hid (∀ i, i < n → P4 calls pts i = false) := hP
    have HP4 : Hid (P4 calls pts n = (decide ((pT, pE) ≠ (aT, aE)) || (decide (tt ≠ -1) && decide ((pT, pE) ≠ (T, E))))) := hP4
    have rD := heap_alloc_new wr (.cells #[.int .i64 tm, .int .i64 pcl, .int .i64 pno, .int .i64 pE, .string (bs pT)] 56)
    have hbA := (Below.refl wr.heap.size wr).alloc (Nat.le_refl _) (.cells #[.int .i64 tm, .int .i64 pcl, .int .i64 pno, .int .i64 pE, .string (bs pT)] 56)
    obtain ⟨WA, hWA⟩ : ∃ W, wr.alloc (.cells #[.int .i64 tm, .int .i64 pcl, .int .i64 pno, .int .i64 pE, .string (bs pT)] 56) = W := ⟨_, rfl⟩
    rw [hWA] at rD hbA
    have hBA := hB.on hbA (Nat.le_refl _)
    have hzA : WA.heap.size = D + 1 := by rw [← hWA, ← hD]; simp
    have HCF : Hid (∀ W, Below (D + 1) WA W → Calls Tryd.prog 40 #[.agg #[.slice va calls.length vcap, .slice (some ⟨g, e', none⟩) pts.length pcap, .map (some q)], .agg #[.int .i64 tm, .int .i64 pcl, .int .i64 pno, .int .i64 pE, .string (bs pT)]] W fun e W' => e = .returned (.tuple #[.agg #[.int .i64 cl, .int .i64 no, .int .i64 kind, .string (bs k), .string (bs v), .string (bs od), .int .i64 fr, .int .i64 tt, .int .i64 E, .string (bs T)], .bool ok]) ∧ Below (D + 1) WA W') := fun W hW => (hcf' W (hBA.below.trans (hW.mono (by have := (Array.getElem?_eq_some_iff.1 hBA.box).1; omega)))).mono fun e W' hh => ⟨hh.1, hW.trans (hh.2.mono (by have := hW.size; omega))⟩
    have hEA : ∀ W, Below N w W → EnvK W := fun W hW => HV.out.2.2.2.2.2.2.next (by rw [HN.out]; exact hW)
    rw [hD] at rD hbA
    have x0 := cellB rD 0 _ rfl
    have x1 := cellB rD 1 _ rfl
    have x2 := cellB rD 2 _ rfl
    have x3 := cellB rD 3 _ rfl
    have x4 := cellB rD 4 _ rfl
    have b0 := cellB hBA.box 0 _ rfl
    have b1 := cellB hBA.box 1 _ rfl
    have b2 := cellB hBA.box 2 _ rfl
    have HAll : Hid (WA.heap[D]? = some (.cells #[.int .i64 tm, .int .i64 pcl, .int .i64 pno, .int .i64 pE, .string (bs pT)] 56) ∧ WA.heap.size = D + 1 ∧ BA N b X #[.slice va calls.length vcap, .slice (some ⟨g, e', none⟩) pts.length pcap, .map (some q)] w S V WA) := ⟨rD, hzA, hBA⟩
    have HWA : Hid (wr.alloc (.cells #[.int .i64 tm, .int .i64 pcl, .int .i64 pno, .int .i64 pE, .string (bs pT)] 56) = WA) := hWA
    have HD : Hid (wr.heap.size = D) := hD
    have HE : Hid (∀ W, Below N w W → EnvK W) := hEA
    have HNX : Hid (fin (fun _ => []) ((opsOf calls pts).take (n + 1)) = next S ⟨kind, k, v, od⟩) := hnx
    have HDQ : Hid (∀ W, M4 (N + 1) W b S V → EnvK W → Calls Tryd.prog 25 #[.agg #[.pointer (some ⟨b, 0, none⟩), .pointer (some ⟨b + 1, 0, none⟩), .pointer (some ⟨b + 2, 0, none⟩), .pointer (some ⟨b + 3, 0, none⟩)], .agg #[.int .i64 kind, .string (bs k), .string (bs v), .string (bs od)]] W fun e W' => e = .returned (.agg #[.int .i64 aE, .string (bs aT)]) ∧ ∃ V', M4 (N + 1) W' b (next S ⟨kind, k, v, od⟩) V' ∧ Mv4 b W W' ∧ ∀ i, i < 4 → ∀ q, (V' i).ownBlock = some q → (V i).ownBlock = some q ∨ W.heap.size ≤ q) := hdo
    have HIQ : Hid (∀ W, Calls Tryd.prog 43 #[.agg #[.int .i64 cl, .int .i64 no, .int .i64 kind, .string (bs k), .string (bs v), .string (bs od), .int .i64 fr, .int .i64 tt, .int .i64 E, .string (bs T)]] W fun e W' => e = .returned (.bool (decide (tt ≠ -1))) ∧ Below W.heap.size W W') := hia
    clear hP hP4 hmem hko hcf hcf' hops hok hce hS hnx hia hA hdo y hB rD hbA hWA hBA hzA hD ho c1 HR0 hEA HV
    go_upto_region 5 with fail
    rw [HWA.out]
    try rw [HD.out]
    clear y0 y1 y2 y3 y4 HWA HD
    go_upto_region 6 with (go_at_call 40; refine (HCF.out _ (by first | exact Below.refl _ _ | exact below_drew (Below.refl _ _) | exact below_drewN (Below.refl _ _) _)).mono ?_; rintro e w1 ⟨rfl, hB1⟩)
    obtain ⟨F, hF⟩ : ∃ F, w1.heap.size = F := ⟨_, rfl⟩
    have rF := heap_alloc_new w1 (.cells #[.int .i64 cl, .int .i64 no, .int .i64 kind, .string (bs k), .string (bs v), .string (bs od), .int .i64 fr, .int .i64 tt, .int .i64 E, .string (bs T)] 53)
    have hbF := (Below.refl w1.heap.size w1).alloc (Nat.le_refl _) (.cells #[.int .i64 cl, .int .i64 no, .int .i64 kind, .string (bs k), .string (bs v), .string (bs od), .int .i64 fr, .int .i64 tt, .int .i64 E, .string (bs T)] 53)
    obtain ⟨WB, hWB⟩ : ∃ W, w1.alloc (.cells #[.int .i64 cl, .int .i64 no, .int .i64 kind, .string (bs k), .string (bs v), .string (bs od), .int .i64 fr, .int .i64 tt, .int .i64 E, .string (bs T)] 53) = W := ⟨_, rfl⟩
    have hzB : WB.heap.size = F + 1 := by rw [← hWB, ← hF]; simp
    rw [hWB] at rF hbF ⊢
    rw [hF] at rF hbF
    try rw [hF]
    have hBB : Below (D + 1) WA WB := hB1.trans (hbF.mono (by have := hB1.size; rw [HAll.out.2.1] at this; omega))
    have hDF : D + 1 ≤ F := by have := hB1.size; rw [HAll.out.2.1] at this; omega
    have hBAB : BA N b X #[.slice va calls.length vcap, .slice (some ⟨g, e', none⟩) pts.length pcap, .map (some q)] w S V WB := HAll.out.2.2.on hBB (by rw [HAll.out.2.1]; exact Nat.le_refl _)
    have gD := (hBB.block D (by omega)).trans HAll.out.1
    have hX1 : ∀ j, j < 4 → D ≠ b + j ∧ F ≠ b + j := fun j hj => by
      have h1 := (HAll.out.2.2.m4.tab j hj).lt
      rw [HAll.out.2.1] at h1
      have h2 : b + j ≠ D := fun e => by
        obtain ⟨t, ht⟩ := (HAll.out.2.2.m4.tab j hj).blk
        rw [e, HAll.out.1] at ht
        injection ht with ht
        injection ht with ht
        have := congrArg Array.size ht
        simp at this
      omega
    have hSS : ∀ W : World, W.heap[D]? = WB.heap[D]? → W.heap[F]? = WB.heap[F]? → BA N b X #[.slice va calls.length vcap, .slice (some ⟨g, e', none⟩) pts.length pcap, .map (some q)] w S V W ∨ (∃ V', BA N b X #[.slice va calls.length vcap, .slice (some ⟨g, e', none⟩) pts.length pcap, .map (some q)] w (next S ⟨kind, k, v, od⟩) V' W) → W.cell? ⟨D, 0, none⟩ = some (.int .i64 tm) ∧ W.cell? ⟨D, 1, none⟩ = some (.int .i64 pcl) ∧ W.cell? ⟨D, 2, none⟩ = some (.int .i64 pno) ∧ W.cell? ⟨D, 3, none⟩ = some (.int .i64 pE) ∧ W.cell? ⟨D, 4, none⟩ = some (.string (bs pT)) ∧ W.cell? ⟨X, 0, none⟩ = some (.pointer (some ⟨b, 0, none⟩)) ∧ W.cell? ⟨X, 1, none⟩ = some (.pointer (some ⟨b + 1, 0, none⟩)) ∧ W.cell? ⟨X, 2, none⟩ = some (.pointer (some ⟨b + 2, 0, none⟩)) ∧ W.cell? ⟨X, 3, none⟩ = some (.pointer (some ⟨b + 3, 0, none⟩)) ∧ W.cell? ⟨F, 0, none⟩ = some (.int .i64 cl) ∧ W.cell? ⟨F, 1, none⟩ = some (.int .i64 no) ∧ W.cell? ⟨F, 2, none⟩ = some (.int .i64 kind) ∧ W.cell? ⟨F, 3, none⟩ = some (.string (bs k)) ∧ W.cell? ⟨F, 4, none⟩ = some (.string (bs v)) ∧ W.cell? ⟨F, 5, none⟩ = some (.string (bs od)) ∧ W.cell? ⟨F, 6, none⟩ = some (.int .i64 fr) ∧ W.cell? ⟨F, 7, none⟩ = some (.int .i64 tt) ∧ W.cell? ⟨F, 8, none⟩ = some (.int .i64 E) ∧ W.cell? ⟨F, 9, none⟩ = some (.string (bs T)) := fun W g0 g1 hba => by
      have gD' := g0.trans gD
      have gF' := g1.trans rF
      have gX : W.heap[X]? = some (.cells #[.pointer (some ⟨b, 0, none⟩), .pointer (some ⟨b + 1, 0, none⟩), .pointer (some ⟨b + 2, 0, none⟩), .pointer (some ⟨b + 3, 0, none⟩)] 82) := by
        rcases hba with h | ⟨V', h⟩
        · exact h.xb
        · exact h.xb
      exact ⟨cellB gD' 0 _ rfl, cellB gD' 1 _ rfl, cellB gD' 2 _ rfl, cellB gD' 3 _ rfl, cellB gD' 4 _ rfl, cellB gX 0 _ rfl, cellB gX 1 _ rfl, cellB gX 2 _ rfl, cellB gX 3 _ rfl, cellB gF' 0 _ rfl, cellB gF' 1 _ rfl, cellB gF' 2 _ rfl, cellB gF' 3 _ rfl, cellB gF' 4 _ rfl, cellB gF' 5 _ rfl, cellB gF' 6 _ rfl, cellB gF' 7 _ rfl, cellB gF' 8 _ rfl, cellB gF' 9 _ rfl⟩
    have HS0 : Hid (WB.drew.cell? ⟨D, 0, none⟩ = some (.int .i64 tm) ∧ WB.drew.cell? ⟨D, 1, none⟩ = some (.int .i64 pcl) ∧ WB.drew.cell? ⟨D, 2, none⟩ = some (.int .i64 pno) ∧ WB.drew.cell? ⟨D, 3, none⟩ = some (.int .i64 pE) ∧ WB.drew.cell? ⟨D, 4, none⟩ = some (.string (bs pT)) ∧ WB.drew.cell? ⟨X, 0, none⟩ = some (.pointer (some ⟨b, 0, none⟩)) ∧ WB.drew.cell? ⟨X, 1, none⟩ = some (.pointer (some ⟨b + 1, 0, none⟩)) ∧ WB.drew.cell? ⟨X, 2, none⟩ = some (.pointer (some ⟨b + 2, 0, none⟩)) ∧ WB.drew.cell? ⟨X, 3, none⟩ = some (.pointer (some ⟨b + 3, 0, none⟩)) ∧ WB.drew.cell? ⟨F, 0, none⟩ = some (.int .i64 cl) ∧ WB.drew.cell? ⟨F, 1, none⟩ = some (.int .i64 no) ∧ WB.drew.cell? ⟨F, 2, none⟩ = some (.int .i64 kind) ∧ WB.drew.cell? ⟨F, 3, none⟩ = some (.string (bs k)) ∧ WB.drew.cell? ⟨F, 4, none⟩ = some (.string (bs v)) ∧ WB.drew.cell? ⟨F, 5, none⟩ = some (.string (bs od)) ∧ WB.drew.cell? ⟨F, 6, none⟩ = some (.int .i64 fr) ∧ WB.drew.cell? ⟨F, 7, none⟩ = some (.int .i64 tt) ∧ WB.drew.cell? ⟨F, 8, none⟩ = some (.int .i64 E) ∧ WB.drew.cell? ⟨F, 9, none⟩ = some (.string (bs T))) := hSS WB.drew rfl rfl (.inl (hBAB.on (m := WB.heap.size) (below_drew (Below.refl _ _)) (Nat.le_refl _)))
    have HDO : Hid (∀ W, Below (F + 1) WB W → Calls Tryd.prog 25 #[.agg #[.pointer (some ⟨b, 0, none⟩), .pointer (some ⟨b + 1, 0, none⟩), .pointer (some ⟨b + 2, 0, none⟩), .pointer (some ⟨b + 3, 0, none⟩)], .agg #[.int .i64 kind, .string (bs k), .string (bs v), .string (bs od)]] W fun e W' => e = .returned (.agg #[.int .i64 aE, .string (bs aT)]) ∧ (W'.cell? ⟨D, 0, none⟩ = some (.int .i64 tm) ∧ W'.cell? ⟨D, 1, none⟩ = some (.int .i64 pcl) ∧ W'.cell? ⟨D, 2, none⟩ = some (.int .i64 pno) ∧ W'.cell? ⟨D, 3, none⟩ = some (.int .i64 pE) ∧ W'.cell? ⟨D, 4, none⟩ = some (.string (bs pT)) ∧ W'.cell? ⟨X, 0, none⟩ = some (.pointer (some ⟨b, 0, none⟩)) ∧ W'.cell? ⟨X, 1, none⟩ = some (.pointer (some ⟨b + 1, 0, none⟩)) ∧ W'.cell? ⟨X, 2, none⟩ = some (.pointer (some ⟨b + 2, 0, none⟩)) ∧ W'.cell? ⟨X, 3, none⟩ = some (.pointer (some ⟨b + 3, 0, none⟩)) ∧ W'.cell? ⟨F, 0, none⟩ = some (.int .i64 cl) ∧ W'.cell? ⟨F, 1, none⟩ = some (.int .i64 no) ∧ W'.cell? ⟨F, 2, none⟩ = some (.int .i64 kind) ∧ W'.cell? ⟨F, 3, none⟩ = some (.string (bs k)) ∧ W'.cell? ⟨F, 4, none⟩ = some (.string (bs v)) ∧ W'.cell? ⟨F, 5, none⟩ = some (.string (bs od)) ∧ W'.cell? ⟨F, 6, none⟩ = some (.int .i64 fr) ∧ W'.cell? ⟨F, 7, none⟩ = some (.int .i64 tt) ∧ W'.cell? ⟨F, 8, none⟩ = some (.int .i64 E) ∧ W'.cell? ⟨F, 9, none⟩ = some (.string (bs T))) ∧ ∃ V', BA N b X #[.slice va calls.length vcap, .slice (some ⟨g, e', none⟩) pts.length pcap, .map (some q)] w (next S ⟨kind, k, v, od⟩) V' W' ∧ W'.heap[D]? = WB.heap[D]? ∧ W'.heap[F]? = WB.heap[F]?) := fun W hW => by
      have hBW := hBAB.on hW (by rw [hzB]; exact Nat.le_refl _)
      refine (HDQ.out W hBW.m4 (HE.out W hBW.below)).mono fun e W' hh => ?_
      obtain ⟨h1, V', h2, h3, -⟩ := hh
      have hd := hBW.did h2 h3
      have hsz := hW.size
      have gg0 := (h3.block D (by omega) (fun j hj => (hX1 j hj).1)).trans (hW.block D (by omega))
      have gg1 := (h3.block F (by omega) (fun j hj => (hX1 j hj).2)).trans (hW.block F (by omega))
      exact ⟨h1, hSS W' gg0 gg1 (.inr ⟨V', hd⟩), V', hd, gg0, gg1⟩
    have HIA : Hid (∀ W, (∃ V', BA N b X #[.slice va calls.length vcap, .slice (some ⟨g, e', none⟩) pts.length pcap, .map (some q)] w (next S ⟨kind, k, v, od⟩) V' W ∧ W.heap[D]? = WB.heap[D]? ∧ W.heap[F]? = WB.heap[F]?) → Calls Tryd.prog 43 #[.agg #[.int .i64 cl, .int .i64 no, .int .i64 kind, .string (bs k), .string (bs v), .string (bs od), .int .i64 fr, .int .i64 tt, .int .i64 E, .string (bs T)]] W fun e W' => e = .returned (.bool (decide (tt ≠ -1))) ∧ (W'.cell? ⟨D, 0, none⟩ = some (.int .i64 tm) ∧ W'.cell? ⟨D, 1, none⟩ = some (.int .i64 pcl) ∧ W'.cell? ⟨D, 2, none⟩ = some (.int .i64 pno) ∧ W'.cell? ⟨D, 3, none⟩ = some (.int .i64 pE) ∧ W'.cell? ⟨D, 4, none⟩ = some (.string (bs pT)) ∧ W'.cell? ⟨X, 0, none⟩ = some (.pointer (some ⟨b, 0, none⟩)) ∧ W'.cell? ⟨X, 1, none⟩ = some (.pointer (some ⟨b + 1, 0, none⟩)) ∧ W'.cell? ⟨X, 2, none⟩ = some (.pointer (some ⟨b + 2, 0, none⟩)) ∧ W'.cell? ⟨X, 3, none⟩ = some (.pointer (some ⟨b + 3, 0, none⟩)) ∧ W'.cell? ⟨F, 0, none⟩ = some (.int .i64 cl) ∧ W'.cell? ⟨F, 1, none⟩ = some (.int .i64 no) ∧ W'.cell? ⟨F, 2, none⟩ = some (.int .i64 kind) ∧ W'.cell? ⟨F, 3, none⟩ = some (.string (bs k)) ∧ W'.cell? ⟨F, 4, none⟩ = some (.string (bs v)) ∧ W'.cell? ⟨F, 5, none⟩ = some (.string (bs od)) ∧ W'.cell? ⟨F, 6, none⟩ = some (.int .i64 fr) ∧ W'.cell? ⟨F, 7, none⟩ = some (.int .i64 tt) ∧ W'.cell? ⟨F, 8, none⟩ = some (.int .i64 E) ∧ W'.cell? ⟨F, 9, none⟩ = some (.string (bs T))) ∧ ∃ V', BA N b X #[.slice va calls.length vcap, .slice (some ⟨g, e', none⟩) pts.length pcap, .map (some q)] w (next S ⟨kind, k, v, od⟩) V' W') := fun W hW => (HIQ.out W).mono fun e W' hh => by
      obtain ⟨V', hb, g0, g1⟩ := hW
      have hd := hb.on hh.2 (Nat.le_refl _)
      have lD : D < W.heap.size := (Array.getElem?_eq_some_iff.1 (g0.trans gD)).1
      have lF : F < W.heap.size := (Array.getElem?_eq_some_iff.1 (g1.trans rF)).1
      exact ⟨hh.1, hSS W' ((hh.2.block D lD).trans g0) ((hh.2.block F lF).trans g1) (.inr ⟨V', hd⟩), V', hd⟩
    clear rF hbF hWB hzB hF hBB hDF hB1 HCF HAll b0 b1 b2 x0 x1 x2 x3 x4 hBAB gD hX1 hSS HDQ HE HIQ
    have HF' : Hid (P4 calls pts n = true → fstB (P4 calls pts) pts.length = n) := fun h => fstB_at hn2 h HP.out
    have HPN : Hid (P4 calls pts n = false → ∀ i, i < n + 1 → P4 calls pts i = false) := fun h i hi => by
      by_cases e : i = n
      · subst e; exact h
      · exact HP.out i (by omega)
    have hq1 := neq48 pE aE pT aT
    have hq2 := neq48 pE E pT T
    obtain ⟨B1, hB1⟩ : ∃ x, decide ((pT, pE) ≠ (aT, aE)) = x := ⟨_, rfl⟩
    obtain ⟨B2, hB2⟩ : ∃ x, decide ((pT, pE) ≠ (T, E)) = x := ⟨_, rfl⟩
    obtain ⟨B3, hB3⟩ : ∃ x, decide (tt ≠ -1) = x := ⟨_, rfl⟩
    rw [hB1] at hq1 HP4
    rw [hB2] at hq2 HP4
    rw [hB3] at HIA HP4
    clear hB1 hB2 hB3 HP
    refine region_Z 99 (fun W => W.cell? ⟨D, 0, none⟩ = some (.int .i64 tm) ∧ W.cell? ⟨D, 1, none⟩ = some (.int .i64 pcl) ∧ W.cell? ⟨D, 2, none⟩ = some (.int .i64 pno) ∧ W.cell? ⟨D, 3, none⟩ = some (.int .i64 pE) ∧ W.cell? ⟨D, 4, none⟩ = some (.string (bs pT)) ∧ W.cell? ⟨X, 0, none⟩ = some (.pointer (some ⟨b, 0, none⟩)) ∧ W.cell? ⟨X, 1, none⟩ = some (.pointer (some ⟨b + 1, 0, none⟩)) ∧ W.cell? ⟨X, 2, none⟩ = some (.pointer (some ⟨b + 2, 0, none⟩)) ∧ W.cell? ⟨X, 3, none⟩ = some (.pointer (some ⟨b + 3, 0, none⟩)) ∧ W.cell? ⟨F, 0, none⟩ = some (.int .i64 cl) ∧ W.cell? ⟨F, 1, none⟩ = some (.int .i64 no) ∧ W.cell? ⟨F, 2, none⟩ = some (.int .i64 kind) ∧ W.cell? ⟨F, 3, none⟩ = some (.string (bs k)) ∧ W.cell? ⟨F, 4, none⟩ = some (.string (bs v)) ∧ W.cell? ⟨F, 5, none⟩ = some (.string (bs od)) ∧ W.cell? ⟨F, 6, none⟩ = some (.int .i64 fr) ∧ W.cell? ⟨F, 7, none⟩ = some (.int .i64 tt) ∧ W.cell? ⟨F, 8, none⟩ = some (.int .i64 E) ∧ W.cell? ⟨F, 9, none⟩ = some (.string (bs T))) (by kernel_rfl) ?_
    have hS0 := HS0.out
    refine Y_take (i := 0) (v := ?_) rfl (by kernel_rfl) (by kernel_rfl) (by kernel_rfl) (by kernel_rfl) (fun _ _ _ h => h) (by rfl) hS0 ?_ ?_
    rotate_left
    · (intro w' hSw; obtain ⟨p0, p1, p2, p3, p4, p5, p6, p7, p8, p9, p10, p11, p12, p13, p14, p15, p16, p17, p18⟩ := hSw; go_simp; (try with_reducible rfl))
    simp only [Act.put, List.setIfInBounds_toArray, List.getElem_toArray, List.getElem_cons_zero, List.set_cons_succ, List.set_cons_zero]
    refine Y_take (i := 1) (v := ?_) rfl (by kernel_rfl) (by kernel_rfl) (by kernel_rfl) (by kernel_rfl) (fun _ _ _ h => h) (by rfl) hS0 ?_ ?_
    rotate_left
    · (intro w' hSw; obtain ⟨p0, p1, p2, p3, p4, p5, p6, p7, p8, p9, p10, p11, p12, p13, p14, p15, p16, p17, p18⟩ := hSw; go_simp; (try with_reducible rfl))
    simp only [Act.put, List.setIfInBounds_toArray, List.getElem_toArray, List.getElem_cons_succ, List.getElem_cons_zero, List.set_cons_succ, List.set_cons_zero]
    refine Y_take (i := 2) (v := ?_) rfl (by kernel_rfl) (by kernel_rfl) (by kernel_rfl) (by kernel_rfl) (fun _ _ _ h => h) (by rfl) hS0 ?_ ?_
    rotate_left
    · (intro w' hSw; obtain ⟨p0, p1, p2, p3, p4, p5, p6, p7, p8, p9, p10, p11, p12, p13, p14, p15, p16, p17, p18⟩ := hSw; go_simp; (try with_reducible rfl))
    simp only [Act.put, List.setIfInBounds_toArray, List.getElem_toArray, List.getElem_cons_succ, List.getElem_cons_zero, List.set_cons_succ, List.set_cons_zero]
    refine Y_take (i := 3) (v := ?_) rfl (by kernel_rfl) (by kernel_rfl) (by kernel_rfl) (by kernel_rfl) (fun _ _ _ h => h) (by rfl) hS0 ?_ ?_
    rotate_left
    · (intro w' hSw; obtain ⟨p0, p1, p2, p3, p4, p5, p6, p7, p8, p9, p10, p11, p12, p13, p14, p15, p16, p17, p18⟩ := hSw; go_simp; (try with_reducible rfl))
    simp only [Act.put, List.setIfInBounds_toArray, List.getElem_toArray, List.getElem_cons_succ, List.getElem_cons_zero, List.set_cons_succ, List.set_cons_zero]
    refine Y_take (i := 4) (v := ?_) rfl (by kernel_rfl) (by kernel_rfl) (by kernel_rfl) (by kernel_rfl) (fun _ _ _ h => h) (by rfl) hS0 ?_ ?_
    rotate_left
    · (intro w' hSw; obtain ⟨p0, p1, p2, p3, p4, p5, p6, p7, p8, p9, p10, p11, p12, p13, p14, p15, p16, p17, p18⟩ := hSw; go_simp; (try with_reducible rfl))
    simp only [Act.put, List.setIfInBounds_toArray, List.getElem_toArray, List.getElem_cons_succ, List.getElem_cons_zero, List.set_cons_succ, List.set_cons_zero]
    refine Z_step (i := 5) (by kernel_rfl) rfl (fun K' hK => ?_)
    go_simp
    refine (HDO.out _ (below_drew (Below.refl _ _))).mono ?_
    rintro e w2 ⟨rfl, hS1, V2, hB2⟩
    refine hK _ _ (fun _ => hS1) ?_
    clear hK K'
    refine Y_take (i := 6) (v := ?_) rfl (by kernel_rfl) (by kernel_rfl) (by kernel_rfl) (by kernel_rfl) (fun _ _ _ h => h) (by rfl) hS1 ?_ ?_
    rotate_left
    · (intro w' hSw; obtain ⟨p0, p1, p2, p3, p4, p5, p6, p7, p8, p9, p10, p11, p12, p13, p14, p15, p16, p17, p18⟩ := hSw; go_simp; (try with_reducible rfl))
    simp only [Act.put, List.setIfInBounds_toArray, List.getElem_toArray, List.getElem_cons_succ, List.getElem_cons_zero, List.set_cons_succ, List.set_cons_zero]
    refine Y_take (i := 7) (v := ?_) rfl (by kernel_rfl) (by kernel_rfl) (by kernel_rfl) (by kernel_rfl) (fun _ _ _ h => h) (by rfl) hS1 ?_ ?_
    rotate_left
    · (intro w' hSw; obtain ⟨p0, p1, p2, p3, p4, p5, p6, p7, p8, p9, p10, p11, p12, p13, p14, p15, p16, p17, p18⟩ := hSw; go_simp; (try with_reducible rfl))
    simp only [Act.put, List.setIfInBounds_toArray, List.getElem_toArray, List.getElem_cons_succ, List.getElem_cons_zero, List.set_cons_succ, List.set_cons_zero]
    cases B1 with
    | true =>
      refine Y_skip (i := 8) rfl (by kernel_rfl) (by kernel_rfl) (by kernel_rfl) (by kernel_rfl) (fun _ _ _ h => h) (by rfl) hS1 ?_
      simp only [Act.put, List.setIfInBounds_toArray, List.getElem_toArray, List.getElem_cons_succ, List.getElem_cons_zero, List.set_cons_succ, List.set_cons_zero]
      refine Y_skip (i := 9) rfl (by kernel_rfl) (by kernel_rfl) (by kernel_rfl) (by kernel_rfl) (fun _ _ _ h => h) (by rfl) hS1 ?_
      simp only [Act.put, List.setIfInBounds_toArray, List.getElem_toArray, List.getElem_cons_succ, List.getElem_cons_zero, List.set_cons_succ, List.set_cons_zero]
      refine Y_skip (i := 10) rfl (by kernel_rfl) (by kernel_rfl) (by kernel_rfl) (by kernel_rfl) (fun _ _ _ h => h) (by rfl) hS1 ?_
      simp only [Act.put, List.setIfInBounds_toArray, List.getElem_toArray, List.getElem_cons_succ, List.getElem_cons_zero, List.set_cons_succ, List.set_cons_zero]
      refine Y_skip (i := 11) rfl (by kernel_rfl) (by kernel_rfl) (by kernel_rfl) (by kernel_rfl) (fun _ _ _ h => h) (by rfl) hS1 ?_
      simp only [Act.put, List.setIfInBounds_toArray, List.getElem_toArray, List.getElem_cons_succ, List.getElem_cons_zero, List.set_cons_succ, List.set_cons_zero]
      refine Y_skip (i := 12) rfl (by kernel_rfl) (by kernel_rfl) (by kernel_rfl) (by kernel_rfl) (fun _ _ _ h => h) (by rfl) hS1 ?_
      simp only [Act.put, List.setIfInBounds_toArray, List.getElem_toArray, List.getElem_cons_succ, List.getElem_cons_zero, List.set_cons_succ, List.set_cons_zero]
      refine Y_skip (i := 13) rfl (by kernel_rfl) (by kernel_rfl) (by kernel_rfl) (by kernel_rfl) (fun _ _ _ h => h) (by rfl) hS1 ?_
      simp only [Act.put, List.setIfInBounds_toArray, List.getElem_toArray, List.getElem_cons_succ, List.getElem_cons_zero, List.set_cons_succ, List.set_cons_zero]
      refine Y_skip (i := 14) rfl (by kernel_rfl) (by kernel_rfl) (by kernel_rfl) (by kernel_rfl) (fun _ _ _ h => h) (by rfl) hS1 ?_
      simp only [Act.put, List.setIfInBounds_toArray, List.getElem_toArray, List.getElem_cons_succ, List.getElem_cons_zero, List.set_cons_succ, List.set_cons_zero]
      refine Y_skip (i := 15) rfl (by kernel_rfl) (by kernel_rfl) (by kernel_rfl) (by kernel_rfl) (fun _ _ _ h => h) (by rfl) hS1 ?_
      simp only [Act.put, List.setIfInBounds_toArray, List.getElem_toArray, List.getElem_cons_succ, List.getElem_cons_zero, List.set_cons_succ, List.set_cons_zero]
      refine Y_skip (i := 16) rfl (by kernel_rfl) (by kernel_rfl) (by kernel_rfl) (by kernel_rfl) (fun _ _ _ h => h) (by rfl) hS1 ?_
      simp only [Act.put, List.setIfInBounds_toArray, List.getElem_toArray, List.getElem_cons_succ, List.getElem_cons_zero, List.set_cons_succ, List.set_cons_zero]
      refine Z_step (i := 17) (by kernel_rfl) rfl (fun K' hK => ?_)
      go_simp
      refine hK _ _ (fun _ => hS1) (Z_done (by kernel_rfl) ?_ _)
      clear hK K'
      have HF : Hid (fstB (P4 calls pts) pts.length = n ∧ Below N w w2) := ⟨HF'.out (by rw [HP4.out]; rfl), hB2.1.below⟩
      clear HF' HPN HP4 HIA HDO HS0 hS0 hS1 hB2
      go_wp2
      go_ret
      rw [HF.out.1]
      exact ⟨rfl, by rw [HN.out]; exact HF.out.2⟩
    | false =>
      refine Y_take (i := 8) (v := ?_) rfl (by kernel_rfl) (by kernel_rfl) (by kernel_rfl) (by kernel_rfl) (fun _ _ _ h => h) (by rfl) hS1 ?_ ?_
      rotate_left
      · (intro w' hSw; obtain ⟨p0, p1, p2, p3, p4, p5, p6, p7, p8, p9, p10, p11, p12, p13, p14, p15, p16, p17, p18⟩ := hSw; go_simp; (try with_reducible rfl))
      simp only [Act.put, List.setIfInBounds_toArray, List.getElem_toArray, List.getElem_cons_succ, List.getElem_cons_zero, List.set_cons_succ, List.set_cons_zero]
      refine Z_step (i := 9) (by kernel_rfl) rfl (fun K' hK => ?_)
      go_simp
      refine (HIA.out _ ⟨V2, hB2⟩).mono ?_
      rintro e w3 ⟨rfl, hS2, hB3⟩
      refine hK _ _ (fun _ => hS2) ?_
      clear hK K'
      refine Y_take (i := 10) (v := ?_) rfl (by kernel_rfl) (by kernel_rfl) (by kernel_rfl) (by kernel_rfl) (fun _ _ _ h => h) (by rfl) hS2 ?_ ?_
      rotate_left
      · (intro w' hSw; obtain ⟨p0, p1, p2, p3, p4, p5, p6, p7, p8, p9, p10, p11, p12, p13, p14, p15, p16, p17, p18⟩ := hSw; go_simp; (try with_reducible rfl))
      simp only [Act.put, List.setIfInBounds_toArray, List.getElem_toArray, List.getElem_cons_succ, List.getElem_cons_zero, List.set_cons_succ, List.set_cons_zero]
      obtain ⟨V3, hB3⟩ := hB3
      cases B3 with
      | false =>
        refine Y_skip (i := 11) rfl (by kernel_rfl) (by kernel_rfl) (by kernel_rfl) (by kernel_rfl) (fun _ _ _ h => h) (by rfl) hS2 ?_
        simp only [Act.put, List.setIfInBounds_toArray, List.getElem_toArray, List.getElem_cons_succ, List.getElem_cons_zero, List.set_cons_succ, List.set_cons_zero]
        refine Y_skip (i := 12) rfl (by kernel_rfl) (by kernel_rfl) (by kernel_rfl) (by kernel_rfl) (fun _ _ _ h => h) (by rfl) hS2 ?_
        simp only [Act.put, List.setIfInBounds_toArray, List.getElem_toArray, List.getElem_cons_succ, List.getElem_cons_zero, List.set_cons_succ, List.set_cons_zero]
        refine Y_skip (i := 13) rfl (by kernel_rfl) (by kernel_rfl) (by kernel_rfl) (by kernel_rfl) (fun _ _ _ h => h) (by rfl) hS2 ?_
        simp only [Act.put, List.setIfInBounds_toArray, List.getElem_toArray, List.getElem_cons_succ, List.getElem_cons_zero, List.set_cons_succ, List.set_cons_zero]
        refine Y_skip (i := 14) rfl (by kernel_rfl) (by kernel_rfl) (by kernel_rfl) (by kernel_rfl) (fun _ _ _ h => h) (by rfl) hS2 ?_
        simp only [Act.put, List.setIfInBounds_toArray, List.getElem_toArray, List.getElem_cons_succ, List.getElem_cons_zero, List.set_cons_succ, List.set_cons_zero]
        refine Y_skip (i := 15) rfl (by kernel_rfl) (by kernel_rfl) (by kernel_rfl) (by kernel_rfl) (fun _ _ _ h => h) (by rfl) hS2 ?_
        simp only [Act.put, List.setIfInBounds_toArray, List.getElem_toArray, List.getElem_cons_succ, List.getElem_cons_zero, List.set_cons_succ, List.set_cons_zero]
        refine Y_take (i := 16) (v := ?_) rfl (by kernel_rfl) (by kernel_rfl) (by kernel_rfl) (by kernel_rfl) (fun _ _ _ h => h) (by rfl) hS2 ?_ ?_
        rotate_left
        · (intro w' hSw; obtain ⟨p0, p1, p2, p3, p4, p5, p6, p7, p8, p9, p10, p11, p12, p13, p14, p15, p16, p17, p18⟩ := hSw; go_simp; (try with_reducible rfl))
        simp only [Act.put, List.setIfInBounds_toArray, List.getElem_toArray, List.getElem_cons_succ, List.getElem_cons_zero, List.set_cons_succ, List.set_cons_zero]
        refine Z_step (i := 17) (by kernel_rfl) rfl (fun K' hK => ?_)
        go_simp
        refine hK _ _ (fun _ => hS2) (Z_done (by kernel_rfl) ?_ _)
        clear hK K'
        have HX : Hid (BA N b X #[.slice va calls.length vcap, .slice (some ⟨g, e', none⟩) pts.length pcap, .map (some q)] w (next S ⟨kind, k, v, od⟩) V3 w3 ∧ ∀ i, i < n + 1 → P4 calls pts i = false) := ⟨hB3, HPN.out (by rw [HP4.out]; rfl)⟩
        clear HF' HPN HP4 HIA HDO HS0 hS0 hS1 hS2 hB2 hB3
        go_wp2
        go_roundg (pts.length - (n + 1))
        case measure => omega
        case rel => exact ⟨n + 1, V3, by omega, by go_num, HX.out.2, by rw [HNX.out]; exact HX.out.1⟩
      | true =>
        refine Y_take (i := 11) (v := ?_) rfl (by kernel_rfl) (by kernel_rfl) (by kernel_rfl) (by kernel_rfl) (fun _ _ _ h => h) (by rfl) hS2 ?_ ?_
        rotate_left
        · (intro w' hSw; obtain ⟨p0, p1, p2, p3, p4, p5, p6, p7, p8, p9, p10, p11, p12, p13, p14, p15, p16, p17, p18⟩ := hSw; go_simp; (try with_reducible rfl))
        simp only [Act.put, List.setIfInBounds_toArray, List.getElem_toArray, List.getElem_cons_succ, List.getElem_cons_zero, List.set_cons_succ, List.set_cons_zero]
        refine Y_take (i := 12) (v := ?_) rfl (by kernel_rfl) (by kernel_rfl) (by kernel_rfl) (by kernel_rfl) (fun _ _ _ h => h) (by rfl) hS2 ?_ ?_
        rotate_left
        · (intro w' hSw; obtain ⟨p0, p1, p2, p3, p4, p5, p6, p7, p8, p9, p10, p11, p12, p13, p14, p15, p16, p17, p18⟩ := hSw; go_simp; (try with_reducible rfl))
        simp only [Act.put, List.setIfInBounds_toArray, List.getElem_toArray, List.getElem_cons_succ, List.getElem_cons_zero, List.set_cons_succ, List.set_cons_zero]
        refine Y_take (i := 13) (v := ?_) rfl (by kernel_rfl) (by kernel_rfl) (by kernel_rfl) (by kernel_rfl) (fun _ _ _ h => h) (by rfl) hS2 ?_ ?_
        rotate_left
        · (intro w' hSw; obtain ⟨p0, p1, p2, p3, p4, p5, p6, p7, p8, p9, p10, p11, p12, p13, p14, p15, p16, p17, p18⟩ := hSw; go_simp; (try with_reducible rfl))
        simp only [Act.put, List.setIfInBounds_toArray, List.getElem_toArray, List.getElem_cons_succ, List.getElem_cons_zero, List.set_cons_succ, List.set_cons_zero]
        refine Y_take (i := 14) (v := ?_) rfl (by kernel_rfl) (by kernel_rfl) (by kernel_rfl) (by kernel_rfl) (fun _ _ _ h => h) (by rfl) hS2 ?_ ?_
        rotate_left
        · (intro w' hSw; obtain ⟨p0, p1, p2, p3, p4, p5, p6, p7, p8, p9, p10, p11, p12, p13, p14, p15, p16, p17, p18⟩ := hSw; go_simp; (try with_reducible rfl))
        simp only [Act.put, List.setIfInBounds_toArray, List.getElem_toArray, List.getElem_cons_succ, List.getElem_cons_zero, List.set_cons_succ, List.set_cons_zero]
        refine Y_take (i := 15) (v := ?_) rfl (by kernel_rfl) (by kernel_rfl) (by kernel_rfl) (by kernel_rfl) (fun _ _ _ h => h) (by rfl) hS2 ?_ ?_
        rotate_left
        · (intro w' hSw; obtain ⟨p0, p1, p2, p3, p4, p5, p6, p7, p8, p9, p10, p11, p12, p13, p14, p15, p16, p17, p18⟩ := hSw; go_simp; (try with_reducible rfl))
        simp only [Act.put, List.setIfInBounds_toArray, List.getElem_toArray, List.getElem_cons_succ, List.getElem_cons_zero, List.set_cons_succ, List.set_cons_zero]
        refine Y_take (i := 16) (v := ?_) rfl (by kernel_rfl) (by kernel_rfl) (by kernel_rfl) (by kernel_rfl) (fun _ _ _ h => h) (by rfl) hS2 ?_ ?_
        rotate_left
        · (intro w' hSw; obtain ⟨p0, p1, p2, p3, p4, p5, p6, p7, p8, p9, p10, p11, p12, p13, p14, p15, p16, p17, p18⟩ := hSw; go_simp; (try with_reducible rfl))
        simp only [Act.put, List.setIfInBounds_toArray, List.getElem_toArray, List.getElem_cons_succ, List.getElem_cons_zero, List.set_cons_succ, List.set_cons_zero]
        refine Z_step (i := 17) (by kernel_rfl) rfl (fun K' hK => ?_)
        go_simp
        refine hK _ _ (fun _ => hS2) (Z_done (by kernel_rfl) ?_ _)
        clear hK K'
        cases B2 with
        | true =>
          have HF : Hid (fstB (P4 calls pts) pts.length = n ∧ Below N w w3) := ⟨HF'.out (by rw [HP4.out]; rfl), hB3.below⟩
          clear HF' HPN HP4 HIA HDO HS0 hS0 hS1 hS2 hB2 hB3
          go_wp2
          go_ret
          rw [HF.out.1]
          exact ⟨rfl, by rw [HN.out]; exact HF.out.2⟩
        | false =>
          have HX : Hid (BA N b X #[.slice va calls.length vcap, .slice (some ⟨g, e', none⟩) pts.length pcap, .map (some q)] w (next S ⟨kind, k, v, od⟩) V3 w3 ∧ ∀ i, i < n + 1 → P4 calls pts i = false) := ⟨hB3, HPN.out (by rw [HP4.out]; rfl)⟩
          clear HF' HPN HP4 HIA HDO HS0 hS0 hS1 hS2 hB2 hB3
          go_wp2
          go_roundg (pts.length - (n + 1))
          case measure => omega
          case rel => exact ⟨n + 1, V3, by omega, by go_num, HX.out.2, by rw [HNX.out]; exact HX.out.1⟩
end Go.Proofs.YtdfonbhboncjmaaDoor
