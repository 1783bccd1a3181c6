/- The document's rule 2 is the program's, plain. -/
import Derived.Test.YtdfonbhboncjmaaDoorPcE
import Derived.WalkSpells
import Derived.Test.YtdfonbhboncjmaaDoorPrS
namespace Go.Proofs.YtdfonbhboncjmaaDoor
section
open Go.RowKit Go.Maps
section
variable {calls : List Cl} {pts : List Pt}
theorem lt_uniq1 (h : ∀ i, i < calls.length → P1 calls i = false) {i j : Nat} {x y : Cl} (hx : calls[i]? = some x) (hy : calls[j]? = some y) (hk : ck x = ck y) (hij : i < j) : False := by
  have hj := (List.getElem?_eq_some_iff.1 hy).1
  obtain ⟨_, g⟩ := chain1 j (by omega) (fun m hm => h m (by omega)) i x hij hx
  have hb := (good_at hy (h j hj)).2
  have e1 : x.cl = y.cl := congrArg Prod.fst hk
  have e2 : x.no = y.no := congrArg Prod.snd hk
  rw [← e1] at hb
  have b1 := (beh_iff.1 hb).1
  rcases g with g | g
  · rw [← g] at b1; omega
  · have := g.1; omega
theorem uniq1 (h : ∀ i, i < calls.length → P1 calls i = false) {i j : Nat} {x y : Cl} (hx : calls[i]? = some x) (hy : calls[j]? = some y) (hk : ck x = ck y) : i = j := by
  rcases Nat.lt_trichotomy i j with e | e | e
  · exact (lt_uniq1 h hx hy hk e).elim
  · exact e
  · exact (lt_uniq1 h hy hx hk.symm e).elim
theorem fn_of (h : ∀ i, i < calls.length → P1 calls i = false) (p : Pt) : (∃ (j : Nat) (c : Cl), calls[j]? = some c ∧ callOf calls p = some c ∧ fnI calls p = j ∧ callF calls p = c) ∨ (callOf calls p = none ∧ fnI calls p = -1) := by
  cases e : lastI (calls.map ck) p.cl p.no calls.length with
  | some j =>
    left
    obtain ⟨c, hc, hj, hco⟩ := callOf_lt e
    obtain ⟨_, hk⟩ := lastI_some e
    have hf : fnI calls p = j := fstB_at hj (decide_eq_true hk) fun m hm => decide_eq_false fun hm2 => by
      obtain ⟨y, hy⟩ : ∃ y, calls[m]? = some y := ⟨_, List.getElem?_eq_getElem (by omega)⟩
      rw [List.getElem?_map, hy] at hm2
      rw [List.getElem?_map, hc] at hk
      have := uniq1 h hy hc ((Option.some.inj hm2).trans (Option.some.inj hk).symm)
      omega
    refine ⟨j, c, hc, hco, hf, ?_⟩
    rw [callF, hf]
    show (calls[j]?).getD clZ = c
    rw [hc]; rfl
  | none =>
    right
    refine ⟨by rw [callOf, e]; rfl, fstB_none fun m hm => decide_eq_false fun h2 => lastI_none e m hm h2⟩
theorem last_first (p : Pt) (i : Nat) : (lastI (pts.map pk2) p.cl p.no i).isSome = !decide (fstB (sameB pts p) i = -1) := by
  cases e : lastI (pts.map pk2) p.cl p.no i with
  | some j =>
    obtain ⟨hj, hk⟩ := lastI_some e
    rw [decide_eq_false fun h => ?_]
    · rfl
    · have := fstB_inv h j hj
      exact of_decide_eq_false this hk
  | none =>
    rw [show fstB (sameB pts p) i = -1 from fstB_none fun m hm => decide_eq_false fun h2 => lastI_none e m hm h2]
    rfl
theorem prev_nn : ∀ i, i ≤ pts.length → (∀ j, j < i → P2 calls pts j = false) → 0 ≤ prevT pts i
  | 0, _, _ => Int.le_refl _
  | i + 1, hi, h => by
    obtain ⟨p, hp⟩ : ∃ p, pts[i]? = some p := ⟨_, List.getElem?_eq_getElem (by omega)⟩
    have h0 := prev_nn i (by omega) fun j hj => h j (by omega)
    have h2 := h i (by omega)
    rw [P2_at hp] at h2
    simp only [Bool.or_eq_false_iff, decide_eq_false_iff_not] at h2
    rw [prevT_succ hp]
    have := h2.1.1.1
    omega
/-- Where rule 1 is kept and no point ahead breaks rule 2, the document's and the program's answers are the same. -/
theorem rTwo_P2 (h1 : ∀ i, i < calls.length → P1 calls i = false) (i : Nat) (hi : i < pts.length) (hP : ∀ j, j < i → P2 calls pts j = false) : (!rTwo calls pts i) = P2 calls pts i := by
  obtain ⟨p, hp⟩ : ∃ p, pts[i]? = some p := ⟨_, List.getElem?_eq_getElem hi⟩
  have h0 := prev_nn i (by omega) hP
  rw [rTwo_at hp, P2_at hp, last_first, okT]
  obtain ⟨X, hX⟩ : ∃ X, decide (fstB (sameB pts p) i = -1) = X := ⟨_, rfl⟩
  rw [hX]
  by_cases ht : prevT pts i ≤ p.tm
  · rw [decide_eq_true ht, decide_eq_true (show 0 ≤ p.tm by omega), decide_eq_false (show ¬ p.tm < prevT pts i by omega)]
    rcases fn_of h1 p with ⟨j, c, _, hco, hf, hF⟩ | ⟨hco, hf⟩
    · rw [hco, hf, hF, decide_eq_true (show (0 : Int) ≤ (j : Int) by omega)]
      show (!(true && true && true && hasM c p.tm && X)) = (false || !true || !hasM c p.tm || !X)
      cases hasM c p.tm <;> cases X <;> rfl
    · rw [hco, hf]
      simp
  · rw [decide_eq_false ht, decide_eq_true (show p.tm < prevT pts i by omega)]
    simp
theorem rTwo_first (h1 : ∀ i, i < calls.length → P1 calls i = false) : fstB (fun i => !rTwo calls pts i) pts.length = Rl calls pts 1 := fstB_same fun i hi h => rTwo_P2 h1 i hi h
end
end
section
open Go.RowKit Go.Maps
attribute [local go_sem ↓] Go.wp_at_zero Go.wp_at_succ

theorem alike_fin : ∀ {L S : Ms} (_ : Alike L S) (l : List Opr), Alike (rfin L l) (fin S l)
  | _, _, h, [] => h
  | _, _, h, o :: l => alike_fin (alike_step h o).2 l
theorem beq_dec (a b : Int) : (a == b) = decide (a = b) := by
  by_cases e : a = b
  · subst e; simp
  · rw [decide_eq_false e]; simpa using e
theorem last_any (ks : List (Int × Int)) (c m : Int) (n : Nat) : (lastI ks c m n).isSome = (List.range n).any fun j => decide (ks[j]? = some (c, m)) := by
  induction n with
  | zero => rfl
  | succ n ih =>
    rw [lastI_succ, List.range_succ, List.any_append]
    by_cases e : ks[n]? = some (c, m)
    · rw [if_pos e]; simp [e]
    · rw [if_neg e, ih]; simp [e]
set_option maxRecDepth 20000 in
set_option maxHeartbeats 4000000 in
theorem rCheck24_any (calls : List Cl) (pts : List Pt) (vc vp : Value) (w : World) (hc : SlF ccs 10 w vc calls) (hp : SlF pks 5 w vp pts) (lc : calls.length ≤ 150) (lp : pts.length ≤ 150) : Calls Tryd.prog 9 #[vc, vp] w fun e W' => e = .returned (.tuple #[.agg #[.int .i64 (chkG calls pts).1, .int .i64 (chkG calls pts).2], .int .i64 0]) ∧ Below w.heap.size w W' := by
  obtain ⟨va, vcap, rfl⟩ := hc.slice
  obtain ⟨pa, pcap, rfl⟩ := hp.slice
  have d1 : ¬ (2000 : Int) < (calls.length : Int) := by omega
  have d2 : ¬ (2000 : Int) < (pts.length : Int) := by omega
  obtain ⟨N, hN⟩ : ∃ N, w.heap.size = N := ⟨_, rfl⟩
  have HV : Hid (∀ W, Below N w W → SlF ccs 10 W (.slice va calls.length vcap) calls) := fun W hW => hc.on hW (by omega)
  have HU : Hid (∀ W, Below N w W → SlF pks 5 W (.slice pa pts.length pcap) pts) := fun W hW => hp.on hW (by omega)
  have HR1 : Hid (∀ i W, i < calls.length → Below N w W → Calls Tryd.prog 20 #[.slice va calls.length vcap, .int .i64 i] W fun e W' => e = .returned (.bool (rOne calls i)) ∧ Below W.heap.size W W') := fun i W hi hW => rone_any calls i _ W (hc.on hW (by omega)) hi (by omega)
  have HR2 : Hid (∀ i W, i < pts.length → Below N w W → Calls Tryd.prog 21 #[.slice va calls.length vcap, .slice pa pts.length pcap, .int .i64 i] W fun e W' => e = .returned (.bool (rTwo calls pts i)) ∧ Below W.heap.size W W') := fun i W hi hW => rtwo_any calls pts i _ _ W (hc.on hW (by omega)) (hp.on hW (by omega)) hi (by omega) (by omega)
  have HL : Hid (calls.length ≤ 150 ∧ pts.length ≤ 150) := And.intro lc lp
  obtain ⟨G, hG⟩ : ∃ x, chkG calls pts = x := ⟨_, rfl⟩
  rw [hG]
  have HG : Hid (chkG calls pts = G) := hG
  obtain ⟨W2, hW2⟩ : ∃ W, w.alloc (.cells #[.int .i64 0, .int .i64 0] 29) = W := ⟨_, rfl⟩
  have hb1 : Below N w W2 := by rw [← hW2, ← hN]; exact (Below.refl _ w).alloc (Nat.le_refl _) _
  have z0 := heap_alloc_new w (.cells #[.int .i64 0, .int .i64 0] 29)
  rw [hW2, hN] at z0
  have HW : Hid (w.alloc (.cells #[.int .i64 0, .int .i64 0] 29) = W2) := hW2
  have HN : Hid (w.heap.size = N) := hN
  have HZ : Hid (W2.heap[N]? = some (.cells #[.int .i64 0, .int .i64 0] 29) ∧ Below N w W2 ∧ N + 1 ≤ W2.heap.size) := ⟨z0, hb1, by rw [← hW2, ← hN, World.size_alloc]; omega⟩
  clear hc hp lc lp hG hb1 z0 hW2 hN
  obtain ⟨G1, G2⟩ := G
  go_enter Tryd.func9, Tryd.ntmps9
  go_upto_region 1 with fail
  rw [HW.out]
  try rw [HN.out]
  clear HW
  go_upto_region 3 with fail
  go_wp2_with fail
  go_loopg [29] calls.length (fun gk j wr => ∃ n : Nat, n + gk = calls.length ∧ j = .int .i64 n ∧ (∀ m, m < n → (!rOne calls m) = false) ∧ Below (N + 1) W2 wr)
  case atStart => exact ⟨0, by omega, rfl, fun m hm => by omega, Below.refl _ _⟩
  case round =>
    obtain ⟨n, hnn, rfl, hP, hB⟩ := hrel
    have hBN := HZ.out.2.1.trans (hB.mono (by omega))
    by_cases hn1 : n < calls.length
    · have hcal := HR1.out n wr hn1 hBN
      obtain ⟨Y, hY⟩ : ∃ Y, rOne calls n = Y := ⟨_, rfl⟩
      rw [hY] at hcal
      have HB : Hid (Below (N + 1) W2 wr) := hB
      have HC : Hid (Calls Tryd.prog 20 #[.slice va calls.length vcap, .int .i64 n] wr fun e W' => e = .returned (.bool Y) ∧ Below (N + 1) W2 W') := hcal.mono fun e W' hh => ⟨hh.1, hB.trans (hh.2.mono (by have := hB.size; have := HZ.out.2.2; omega))⟩
      have HP : Hid (∀ m, m < n → (!rOne calls m) = false) := hP
      have HY : Hid (rOne calls n = Y) := hY
      have d3 : n ≤ 150 := by have := HL.out.1; omega
      clear hcal hY hB hBN hP
      cases Y with
      | true =>
        go_wp2_with (go_at_call 20; refine HC.out.mono ?_; rintro e w4 ⟨rfl, hb4⟩)
        go_roundg (calls.length - (n + 1))
        case measure => omega
        case rel => exact ⟨n + 1, by omega, by go_num, fun m hm => by
            by_cases e : m = n
            · subst e; rw [HY.out]; rfl
            · exact HP.out m (by omega), hb4⟩
      | false =>
        have HGG : Hid (((1, (n : Int)) : Int × Int) = (G1, G2)) := by
          have h1 : Rl calls [] 0 = n := by rw [← rOne_first]; exact fstB_at hn1 (by rw [HY.out]; rfl) HP.out
          have h2 : Rl calls pts 0 = n := h1
          show _ = _
          rw [← HG.out, chkG_at (k := 0) (by decide) (fun r hr => by omega) (by rw [h2]; omega), h2]
          rfl
        go_upto_region 7 with (go_at_call 20; refine HC.out.mono ?_; rintro e w4 ⟨rfl, hb4⟩)
        have rN := (hb4.block N (by omega)).trans HZ.out.1
        have q0 := cellB rN 0 _ rfl
        have q1 := cellB rN 1 _ rfl
        have f0 := frozenB rN 0
        have f1 := frozenB rN 1
        have hg1 := congrArg Prod.fst HGG.out
        have hg2 := congrArg Prod.snd HGG.out
        have hsw := set2h rN (.int .i64 G1) (.int .i64 G2)
        have HF : Hid (Below N w ((w4.setCell ⟨N, 0, none⟩ (.int .i64 G1)).setCell ⟨N, 1, none⟩ (.int .i64 G2))) := ((HZ.out.2.1.trans (hb4.mono (by omega))).setCell (p := ⟨N, 0, none⟩) (Nat.le_refl _) _).setCell (p := ⟨N, 1, none⟩) (Nat.le_refl _) _
        have r0 := cellB hsw 0 _ rfl
        have r1 := cellB hsw 1 _ rfl
        simp only at hg1 hg2
        subst hg1
        subst hg2
        clear rN hsw hb4 HGG
        go_wp2
        exact bodyPost_ret (v := .tuple #[.agg #[.int .i64 _, .int .i64 _], .int .i64 0]) (by simp [results, Tryd.f9, go_sem, r0, r1]) rfl ⟨rfl, by rw [HN.out]; exact HF.out⟩
    obtain rfl : n = calls.length := by omega
    have h1 : ∀ i, i < calls.length → P1 calls i = false := by
      have e := rOne_first (calls := calls)
      rw [fstB_none hP] at e
      exact fstB_inv e.symm
    have HP1 : Hid (∀ i, i < calls.length → P1 calls i = false) := h1
    have HB : Hid (Below (N + 1) W2 wr) := hB
    clear h1 hP hB hBN hn1 HR1
    go_upto_region 9 with fail
    go_wp2_with fail
    go_loopg [41] pts.length (fun gk j wr => ∃ n : Nat, n + gk = pts.length ∧ j = .int .i64 n ∧ (∀ m, m < n → (!rTwo calls pts m) = false) ∧ Below (N + 1) W2 wr)
    case atStart => exact ⟨0, by omega, rfl, fun m hm => by omega, HB.out⟩
    case round =>
      obtain ⟨n, hnn, rfl, hP, hB⟩ := hrel
      have hBN := HZ.out.2.1.trans (hB.mono (by omega))
      by_cases hn1 : n < pts.length
      · have hcal := HR2.out n wr hn1 hBN
        obtain ⟨Y, hY⟩ : ∃ Y, rTwo calls pts n = Y := ⟨_, rfl⟩
        rw [hY] at hcal
        have HC : Hid (Calls Tryd.prog 21 #[.slice va calls.length vcap, .slice pa pts.length pcap, .int .i64 n] wr fun e W' => e = .returned (.bool Y) ∧ Below (N + 1) W2 W') := hcal.mono fun e W' hh => ⟨hh.1, hB.trans (hh.2.mono (by have := hB.size; have := HZ.out.2.2; omega))⟩
        have HP : Hid (∀ m, m < n → (!rTwo calls pts m) = false) := hP
        have HY : Hid (rTwo calls pts n = Y) := hY
        have d3 : n ≤ 150 := by have := HL.out.2; omega
        clear hcal hY hB hBN hP
        cases Y with
        | true =>
          go_wp2_with (go_at_call 21; refine HC.out.mono ?_; rintro e w4 ⟨rfl, hb4⟩)
          go_roundg (pts.length - (n + 1))
          case measure => omega
          case rel => exact ⟨n + 1, by omega, by go_num, fun m hm => by
              by_cases e : m = n
              · subst e; rw [HY.out]; rfl
              · exact HP.out m (by omega), hb4⟩
        | false =>
          have HGG : Hid (((2, (n : Int)) : Int × Int) = (G1, G2)) := by
            have h0 : Rl calls pts 0 = -1 := fstB_none HP1.out
            have h2 : Rl calls pts 1 = n := by rw [← rTwo_first HP1.out]; exact fstB_at hn1 (by rw [HY.out]; rfl) HP.out
            show _ = _
            rw [← HG.out, chkG_at (k := 1) (by decide) (fun r hr => by have : r = 0 := by omega
                                                                       subst this; exact h0) (by rw [h2]; omega), h2]
            rfl
          go_upto_region 13 with (go_at_call 21; refine HC.out.mono ?_; rintro e w4 ⟨rfl, hb4⟩)
          have rN := (hb4.block N (by omega)).trans HZ.out.1
          have q0 := cellB rN 0 _ rfl
          have q1 := cellB rN 1 _ rfl
          have f0 := frozenB rN 0
          have f1 := frozenB rN 1
          have hg1 := congrArg Prod.fst HGG.out
          have hg2 := congrArg Prod.snd HGG.out
          have hsw := set2h rN (.int .i64 G1) (.int .i64 G2)
          have HF : Hid (Below N w ((w4.setCell ⟨N, 0, none⟩ (.int .i64 G1)).setCell ⟨N, 1, none⟩ (.int .i64 G2))) := ((HZ.out.2.1.trans (hb4.mono (by omega))).setCell (p := ⟨N, 0, none⟩) (Nat.le_refl _) _).setCell (p := ⟨N, 1, none⟩) (Nat.le_refl _) _
          have r0 := cellB hsw 0 _ rfl
          have r1 := cellB hsw 1 _ rfl
          simp only at hg1 hg2
          subst hg1
          subst hg2
          clear rN hsw hb4 HGG
          go_wp2
          exact bodyPost_ret (v := .tuple #[.agg #[.int .i64 _, .int .i64 _], .int .i64 0]) (by simp [results, Tryd.f9, go_sem, r0, r1]) rfl ⟨rfl, by rw [HN.out]; exact HF.out⟩
      obtain rfl : n = pts.length := by omega
      have h2 : ∀ i, i < pts.length → P2 calls pts i = false := by
        have e := rTwo_first (calls := calls) (pts := pts) HP1.out
        rw [fstB_none hP] at e
        exact fstB_inv e.symm
      have HP2 : Hid (∀ i, i < pts.length → P2 calls pts i = false) := h2
      have HB : Hid (Below (N + 1) W2 wr) := hB
      clear h2 hP hB hBN hn1 HR2
      go_upto_region 15 with fail
      obtain ⟨QQ, hQQ⟩ : ∃ Q : Nat, Q = 0 := ⟨_, rfl⟩
      clear hQQ QQ
      go_wp2_with fail
      go_loopg [54] calls.length (fun gk j wr => ∃ n : Nat, n + gk = calls.length ∧ j = .int .i64 n ∧ (∀ m, m < n → P3 calls pts m = false) ∧ Below (N + 1) W2 wr)
      case atStart => exact ⟨0, by omega, rfl, fun m hm => by omega, HB.out⟩
      case round =>
        obtain ⟨n, hnn, rfl, hP, hB⟩ := hrel
        have hBN := HZ.out.2.1.trans (hB.mono (by omega))
        by_cases hn1 : n < calls.length
        · obtain ⟨c, ho⟩ : ∃ c, calls[n]? = some c := ⟨_, List.getElem?_eq_getElem hn1⟩
          have hP3 := P3_at (pts := pts) ho
          rw [last_any] at hP3
          obtain ⟨g, e', hg', -, y⟩ := (HV.out _ hBN).at ho
          subst hg'
          obtain ⟨cl, no, ⟨kind, k, v, od⟩, fr, tt, T, E⟩ := c
          have hP3' : P3 calls pts n = (!((List.range pts.length).any fun j => decide ((pts.map pk2)[j]? = some (cl, no))) && decide (tt ≠ -1)) := hP3
          obtain ⟨K, hK⟩ : ∃ K : Nat → Bool, (fun j => decide ((pts.map pk2)[j]? = some (cl, no))) = K := ⟨_, rfl⟩
          rw [hK] at hP3'
          have hKi : ∀ j p, pts[j]? = some p → K j = (decide (p.cl = cl) && decide (p.no = no)) := fun j p h => by
            rw [← hK]
            show decide ((pts.map pk2)[j]? = some (cl, no)) = _
            rw [List.getElem?_map, h]
            show decide (some (p.cl, p.no) = some (cl, no)) = _
            rw [Bool.eq_iff_iff]
            simp
          have HK : Hid (∀ j p, pts[j]? = some p → K j = (decide (p.cl = cl) && decide (p.no = no))) := hKi
          have HP3 : Hid (_) := hP3'
          have HP : Hid (∀ m, m < n → P3 calls pts m = false) := hP
          have y0 : wr.cell? ⟨g, e' + n * 10, none⟩ = some (.int .i64 cl) := y 0 _ rfl
          have y1 : wr.cell? ⟨g, e' + n * 10 + 1, none⟩ = some (.int .i64 no) := y 1 _ rfl
          have y2 : wr.cell? ⟨g, e' + n * 10 + 2, none⟩ = some (.int .i64 kind) := y 2 _ rfl
          have y3 : wr.cell? ⟨g, e' + n * 10 + 3, none⟩ = some (.string (bs k)) := y 3 _ rfl
          have y4 : wr.cell? ⟨g, e' + n * 10 + 4, none⟩ = some (.string (bs v)) := y 4 _ rfl
          have y5 : wr.cell? ⟨g, e' + n * 10 + 5, none⟩ = some (.string (bs od)) := y 5 _ rfl
          have y6 : wr.cell? ⟨g, e' + n * 10 + 6, none⟩ = some (.int .i64 fr) := y 6 _ rfl
          have y7 : wr.cell? ⟨g, e' + n * 10 + 7, none⟩ = some (.int .i64 tt) := y 7 _ rfl
          have y8 : wr.cell? ⟨g, e' + n * 10 + 8, none⟩ = some (.int .i64 E) := y 8 _ rfl
          have y9 : wr.cell? ⟨g, e' + n * 10 + 9, none⟩ = some (.string (bs T)) := y 9 _ rfl
          have d3 : (0 : Int) ≤ (n : Int) := by omega
          have d4 : (n : Int) < (calls.length : Int) := by omega
          have d5 : n ≤ 150 := by have := HL.out.1; omega
          obtain ⟨D, hD⟩ : ∃ D, wr.heap.size = D := ⟨_, rfl⟩
          have hND : N + 1 ≤ D := by have := hB.size; have := HZ.out.2.2; omega
          have rD := heap_alloc_new wr (.cells #[.int .i64 cl, .int .i64 no, .int .i64 kind, .string (bs k), .string (bs v), .string (bs od), .int .i64 fr, .int .i64 tt, .int .i64 E, .string (bs T)] 68)
          have hbA := (Below.refl wr.heap.size wr).alloc (Nat.le_refl _) (.cells #[.int .i64 cl, .int .i64 no, .int .i64 kind, .string (bs k), .string (bs v), .string (bs od), .int .i64 fr, .int .i64 tt, .int .i64 E, .string (bs T)] 68)
          obtain ⟨WA, hWA⟩ : ∃ W, wr.alloc (.cells #[.int .i64 cl, .int .i64 no, .int .i64 kind, .string (bs k), .string (bs v), .string (bs od), .int .i64 fr, .int .i64 tt, .int .i64 E, .string (bs T)] 68) = W := ⟨_, rfl⟩
          have hzA : WA.heap.size = D + 1 := by rw [← hWA, World.size_alloc, hD]
          rw [hWA] at rD hbA
          rw [hD] at rD hbA
          have x7 := cellB rD 7 _ rfl
          have HA : Hid (WA.heap[D]? = some (.cells #[.int .i64 cl, .int .i64 no, .int .i64 kind, .string (bs k), .string (bs v), .string (bs od), .int .i64 fr, .int .i64 tt, .int .i64 E, .string (bs T)] 68) ∧ Below (N + 1) W2 WA ∧ WA.heap.size = D + 1 ∧ N + 1 ≤ D) := ⟨rD, hB.trans (hbA.mono hND), hzA, hND⟩
          have HWA : Hid (wr.alloc (.cells #[.int .i64 cl, .int .i64 no, .int .i64 kind, .string (bs k), .string (bs v), .string (bs od), .int .i64 fr, .int .i64 tt, .int .i64 E, .string (bs T)] 68) = WA) := hWA
          have HD : Hid (wr.heap.size = D) := hD
          clear hP3 hP3' hK hKi hP y rD hbA hWA hzA hD hND hB hBN ho
          go_upto_region 18 with fail
          rw [HWA.out]
          try rw [HD.out]
          clear y0 y1 y2 y3 y4 y5 y6 y7 y8 y9 HWA HD
          go_wp2_with fail
          go_loopg [10, 64] pts.length (fun gk x j wr => ∃ m : Nat, m + gk = pts.length ∧ j = .int .i64 m ∧ x = .bool (decide (tt = -1) || (List.range m).any K) ∧ Below (D + 1) WA wr)
          case atStart => exact ⟨0, by omega, rfl, by simp; exact beq_dec _ _, Below.refl _ _⟩
          case round =>
            obtain ⟨m, hm, rfl, rfl, hB⟩ := hrel
            have hBN := HZ.out.2.1.trans ((HA.out.2.1.trans (hB.mono (by have := HA.out.2.2.2; omega))).mono (by omega))
            obtain ⟨TH, hTH⟩ : ∃ x, (decide (tt = -1) || (List.range m).any K) = x := ⟨_, rfl⟩
            rw [hTH]
            by_cases hm1 : m < pts.length
            · obtain ⟨p, hp⟩ : ∃ p, pts[m]? = some p := ⟨_, List.getElem?_eq_getElem hm1⟩
              have hKm := HK.out m p hp
              obtain ⟨h, o, hgp, -, y⟩ := (HU.out _ hBN).at hp
              cases hgp
              obtain ⟨tm, pcl, pno, pT, pE⟩ := p
              have hKm' : K m = (decide (pcl = cl) && decide (pno = no)) := hKm
              have hnx : (decide (tt = -1) || (List.range (m + 1)).any K) = (TH || (decide (pcl = cl) && decide (pno = no))) := by
                rw [List.range_succ, List.any_append, ← Bool.or_assoc, hTH]
                simp [hKm']
              have HNX : Hid (_) := hnx
              have z0 : wr.cell? ⟨h, o + m * 5, none⟩ = some (.int .i64 tm) := y 0 _ rfl
              have z1 : wr.cell? ⟨h, o + m * 5 + 1, none⟩ = some (.int .i64 pcl) := y 1 _ rfl
              have z2 : wr.cell? ⟨h, o + m * 5 + 2, none⟩ = some (.int .i64 pno) := y 2 _ rfl
              have z3 : wr.cell? ⟨h, o + m * 5 + 3, none⟩ = some (.int .i64 pE) := y 3 _ rfl
              have z4 : wr.cell? ⟨h, o + m * 5 + 4, none⟩ = some (.string (bs pT)) := y 4 _ rfl
              have d6 : (0 : Int) ≤ (m : Int) := by omega
              have d7 : (m : Int) < (pts.length : Int) := by omega
              have d8 : m ≤ 150 := by have := HL.out.2; omega
              obtain ⟨D2, hD2⟩ : ∃ D2, wr.heap.size = D2 := ⟨_, rfl⟩
              have hDD : D + 1 ≤ D2 := by have := hB.size; have := HA.out.2.2.1; omega
              have rD2 := heap_alloc_new wr (.cells #[.int .i64 tm, .int .i64 pcl, .int .i64 pno, .int .i64 pE, .string (bs pT)] 70)
              have hbB := (Below.refl wr.heap.size wr).alloc (Nat.le_refl _) (.cells #[.int .i64 tm, .int .i64 pcl, .int .i64 pno, .int .i64 pE, .string (bs pT)] 70)
              obtain ⟨WB, hWB⟩ : ∃ W, wr.alloc (.cells #[.int .i64 tm, .int .i64 pcl, .int .i64 pno, .int .i64 pE, .string (bs pT)] 70) = W := ⟨_, rfl⟩
              rw [hWB] at rD2 hbB
              rw [hD2] at rD2 hbB
              have hBB := hB.trans (hbB.mono hDD)
              have rD := (hBB.block D (by omega)).trans HA.out.1
              have r0 := cellB rD 0 _ rfl
              have r1 := cellB rD 1 _ rfl
              have s1 := cellB rD2 1 _ rfl
              have s2 := cellB rD2 2 _ rfl
              have HWB : Hid (wr.alloc (.cells #[.int .i64 tm, .int .i64 pcl, .int .i64 pno, .int .i64 pE, .string (bs pT)] 70) = WB) := hWB
              have HD2 : Hid (wr.heap.size = D2) := hD2
              have HBB : Hid (Below (D + 1) WA WB) := hBB
              clear hKm hKm' hnx y rD2 hbB hWB hD2 hDD hBB hB hBN rD hp hTH x7
              go_upto_region 22 with fail
              rw [HWB.out]
              try rw [HD2.out]
              clear z0 z1 z2 z3 z4 HWB HD2
              cases TH with
              | true =>
                go_wp2
                go_roundg (pts.length - (m + 1))
                case measure => omega
                case rel => exact ⟨m + 1, by omega, by go_num, by rw [HNX.out]; simp, HBB.out⟩
              | false =>
                by_cases e1 : pcl = cl
                · have b1 : (pcl == cl) = true := by simpa using e1
                  by_cases e2 : pno = no
                  · have b2 : (pno == no) = true := by simpa using e2
                    have HNY : Hid (_) := HNX.out.trans (show (false || (decide (pcl = cl) && decide (pno = no))) = true by rw [decide_eq_true e1, decide_eq_true e2]; rfl)
                    clear e1 e2 HNX
                    go_wp2
                    go_roundg (pts.length - (m + 1))
                    case measure => omega
                    case rel => exact ⟨m + 1, by omega, by go_num, by rw [HNY.out], HBB.out⟩
                  · have b2 : (pno == no) = false := by simpa using e2
                    have HNY : Hid (_) := HNX.out.trans (show (false || (decide (pcl = cl) && decide (pno = no))) = false by rw [decide_eq_true e1, decide_eq_false e2]; rfl)
                    clear e1 e2 HNX
                    go_wp2
                    go_roundg (pts.length - (m + 1))
                    case measure => omega
                    case rel => exact ⟨m + 1, by omega, by go_num, by rw [HNY.out], HBB.out⟩
                · have b1 : (pcl == cl) = false := by simpa using e1
                  have HNY : Hid (_) := HNX.out.trans (show (false || (decide (pcl = cl) && decide (pno = no))) = false by rw [decide_eq_false e1]; rfl)
                  clear e1 HNX
                  go_wp2
                  go_roundg (pts.length - (m + 1))
                  case measure => omega
                  case rel => exact ⟨m + 1, by omega, by go_num, by rw [HNY.out], HBB.out⟩
            obtain rfl : m = pts.length := by omega
            have hP3n : P3 calls pts n = !TH := by
              rw [HP3.out, ← hTH]
              by_cases e : tt = -1
              · rw [decide_eq_true e, decide_eq_false (fun h => h e)]; simp
              · rw [decide_eq_false e, decide_eq_true e]; simp
            have HP3n : Hid (P3 calls pts n = !TH) := hP3n
            have hb4 := HA.out.2.1.trans (hB.mono (by have := HA.out.2.2.2; omega))
            clear hP3n hTH hB hBN x7
            cases TH with
            | true =>
              have HB4 : Hid (Below (N + 1) W2 wr) := hb4
              have HPN : Hid (∀ m, m < n + 1 → P3 calls pts m = false) := fun m hm => by
                by_cases e : m = n
                · subst e; rw [HP3n.out]; rfl
                · exact HP.out m (by omega)
              clear hb4
              go_wp2
              go_roundg (calls.length - (n + 1))
              case measure => omega
              case rel => exact ⟨n + 1, by omega, by go_num, HPN.out, HB4.out⟩
            | false =>
              have HGG : Hid (((3, (n : Int)) : Int × Int) = (G1, G2)) := by
                have h0 : Rl calls pts 0 = -1 := fstB_none HP1.out
                have h1 : Rl calls pts 1 = -1 := fstB_none HP2.out
                have h2 : Rl calls pts 2 = n := fstB_at hn1 (by rw [HP3n.out]; rfl) HP.out
                show _ = _
                rw [← HG.out, chkG_at (k := 2) (by decide) (fun r hr => by
                  rcases r with _ | _ | r
                  · exact h0
                  · exact h1
                  · omega) (by rw [h2]; omega), h2]
                rfl
              have rN := (hb4.block N (by omega)).trans HZ.out.1
              have q0 := cellB rN 0 _ rfl
              have q1 := cellB rN 1 _ rfl
              have f0 := frozenB rN 0
              have f1 := frozenB rN 1
              have hg1 := congrArg Prod.fst HGG.out
              have hg2 := congrArg Prod.snd HGG.out
              have hsw := set2h rN (.int .i64 G1) (.int .i64 G2)
              have HF : Hid (Below N w ((wr.setCell ⟨N, 0, none⟩ (.int .i64 G1)).setCell ⟨N, 1, none⟩ (.int .i64 G2))) := ((HZ.out.2.1.trans (hb4.mono (by omega))).setCell (p := ⟨N, 0, none⟩) (Nat.le_refl _) _).setCell (p := ⟨N, 1, none⟩) (Nat.le_refl _) _
              have r0 := cellB hsw 0 _ rfl
              have r1 := cellB hsw 1 _ rfl
              simp only at hg1 hg2
              subst hg1
              subst hg2
              clear rN hsw hb4 HGG
              go_wp2
              exact bodyPost_ret (v := .tuple #[.agg #[.int .i64 _, .int .i64 _], .int .i64 0]) (by simp [results, Tryd.f9, go_sem, r0, r1]) rfl ⟨rfl, by rw [HN.out]; exact HF.out⟩
        obtain rfl : n = calls.length := by omega
        have HP3 : Hid (∀ i, i < calls.length → P3 calls pts i = false) := hP
        have HB : Hid (Below (N + 1) W2 wr) := hB
        clear hP hB hBN hn1
        go_upto_region 27 with fail
        have hop := opsOf_len calls pts
        obtain ⟨O, hO⟩ : ∃ O, opsOf calls pts = O := ⟨_, rfl⟩
        rw [hO] at hop
        have HO : Hid (opsOf calls pts = O ∧ O.length = pts.length) := ⟨hO, hop⟩
        clear hO hop
        obtain ⟨X, hX⟩ : ∃ X, wr.heap.size = X := ⟨_, rfl⟩
        have hNX : N + 1 ≤ X := by have := HB.out.size; have := HZ.out.2.2; omega
        have rX := heap_alloc_new wr (.cells #[.slice none 0 0, .slice none 0 0, .slice none 0 0, .slice none 0 0] 77)
        have hbX := (Below.refl wr.heap.size wr).alloc (Nat.le_refl _) (.cells #[.slice none 0 0, .slice none 0 0, .slice none 0 0, .slice none 0 0] 77)
        obtain ⟨WX, hWX⟩ : ∃ W, wr.alloc (.cells #[.slice none 0 0, .slice none 0 0, .slice none 0 0, .slice none 0 0] 77) = W := ⟨_, rfl⟩
        rw [hWX] at rX hbX
        rw [hX] at rX hbX
        have HRM : Hid (RM (N + 1) WX X (fun _ => []) (fun _ => .slice none 0 0) ∧ Below (N + 1) W2 WX) := ⟨RM.new rX hNX, HB.out.trans (hbX.mono hNX)⟩
        have HWX : Hid (wr.alloc (.cells #[.slice none 0 0, .slice none 0 0, .slice none 0 0, .slice none 0 0] 77) = WX) := hWX
        have HX : Hid (wr.heap.size = X) := hX
        clear rX hbX hWX hX hNX HB
        go_upto_region 28 with fail
        rw [HWX.out]
        try rw [HX.out]
        clear HWX HX
        go_wp2_with fail
        go_loopg [93] pts.length (fun gk j wr => ∃ (n : Nat) (U : Nat → Value), n + gk = pts.length ∧ j = .int .i64 n ∧ RM (N + 1) wr X (rfin (fun _ => []) (O.take n)) U ∧ (∀ m, m < n → P4 calls pts m = false) ∧ Below (N + 1) W2 wr)
        case atStart => exact ⟨0, _, by omega, rfl, HRM.out.1, fun m hm => by omega, HRM.out.2⟩
        case round =>
          obtain ⟨n, U, hnn, rfl, hRM, hP, hB⟩ := hrel
          have hBN := HZ.out.2.1.trans (hB.mono (by omega))
          by_cases hn1 : n < pts.length
          · obtain ⟨p, hp⟩ : ∃ p, pts[n]? = some p := ⟨_, List.getElem?_eq_getElem hn1⟩
            have h2n := HP2.out n hn1
            rw [P2_at hp] at h2n
            obtain ⟨jn, c, hc, hco, hfn, -⟩ : ∃ (j : Nat) (c : Cl), calls[j]? = some c ∧ callOf calls p = some c ∧ fnI calls p = j ∧ callF calls p = c := by
              rcases fn_of HP1.out p with h | ⟨h, _⟩
              · exact h
              · rw [h] at h2n; simp at h2n
            have hca : callAt calls p = c := by rw [callAt, hco]; rfl
            have h4 := P4_at (calls := calls) hp
            rw [hca, HO.out.1] at h4
            have hOn : O[n]? = some c.op := by rw [← HO.out.1, opsOf, List.getElem?_map, hp]; show some (callAt calls p).op = _; rw [hca]
            have htk : rfin (fun _ => []) (O.take (n + 1)) = rnext (rfin (fun _ => []) (O.take n)) c.op := by rw [take_snoc hOn, rfin_snoc]
            have hte := (alike_step (alike_fin alike_nil (O.take n)) c.op).1
            have hko : c.op.k.length ≤ 140737488351232 := key_short (show Rl calls [] 0 = -1 from fstB_none HP1.out) c (List.mem_of_getElem? hc)
            obtain ⟨LM, hLM⟩ : ∃ L, rfin (fun _ => []) (O.take n) = L := ⟨_, rfl⟩
            rw [hLM] at htk hte hRM
            obtain ⟨AA, hAA⟩ : ∃ a, tell (fin (fun _ => []) (O.take n)) c.op = a := ⟨_, rfl⟩
            rw [hAA] at h4 hte
            obtain ⟨AT, AE⟩ := AA
            obtain ⟨gp, op, hgp, -, yp⟩ := (HU.out _ hBN).at hp
            subst hgp
            obtain ⟨gc, ec, hgc, -, -⟩ := (HV.out _ hBN).at hc
            subst hgc
            have hCc : ∀ W, Below N w W → ∀ k u, (ccs c)[k]? = some u → W.cell? ⟨gc, ec + jn * 10 + k, none⟩ = some u := fun W hW k u hu => by
              obtain ⟨g', e', hg', -, y⟩ := (HV.out _ hW).at hc
              cases hg'
              exact y k u hu
            have hjl := (List.getElem?_eq_some_iff.1 hc).1
            obtain ⟨D, hD⟩ : ∃ D, wr.heap.size = D := ⟨_, rfl⟩
            have hND : N + 1 ≤ D := by have := hB.size; have := HZ.out.2.2; omega
            have hfa := fun W (hW : Below N w W) => find_any calls p _ W (HV.out _ hW) (by have := HL.out.1; omega)
            rw [hfn] at hfa
            obtain ⟨tm, pcl, pno, pT, pE⟩ := p
            obtain ⟨cl, no, ⟨kind, k, v, od⟩, fr, tt, T, E⟩ := c
            have h4' : P4 calls pts n = (decide (((pT, pE) : An) ≠ (AT, AE)) || (decide (tt ≠ -1) && decide (((pT, pE) : An) ≠ (T, E)))) := h4
            have hfa' : ∀ W, Below N w W → Calls Tryd.prog 22 #[.slice (some ⟨gc, ec, none⟩) calls.length vcap, .agg #[.int .i64 tm, .int .i64 pcl, .int .i64 pno, .int .i64 pE, .string (bs pT)]] W fun e W' => e = .returned (.int .i64 (jn : Int)) ∧ Below W.heap.size W W' := hfa
            have z0 : wr.cell? ⟨gp, op + n * 5, none⟩ = some (.int .i64 tm) := yp 0 _ rfl
            have z1 : wr.cell? ⟨gp, op + n * 5 + 1, none⟩ = some (.int .i64 pcl) := yp 1 _ rfl
            have z2 : wr.cell? ⟨gp, op + n * 5 + 2, none⟩ = some (.int .i64 pno) := yp 2 _ rfl
            have z3 : wr.cell? ⟨gp, op + n * 5 + 3, none⟩ = some (.int .i64 pE) := yp 3 _ rfl
            have z4 : wr.cell? ⟨gp, op + n * 5 + 4, none⟩ = some (.string (bs pT)) := yp 4 _ rfl
            have rD := heap_alloc_new wr (.cells #[.int .i64 tm, .int .i64 pcl, .int .i64 pno, .int .i64 pE, .string (bs pT)] 70)
            have hbA := (Below.refl wr.heap.size wr).alloc (Nat.le_refl _) (.cells #[.int .i64 tm, .int .i64 pcl, .int .i64 pno, .int .i64 pE, .string (bs pT)] 70)
            obtain ⟨WA, hWA⟩ : ∃ W, wr.alloc (.cells #[.int .i64 tm, .int .i64 pcl, .int .i64 pno, .int .i64 pE, .string (bs pT)] 70) = W := ⟨_, rfl⟩
            have hzA : WA.heap.size = D + 1 := by rw [← hWA, World.size_alloc, hD]
            rw [hWA] at rD hbA
            have hRMA := hRM.on hbA
            have hXD : X < D := by rw [← hD]; exact hRM.lt
            have hUD : ∀ i, i < 4 → ∀ q, (U i).ownBlock = some q → q < D := fun i hi q hq => by rw [← hD]; exact (hRM.own i hi q hq).2.1
            rw [hD] at rD hbA
            have x0 := cellB rD 0 _ rfl
            have x1 := cellB rD 1 _ rfl
            have x2 := cellB rD 2 _ rfl
            have x3 := cellB rD 3 _ rfl
            have x4 := cellB rD 4 _ rfl
            have HC22 : Hid (Calls Tryd.prog 22 #[.slice (some ⟨gc, ec, none⟩) calls.length vcap, .agg #[.int .i64 tm, .int .i64 pcl, .int .i64 pno, .int .i64 pE, .string (bs pT)]] WA fun e W' => e = .returned (.int .i64 (jn : Int)) ∧ Below (D + 1) WA W') := (hfa' WA (hBN.trans (hbA.mono (by omega)))).mono fun e W' hh => ⟨hh.1, by rw [← hzA]; exact hh.2⟩
            have HA : Hid (WA.heap[D]? = some (.cells #[.int .i64 tm, .int .i64 pcl, .int .i64 pno, .int .i64 pE, .string (bs pT)] 70) ∧ Below (N + 1) W2 WA ∧ WA.heap.size = D + 1 ∧ N + 1 ≤ D ∧ RM (N + 1) WA X LM U) := ⟨rD, hB.trans (hbA.mono hND), hzA, hND, hRMA⟩
            have HWA : Hid (wr.alloc (.cells #[.int .i64 tm, .int .i64 pcl, .int .i64 pno, .int .i64 pE, .string (bs pT)] 70) = WA) := hWA
            have HD : Hid (wr.heap.size = D) := hD
            have HE : Hid (calls[jn]? = some ⟨cl, no, ⟨kind, k, v, od⟩, fr, tt, (T, E)⟩ ∧ rfin (fun _ => []) (O.take (n + 1)) = rnext LM ⟨kind, k, v, od⟩ ∧ rtell LM ⟨kind, k, v, od⟩ = (AT, AE) ∧ k.length ≤ 140737488351232) := ⟨hc, htk, by rw [← hLM]; rw [hLM]; exact hte, hko⟩
            have H4 : Hid (_) := h4'
            have HCc : Hid (_) := hCc
            have HXU : Hid (_ ∧ _) := And.intro hXD hUD
            have HP : Hid (∀ m, m < n → P4 calls pts m = false) := hP
            have d3 : (0 : Int) ≤ (n : Int) := by omega
            have d4 : (n : Int) < (pts.length : Int) := by omega
            have d5 : n ≤ 150 := by have := HL.out.2; omega
            have d6 : (0 : Int) ≤ (jn : Int) := by omega
            have d7 : (jn : Int) < (calls.length : Int) := by omega
            clear h4' hCc hXD hUD h2n hc hco hfn hca h4 hOn htk hte hko hLM hAA yp hjl hfa hfa' rD hbA hWA hzA hRMA hD hND hRM hP hB hBN hp
            go_upto_region 31 with fail
            rw [HWA.out]
            try rw [HD.out]
            clear z0 z1 z2 z3 z4 HWA HD
            go_upto_region 32 with (go_at_call 22; refine HC22.out.mono ?_; rintro e w4 ⟨rfl, hb4⟩; have hbw := HZ.out.2.1.trans ((HA.out.2.1.trans (hb4.mono (by have := HA.out.2.2.2.1; omega))).mono (by omega)); have y0 : w4.cell? ⟨gc, ec + jn * 10, none⟩ = some (.int .i64 cl) := HCc.out w4 hbw 0 _ rfl; have y1 : w4.cell? ⟨gc, ec + jn * 10 + 1, none⟩ = some (.int .i64 no) := HCc.out w4 hbw 1 _ rfl; have y2 : w4.cell? ⟨gc, ec + jn * 10 + 2, none⟩ = some (.int .i64 kind) := HCc.out w4 hbw 2 _ rfl; have y3 : w4.cell? ⟨gc, ec + jn * 10 + 3, none⟩ = some (.string (bs k)) := HCc.out w4 hbw 3 _ rfl; have y4 : w4.cell? ⟨gc, ec + jn * 10 + 4, none⟩ = some (.string (bs v)) := HCc.out w4 hbw 4 _ rfl; have y5 : w4.cell? ⟨gc, ec + jn * 10 + 5, none⟩ = some (.string (bs od)) := HCc.out w4 hbw 5 _ rfl; have y6 : w4.cell? ⟨gc, ec + jn * 10 + 6, none⟩ = some (.int .i64 fr) := HCc.out w4 hbw 6 _ rfl; have y7 : w4.cell? ⟨gc, ec + jn * 10 + 7, none⟩ = some (.int .i64 tt) := HCc.out w4 hbw 7 _ rfl; have y8 : w4.cell? ⟨gc, ec + jn * 10 + 8, none⟩ = some (.int .i64 E) := HCc.out w4 hbw 8 _ rfl; have y9 : w4.cell? ⟨gc, ec + jn * 10 + 9, none⟩ = some (.string (bs T)) := HCc.out w4 hbw 9 _ rfl; have HB4 : Hid (Below (D + 1) WA w4) := hb4; clear hb4 hbw x0 x1 x2 x3 x4)
            obtain ⟨D2, hD2⟩ : ∃ D2, w4.heap.size = D2 := ⟨_, rfl⟩
            have hDD : D + 1 ≤ D2 := by have := HB4.out.size; have := HA.out.2.2.1; omega
            have rD2 := heap_alloc_new w4 (.cells #[.int .i64 cl, .int .i64 no, .int .i64 kind, .string (bs k), .string (bs v), .string (bs od), .int .i64 fr, .int .i64 tt, .int .i64 E, .string (bs T)] 68)
            have hbB := (Below.refl w4.heap.size w4).alloc (Nat.le_refl _) (.cells #[.int .i64 cl, .int .i64 no, .int .i64 kind, .string (bs k), .string (bs v), .string (bs od), .int .i64 fr, .int .i64 tt, .int .i64 E, .string (bs T)] 68)
            obtain ⟨WB, hWB⟩ : ∃ W, w4.alloc (.cells #[.int .i64 cl, .int .i64 no, .int .i64 kind, .string (bs k), .string (bs v), .string (bs od), .int .i64 fr, .int .i64 tt, .int .i64 E, .string (bs T)] 68) = W := ⟨_, rfl⟩
            have hzB : WB.heap.size = D2 + 1 := by rw [← hWB, World.size_alloc, hD2]
            rw [hWB] at rD2 hbB ⊢
            rw [hD2] at rD2 hbB
            try rw [hD2]
            have hBB := HB4.out.trans (hbB.mono hDD)
            have x2 := cellB rD2 2 _ rfl
            have x3 := cellB rD2 3 _ rfl
            have x4 := cellB rD2 4 _ rfl
            have x5 := cellB rD2 5 _ rfl
            have hT := Tell_any (HA.out.2.2.2.2.on (by rw [HA.out.2.2.1]; exact hBB)) ⟨kind, k, v, od⟩ HE.out.2.2.2
            rw [HE.out.2.2.1] at hT
            have HT : Hid (Calls Tryd.prog 23 #[.pointer (some ⟨X, 0, none⟩), .agg #[.int .i64 kind, .string (bs k), .string (bs v), .string (bs od)]] WB fun e W' => e = .returned (.agg #[.int .i64 AE, .string (bs AT)]) ∧ ∃ U', RM (N + 1) W' X (rnext LM ⟨kind, k, v, od⟩) U' ∧ MvR X U WB W') := hT.mono fun e W' hh => by
              obtain ⟨h1, U', h2, h3, _⟩ := hh
              exact ⟨h1, U', h2, h3⟩
            have HBB : Hid (WB.heap[D2]? = some (.cells #[.int .i64 cl, .int .i64 no, .int .i64 kind, .string (bs k), .string (bs v), .string (bs od), .int .i64 fr, .int .i64 tt, .int .i64 E, .string (bs T)] 68) ∧ Below (D + 1) WA WB ∧ D + 1 ≤ D2 ∧ WB.heap.size = D2 + 1) := ⟨rD2, hBB, hDD, hzB⟩
            clear y0 y1 y2 y3 y4 y5 y6 y7 y8 y9 rD2 hbB hWB hBB hD2 hDD hzB hT
            go_upto_region 33 with (go_at_call 23; refine HT.out.mono ?_; rintro e w6 ⟨rfl, U', hRM6, hM6⟩)
            obtain ⟨D3, hD3⟩ : ∃ D3, w6.heap.size = D3 := ⟨_, rfl⟩
            have hs6 : D2 + 1 ≤ D3 := by have := hM6.size; have := HBB.out.2.2.2; omega
            have rDB := (HBB.out.2.1.block D (by omega)).trans HA.out.1
            have rD6 := (hM6.block D (by have := HBB.out.2.2; omega) (by have := HXU.out.1; omega) (fun i hi e => by have := HXU.out.2 i hi D e; omega)).trans rDB
            have rE6 := (hM6.block D2 (by have := HBB.out.2.2; omega) (by have := HXU.out.1; have := HBB.out.2.2; omega) (fun i hi e => by have := HXU.out.2 i hi D2 e; have := HBB.out.2.2; omega)).trans HBB.out.1
            have rD3 := heap_alloc_new w6 (.cells #[.int .i64 AE, .string (bs AT)] 45)
            have hbC := (Below.refl w6.heap.size w6).alloc (Nat.le_refl _) (.cells #[.int .i64 AE, .string (bs AT)] 45)
            obtain ⟨W7, hW7⟩ : ∃ W, w6.alloc (.cells #[.int .i64 AE, .string (bs AT)] 45) = W := ⟨_, rfl⟩
            rw [hW7] at rD3 hbC
            try rw [hW7]
            have hRM7 := hRM6.on hbC
            rw [hD3] at rD3 hbC
            try rw [hD3]
            have rD7 := (hbC.block D (by have := HBB.out.2.2; omega)).trans rD6
            have rE7 := (hbC.block D2 (by omega)).trans rE6
            have s0 := cellB rD3 0 _ rfl
            have s1 := cellB rD3 1 _ rfl
            have p3 := cellB rD7 3 _ rfl
            have p4 := cellB rD7 4 _ rfl
            have e7 := cellB rE7 7 _ rfl
            have e8 := cellB rE7 8 _ rfl
            have e9 := cellB rE7 9 _ rfl
            have hRMB := HA.out.2.2.2.2.on (w' := WB) (by rw [HA.out.2.2.1]; exact HBB.out.2.1)
            have hBB7 : Below (N + 1) W2 W7 := (HA.out.2.1.trans (HBB.out.2.1.mono (by have := HA.out.2.2.2.1; omega))).trans ((hRMB.below hM6).trans (hbC.mono (by have := HA.out.2.2.2.1; have := HBB.out.2.2; omega)))
            have HB7 : Hid (Below (N + 1) W2 W7) := hBB7
            have HRM7 : Hid (_) := hRM7
            clear hs6 rDB rD6 rE6 rD3 hbC hW7 hRM7 hD3 rD7 rE7 hRMB hBB7 hRM6 hM6 x2 x3 x4 x5
            by_cases a1 : AE = pE
            rotate_left
            · have HBAD : Hid (P4 calls pts n = true) := by
                show _ = _
                rw [H4.out, decide_eq_true (show ((pT, pE) : An) ≠ (AT, AE) from fun h => a1 (congrArg Prod.snd h).symm)]; rfl
              have HGG : Hid (((4, (n : Int)) : Int × Int) = (G1, G2)) := by
                have h0 : Rl calls pts 0 = -1 := fstB_none HP1.out
                have h1 : Rl calls pts 1 = -1 := fstB_none HP2.out
                have h2 : Rl calls pts 2 = -1 := fstB_none HP3.out
                have h3 : Rl calls pts 3 = n := fstB_at hn1 HBAD.out HP.out
                show _ = _
                rw [← HG.out, chkG_at (k := 3) (by decide) (fun r hr => by
                  rcases r with _ | _ | _ | r
                  · exact h0
                  · exact h1
                  · exact h2
                  · omega) (by rw [h3]; omega), h3]
                rfl
              have hb4 := HB7.out
              have rN := (hb4.block N (by omega)).trans HZ.out.1
              have q0 := cellB rN 0 _ rfl
              have q1 := cellB rN 1 _ rfl
              have f0 := frozenB rN 0
              have f1 := frozenB rN 1
              have hg1 := congrArg Prod.fst HGG.out
              have hg2 := congrArg Prod.snd HGG.out
              have hsw := set2h rN (.int .i64 G1) (.int .i64 G2)
              have HF : Hid (Below N w ((W7.setCell ⟨N, 0, none⟩ (.int .i64 G1)).setCell ⟨N, 1, none⟩ (.int .i64 G2))) := ((HZ.out.2.1.trans (hb4.mono (by omega))).setCell (p := ⟨N, 0, none⟩) (Nat.le_refl _) _).setCell (p := ⟨N, 1, none⟩) (Nat.le_refl _) _
              have r0 := cellB hsw 0 _ rfl
              have r1 := cellB hsw 1 _ rfl
              simp only at hg1 hg2
              subst hg1
              subst hg2
              clear rN hsw hb4 HGG
              go_wp2
              exact bodyPost_ret (v := .tuple #[.agg #[.int .i64 _, .int .i64 _], .int .i64 0]) (by simp [results, Tryd.f9, go_sem, r0, r1]) rfl ⟨rfl, by rw [HN.out]; exact HF.out⟩
            by_cases a2 : AT = pT
            rotate_left
            · have HBAD : Hid (P4 calls pts n = true) := by
                show _ = _
                rw [H4.out, decide_eq_true (show ((pT, pE) : An) ≠ (AT, AE) from fun h => a2 (congrArg Prod.fst h).symm)]; rfl
              have ns := str_two a2
              have HGG : Hid (((4, (n : Int)) : Int × Int) = (G1, G2)) := by
                have h0 : Rl calls pts 0 = -1 := fstB_none HP1.out
                have h1 : Rl calls pts 1 = -1 := fstB_none HP2.out
                have h2 : Rl calls pts 2 = -1 := fstB_none HP3.out
                have h3 : Rl calls pts 3 = n := fstB_at hn1 HBAD.out HP.out
                show _ = _
                rw [← HG.out, chkG_at (k := 3) (by decide) (fun r hr => by
                  rcases r with _ | _ | _ | r
                  · exact h0
                  · exact h1
                  · exact h2
                  · omega) (by rw [h3]; omega), h3]
                rfl
              have hb4 := HB7.out
              have rN := (hb4.block N (by omega)).trans HZ.out.1
              have q0 := cellB rN 0 _ rfl
              have q1 := cellB rN 1 _ rfl
              have f0 := frozenB rN 0
              have f1 := frozenB rN 1
              have hg1 := congrArg Prod.fst HGG.out
              have hg2 := congrArg Prod.snd HGG.out
              have hsw := set2h rN (.int .i64 G1) (.int .i64 G2)
              have HF : Hid (Below N w ((W7.setCell ⟨N, 0, none⟩ (.int .i64 G1)).setCell ⟨N, 1, none⟩ (.int .i64 G2))) := ((HZ.out.2.1.trans (hb4.mono (by omega))).setCell (p := ⟨N, 0, none⟩) (Nat.le_refl _) _).setCell (p := ⟨N, 1, none⟩) (Nat.le_refl _) _
              have r0 := cellB hsw 0 _ rfl
              have r1 := cellB hsw 1 _ rfl
              simp only at hg1 hg2
              subst hg1
              subst hg2
              clear rN hsw hb4 HGG
              go_wp2
              all_goals first
                | (exact bodyPost_ret (v := .tuple #[.agg #[.int .i64 _, .int .i64 _], .int .i64 0]) (by simp [results, Tryd.f9, go_sem, r0, r1]) rfl ⟨rfl, by rw [HN.out]; exact HF.out⟩)
                | (exfalso; exact a2 (by assumption))
                | (exfalso; exact a2 (Eq.symm (by assumption)))
            subst a1
            subst a2
            by_cases t : tt = -1
            · have b1 : (tt == -1) = true := by rw [t]; rfl
              have b2 : (tt != -1) = false := by rw [t]; rfl
              have HGOOD : Hid (P4 calls pts n = false) := by
                show _ = _
                rw [H4.out, t]; simp
              clear t
              have HPN : Hid (∀ m, m < n + 1 → P4 calls pts m = false) := fun m hm => by
                by_cases e : m = n
                · subst e; exact HGOOD.out
                · exact HP.out m (by omega)
              go_wp2
              go_roundg (pts.length - (n + 1))
              case measure => omega
              case rel => exact ⟨n + 1, U', by omega, by go_num, by rw [HE.out.2.1]; exact HRM7.out, HPN.out, HB7.out⟩
            have b1 : (tt == -1) = false := by simpa using t
            have b2 : (tt != -1) = true := by simpa using t
            by_cases a3 : AE = E
            rotate_left
            · have HBAD : Hid (P4 calls pts n = true) := by
                show _ = _
                rw [H4.out, decide_eq_true t, decide_eq_true (show ((AT, AE) : An) ≠ (T, E) from fun h => a3 (congrArg Prod.snd h))]; simp
              have HGG : Hid (((4, (n : Int)) : Int × Int) = (G1, G2)) := by
                have h0 : Rl calls pts 0 = -1 := fstB_none HP1.out
                have h1 : Rl calls pts 1 = -1 := fstB_none HP2.out
                have h2 : Rl calls pts 2 = -1 := fstB_none HP3.out
                have h3 : Rl calls pts 3 = n := fstB_at hn1 HBAD.out HP.out
                show _ = _
                rw [← HG.out, chkG_at (k := 3) (by decide) (fun r hr => by
                  rcases r with _ | _ | _ | r
                  · exact h0
                  · exact h1
                  · exact h2
                  · omega) (by rw [h3]; omega), h3]
                rfl
              have hb4 := HB7.out
              have rN := (hb4.block N (by omega)).trans HZ.out.1
              have q0 := cellB rN 0 _ rfl
              have q1 := cellB rN 1 _ rfl
              have f0 := frozenB rN 0
              have f1 := frozenB rN 1
              have hg1 := congrArg Prod.fst HGG.out
              have hg2 := congrArg Prod.snd HGG.out
              have hsw := set2h rN (.int .i64 G1) (.int .i64 G2)
              have HF : Hid (Below N w ((W7.setCell ⟨N, 0, none⟩ (.int .i64 G1)).setCell ⟨N, 1, none⟩ (.int .i64 G2))) := ((HZ.out.2.1.trans (hb4.mono (by omega))).setCell (p := ⟨N, 0, none⟩) (Nat.le_refl _) _).setCell (p := ⟨N, 1, none⟩) (Nat.le_refl _) _
              have r0 := cellB hsw 0 _ rfl
              have r1 := cellB hsw 1 _ rfl
              simp only at hg1 hg2
              subst hg1
              subst hg2
              clear rN hsw hb4 HGG
              go_wp2
              exact bodyPost_ret (v := .tuple #[.agg #[.int .i64 _, .int .i64 _], .int .i64 0]) (by simp [results, Tryd.f9, go_sem, r0, r1]) rfl ⟨rfl, by rw [HN.out]; exact HF.out⟩
            by_cases a4 : AT = T
            rotate_left
            · have HBAD : Hid (P4 calls pts n = true) := by
                show _ = _
                rw [H4.out, decide_eq_true t, decide_eq_true (show ((AT, AE) : An) ≠ (T, E) from fun h => a4 (congrArg Prod.fst h))]; simp
              have ns := str_two a4
              have HGG : Hid (((4, (n : Int)) : Int × Int) = (G1, G2)) := by
                have h0 : Rl calls pts 0 = -1 := fstB_none HP1.out
                have h1 : Rl calls pts 1 = -1 := fstB_none HP2.out
                have h2 : Rl calls pts 2 = -1 := fstB_none HP3.out
                have h3 : Rl calls pts 3 = n := fstB_at hn1 HBAD.out HP.out
                show _ = _
                rw [← HG.out, chkG_at (k := 3) (by decide) (fun r hr => by
                  rcases r with _ | _ | _ | r
                  · exact h0
                  · exact h1
                  · exact h2
                  · omega) (by rw [h3]; omega), h3]
                rfl
              have hb4 := HB7.out
              have rN := (hb4.block N (by omega)).trans HZ.out.1
              have q0 := cellB rN 0 _ rfl
              have q1 := cellB rN 1 _ rfl
              have f0 := frozenB rN 0
              have f1 := frozenB rN 1
              have hg1 := congrArg Prod.fst HGG.out
              have hg2 := congrArg Prod.snd HGG.out
              have hsw := set2h rN (.int .i64 G1) (.int .i64 G2)
              have HF : Hid (Below N w ((W7.setCell ⟨N, 0, none⟩ (.int .i64 G1)).setCell ⟨N, 1, none⟩ (.int .i64 G2))) := ((HZ.out.2.1.trans (hb4.mono (by omega))).setCell (p := ⟨N, 0, none⟩) (Nat.le_refl _) _).setCell (p := ⟨N, 1, none⟩) (Nat.le_refl _) _
              have r0 := cellB hsw 0 _ rfl
              have r1 := cellB hsw 1 _ rfl
              simp only at hg1 hg2
              subst hg1
              subst hg2
              clear rN hsw hb4 HGG
              go_wp2
              all_goals first
                | (exact bodyPost_ret (v := .tuple #[.agg #[.int .i64 _, .int .i64 _], .int .i64 0]) (by simp [results, Tryd.f9, go_sem, r0, r1]) rfl ⟨rfl, by rw [HN.out]; exact HF.out⟩)
                | (exfalso; exact a4 (by assumption))
                | (exfalso; exact a4 (Eq.symm (by assumption)))
            subst a3
            subst a4
            have HGOOD : Hid (P4 calls pts n = false) := by
              show _ = _
              rw [H4.out]; simp
            have HPN : Hid (∀ m, m < n + 1 → P4 calls pts m = false) := fun m hm => by
              by_cases e : m = n
              · subst e; exact HGOOD.out
              · exact HP.out m (by omega)
            go_wp2
            go_roundg (pts.length - (n + 1))
            case measure => omega
            case rel => exact ⟨n + 1, U', by omega, by go_num, by rw [HE.out.2.1]; exact HRM7.out, HPN.out, HB7.out⟩
          obtain rfl : n = pts.length := by omega
          have HGG : Hid (((0, 0) : Int × Int) = (G1, G2)) := by
            show _ = _
            rw [← HG.out]
            refine (chkG_none fun r hr => ?_).symm
            rcases r with _ | _ | _ | _ | r
            · exact fstB_none HP1.out
            · exact fstB_none HP2.out
            · exact fstB_none HP3.out
            · exact fstB_none hP
            · omega
          obtain ⟨W7, hW7⟩ : ∃ W, wr = W := ⟨_, rfl⟩
          rw [hW7] at hB ⊢
          have hb4 := hB
          clear hRM hP hBN
          have rN := (hb4.block N (by omega)).trans HZ.out.1
          have q0 := cellB rN 0 _ rfl
          have q1 := cellB rN 1 _ rfl
          have f0 := frozenB rN 0
          have f1 := frozenB rN 1
          have hg1 := congrArg Prod.fst HGG.out
          have hg2 := congrArg Prod.snd HGG.out
          have hsw := set2h rN (.int .i64 G1) (.int .i64 G2)
          have HF : Hid (Below N w ((W7.setCell ⟨N, 0, none⟩ (.int .i64 G1)).setCell ⟨N, 1, none⟩ (.int .i64 G2))) := ((HZ.out.2.1.trans (hb4.mono (by omega))).setCell (p := ⟨N, 0, none⟩) (Nat.le_refl _) _).setCell (p := ⟨N, 1, none⟩) (Nat.le_refl _) _
          have r0 := cellB hsw 0 _ rfl
          have r1 := cellB hsw 1 _ rfl
          simp only at hg1 hg2
          subst hg1
          subst hg2
          clear rN hsw hb4 HGG
          go_wp2
          exact bodyPost_ret (v := .tuple #[.agg #[.int .i64 _, .int .i64 _], .int .i64 0]) (by simp [results, Tryd.f9, go_sem, r0, r1]) rfl ⟨rfl, by rw [HN.out]; exact HF.out⟩
end
section
open Go.RowKit Go.Maps
attribute [local go_sem ↓] Go.wp_at_zero Go.wp_at_succ

set_option maxRecDepth 20000 in
set_option maxHeartbeats 2000000 in
theorem checks_any (calls : List Cl) (pts : List Pt) (vc vp : Value) (w : World) (hc : SlF ccs 10 w vc calls) (hp : SlF pks 5 w vp pts) (wc : ∀ c ∈ calls, wfK (ck c)) (wp : ∀ p ∈ pts, wfK (pk2 p)) (he : EnvK w) : Calls Tryd.prog 3 #[vc, vp] w fun e W' => e = .returned (.bool true) ∧ Below w.heap.size w W' := by
  obtain ⟨va, vcap, rfl⟩ := hc.slice
  obtain ⟨pa, pcap, rfl⟩ := hp.slice
  by_cases hl1 : 150 < calls.length
  · have d1 : (150 : Int) < (calls.length : Int) := by omega
    have hR := reads_any w he
    clear hl1 hc hp wc wp he
    go_enter Tryd.func3, Tryd.ntmps3
    go_wp2_with (go_at_call 7; refine hR.mono ?_; clear hR; rintro e w1 ⟨rfl, hb1⟩)
    go_ret
    exact ⟨rfl, hb1⟩
  have d1 : ¬ (150 : Int) < (calls.length : Int) := by omega
  by_cases hl2 : 150 < pts.length
  · have d2 : (150 : Int) < (pts.length : Int) := by omega
    have hR := reads_any w he
    clear hl1 hl2 hc hp wc wp he
    go_enter Tryd.func3, Tryd.ntmps3
    go_wp2_with (go_at_call 7; refine hR.mono ?_; clear hR; rintro e w1 ⟨rfl, hb1⟩)
    go_ret
    exact ⟨rfl, hb1⟩
  have d2 : ¬ (150 : Int) < (pts.length : Int) := by omega
  obtain ⟨N, hN⟩ : ∃ N, w.heap.size = N := ⟨_, rfl⟩
  have hsN := he.size
  obtain ⟨G, hG⟩ : ∃ x, chkG calls pts = x := ⟨_, rfl⟩
  obtain ⟨G1, G2⟩ := G
  have HS : Hid (∀ W, Below N w W → Calls Tryd.prog 7 #[] W fun e W' => e = .returned (.bool true) ∧ Below N w W') := fun W hW => (reads_any W (he.below hW (by omega))).mono fun e W' hh => ⟨hh.1, hW.trans (hh.2.mono (by have := hW.size; omega))⟩
  have hC8 : Calls Tryd.prog 8 #[.slice va calls.length vcap, .slice pa pts.length pcap] w (fun e W' => e = .returned (.tuple #[.int .i64 G1, .int .i64 G2, .int .i64 0]) ∧ Below N w W') := (Check24_any ⟨hc, hp, by omega, by omega, wc, wp⟩ he).mono fun e W' hh => by rw [hG] at hh; exact ⟨hh.1, hh.2.mono (by omega)⟩
  have HA : Hid (∀ W, Below N w W → Calls Tryd.prog 10 #[.slice va calls.length vcap] W fun e W' => ∃ u, e = .returned u ∧ SlF ccs 10 W' u calls ∧ Below N w W') := fun W hW => (refs_any calls _ W (hc.on hW (by omega)) (by omega)).mono fun e W' hh => by
    obtain ⟨u, h1, h2, h3⟩ := hh
    exact ⟨u, h1, h2, hW.trans (h3.mono (by have := hW.size; omega))⟩
  have HB : Hid (∀ W u, Below N w W → SlF ccs 10 W u calls → Calls Tryd.prog 11 #[.slice pa pts.length pcap] W fun e W' => ∃ x, e = .returned x ∧ SlF pks 5 W' x pts ∧ SlF ccs 10 W' u calls ∧ Below N w W') := fun W u hW hu => (points_any pts _ W (hp.on hW (by omega)) (by omega)).mono fun e W' hh => by
    obtain ⟨x, h1, h2, h3⟩ := hh
    exact ⟨x, h1, h2, hu.on h3 (Nat.le_refl _), hW.trans (h3.mono (by have := hW.size; omega))⟩
  have HC : Hid (∀ W u x, Below N w W → SlF ccs 10 W u calls → SlF pks 5 W x pts → Calls Tryd.prog 9 #[u, x] W fun e W' => e = .returned (.tuple #[.agg #[.int .i64 G1, .int .i64 G2], .int .i64 0]) ∧ Below N w W') := fun W u x hW hu hx => (rCheck24_any calls pts u x W hu hx (by omega) (by omega)).mono fun e W' hh => by rw [hG] at hh; exact ⟨hh.1, hW.trans (hh.2.mono (by have := hW.size; omega))⟩
  have HN : Hid (w.heap.size = N) := hN
  clear hl1 hl2 hc hp wc wp he hN hsN hG
  go_enter Tryd.func3, Tryd.ntmps3
  go_upto_region 4 with (go_at_call 8; refine hC8.mono ?_; clear hC8; rintro e w1 ⟨rfl, hb1⟩)
  go_upto_region 5 with (first
    | (go_at_call 10; refine (HA.out _ hb1).mono ?_; rintro e w2 ⟨u2, rfl, hu2, hb2⟩)
    | (go_at_call 11; refine (HB.out _ _ hb2 hu2).mono ?_; rintro e w3 ⟨x3, rfl, hx3, hu3, hb3⟩)
    | (go_at_call 9; refine (HC.out _ _ _ hb3 hu3 hx3).mono ?_; rintro e w4 ⟨rfl, hb4⟩))
  have hS9 := HS.out _ (hb4.alloc (by have := hb4.size; have := HN.out; omega) (.cells #[.int .i64 G1, .int .i64 G2] 29))
  obtain ⟨W5, hW5⟩ : ∃ W, w4.alloc (.cells #[.int .i64 G1, .int .i64 G2] 29) = W := ⟨_, rfl⟩
  have rG := heap_alloc_new w4 (.cells #[.int .i64 G1, .int .i64 G2] 29)
  rw [hW5] at hS9 rG ⊢
  have y0 := cellB rG 0 _ rfl
  have y1 := cellB rG 1 _ rfl
  clear hb1 hu2 hb2 hx3 hu3 hb3 hb4 rG hW5 HA HB HC
  go_wp2_with (go_at_call 7; refine hS9.mono ?_; clear hS9; rintro e w6 ⟨rfl, hb6⟩)
  go_ret
  exact ⟨rfl, by rw [HN.out]; exact hb6⟩
end
end Go.Proofs.YtdfonbhboncjmaaDoor
