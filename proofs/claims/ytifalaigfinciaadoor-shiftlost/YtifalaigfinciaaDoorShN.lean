/- In which order changes come: the statement's function, walked. -/
import Derived.Test.YtifalaigfinciaaDoorShM
namespace Go.Proofs.YtifalaigfinciaaDoor
open Go.RowKit
attribute [local go_sem ↓] Go.wp_at_zero Go.wp_at_succ

/-- append(changes, one more), where it lies in a block of its own. -/
theorem wpList_append_change {w : World} {ops : Array Oper} {rest : List Oper} {o : Oper} {a : Act} {Q : Exit → Act → World → Prop} (hgd : o.guard = none) (s x : Operand)
    (ho : o.op = .call { callee := .builtin .append, args := #[s, x], argTypes := #[52, 52] }) (base : Nat) (v : Value) (n : Nat) (xs : List Value) (hs : a.eval s = v) (hown : w.ownsRow base 27 6 v n xs)
    (X : Nat) (c : Cv) (hx : a.eval x = .slice (some ⟨X, 0, none⟩) 1 1) (hX : w.heap[X]? = some (.cells (c6 c).toArray 27)) (hb : ∃ p k m, c.bv = .slice p k m) (hn : n ≤ 100000) (hbase : base ≤ w.heap.size)
    (h : ∀ v' w', w'.ownsRow base 27 6 v' (n + 1) (xs ++ c6 c) → w.grownBy w' v.ownBlock → Below base w w' → wpList Tryd.prog ops Q rest (a.put o.dst v') w') : wpList Tryd.prog ops Q (o :: rest) a w := by
  obtain ⟨i0, hi, hz0, hz1, hz2⟩ := info_parts Tryd.info27
  refine wpList_append_own w hgd s x 52 ho base 27 i0 _ 6 88 Tryd.underlying52 hi hz0 hz1 hz2 rfl (by decide) v n xs hs hown ⟨X, 0, none⟩ 1 1 (c6 c) hx rfl ?_ ?_ (by unfold maxLen; omega) (by omega) hbase ?_
  · intro j y hy
    have := World.news_of_block hX j y (by simpa using hy)
    exact this
  · intro y hy
    obtain ⟨p, k, m, hb⟩ := hb
    simp only [c6, hb, List.mem_cons, List.not_mem_nil, or_false] at hy
    rcases hy with rfl | rfl | rfl | rfl | rfl | rfl <;> rfl
  · intro v' w' h1 h2 _
    exact h v' w' h1 h2 ((Below.refl base w).grown h2 hbase (fun q hq => (hown.lt q hq).1))
/-- Are two best orders of one number and view alike? -/
def okP (b d : Bv) : Prop := d.n = b.n → d.v = b.v → d.t = b.t
theorem allB_snoc {L : List Cv} {k : Nat} {c : Cv} (h : L[k]? = some c) {p : Bv → Prop} (h1 : ∀ b ∈ allB (L.take k), p b) (h2 : ∀ b ∈ c.bl, p b) : ∀ b ∈ allB (L.take (k + 1)), p b := by
  rw [allB_take h]
  intro b hb
  rcases List.mem_append.1 hb with hb | hb
  · exact h1 b hb
  · exact h2 b hb
theorem take_snoc {l : List Bv} {k : Nat} {x : Bv} (h : l[k]? = some x) {p : Bv → Prop} (h1 : ∀ b ∈ l.take k, p b) (h2 : p x) : ∀ b ∈ l.take (k + 1), p b := by
  rw [List.take_add_one, h]
  intro b hb
  rcases List.mem_append.1 hb with hb | hb
  · exact h1 b hb
  · simp at hb; subst hb; exact h2

set_option maxRecDepth 20000 in
set_option maxHeartbeats 4000000 in
theorem turned_any (L : List Cv) (v : Value) (w : World) (he : Env w) (hbig : ∀ c ∈ L, c.bl.length ≤ 140737488355328) (hv : Cl w.heap.size w v L) :
    Calls Tryd.prog 5 #[v] w fun e W' => e = .returned (.bool true) ∧ Below w.heap.size w W' := by
  obtain ⟨va, vc, rfl⟩ := hv.slice
  have HFi : Hid (∀ W, Below w.heap.size w W → Calls Tryd.prog 7 #[] W fun e W' => e = .returned (.bool true) ∧ Below w.heap.size w W') := fun W hW => by
    refine (fills_any W (he.next hW)).mono ?_
    rintro e W' ⟨rfl, hb⟩
    exact ⟨rfl, hW.trans (hb.mono hW.size)⟩
  by_cases hlen : 12 < L.length
  · have q1 : (12 : Int) < (L.length : Int) := by omega
    have hF := HFi.out w (Below.refl _ _)
    clear HFi hv he hbig
    go_enter Tryd.func5, Tryd.ntmps5
    go_wp2_with (first | (go_at_call 7; refine hF.mono ?_; clear hF; rintro e w1 ⟨rfl, hb1⟩))
    exact bodyPost_ret (v := .bool true) (by simp [results, Tryd.f5, go_sem]) rfl ⟨rfl, hb1⟩
  have q1 : (L.length : Int) ≤ 12 := by omega
  have HV : Hid (∀ W, Below w.heap.size w W → Cl w.heap.size W (.slice va L.length vc) L) := fun W hW => hv.below hW (Nat.le_refl _)
  have HE : Hid (Env w) := he
  have HBG : Hid (∀ c ∈ L, c.bl.length ≤ 140737488355328) := hbig
  clear hv he hbig
  obtain ⟨Q, hQ⟩ : ∃ Q, w.heap.size = Q := ⟨_, rfl⟩
  rw [hQ] at HFi HV ⊢
  have HQ : Hid (w.heap.size = Q) := hQ
  go_enter Tryd.func5, Tryd.ntmps5
  go_wp2
  go_loopw [3, 22] (fun u p wr => ∃ k : Nat, p = .int .i64 k ∧ k ≤ L.length ∧ wr.ownsRow Q 27 6 u k (ccs (L.reverse.take k)) ∧ Hid ((∀ c ∈ L.take k, largeL c.mn c.mt c.bl = false) ∧ ∀ b ∈ allB (L.take k), ∀ d ∈ allB L, okP b d) ∧ Below Q w wr)
    (fun _ p _ => L.length - (intOf p).toNat)
  case atStart => exact ⟨0, rfl, Nat.zero_le _, World.ownsRow_nil _ _ _ _, ⟨by simp, by simp [allB]⟩, Below.refl _ _⟩
  case round =>
    obtain ⟨k, rfl, hk, hown, HS, hB⟩ := hrel
    obtain ⟨ua, uc, rfl⟩ := owns_slice hown
    have hBs : Q ≤ wr.heap.size := by have := hB.size; omega
    by_cases hk1 : k = L.length
    · subst hk1
      rw [List.take_length] at HS
      have hrt : L.reverse.take L.length = L.reverse := List.take_of_length_le (by simp)
      rw [hrt] at hown
      have hbl : ∀ c ∈ L, c.bl.length ≤ 1000 := fun c hc => by have := (largeL_false (HS.out.1 c hc)).1; omega
      obtain ⟨hlow, hfil⟩ := turned_plan (L := L) HS.out.2
      have hVw := HV.out wr hB
      have hP1 := Plan_any L (.slice va L.length vc) wr (by omega) hbl (HE.out.next (by rw [HQ.out]; exact hB)) (hVw.mono hBs)
      have hP2 : ∀ w1, Below wr.heap.size wr w1 → Calls Tryd.prog 16 #[.slice ua L.length uc] w1 fun e W' => ∃ u, e = .returned (.tuple #[.int .i64 (lowL L), u]) ∧ Tl W' u (fillsL L) ∧ Below w1.heap.size w1 W' := fun w1 hb1 => by
        have hB1 := hB.trans (hb1.mono hBs)
        have hV1 := HV.out w1 hB1
        have hcl : Cl w1.heap.size w1 (.slice ua L.length uc) L.reverse := by
          refine Cl.of_owns (base := Q) (by rw [List.length_reverse]; exact own_kept hown hb1) (Nat.le_refl _) fun c hc => ?_
          have hc := List.mem_reverse.1 hc
          obtain ⟨i, hi⟩ := List.getElem?_of_mem hc
          obtain ⟨_, _, _, _, _, h⟩ := hV1.cells hi
          exact h.mono (Nat.le_trans hBs hb1.size)
        refine (Plan_any L.reverse _ w1 (by simp; omega) (fun c hc => hbl c (List.mem_reverse.1 hc)) (HE.out.next (by rw [HQ.out]; exact hB1)) hcl).mono ?_
        rintro e W' ⟨u, rfl, hu, hb⟩
        rw [hlow]
        rw [hfil] at hu
        exact ⟨u, rfl, (Tp.of_owns (l := fillsL L) hu).tl, hb⟩
      have hF8 : (fillsL L).length ≤ 8 := by
        have := lastL_le L
        simp only [fillsL, List.length_map, numsL_len]
        omega
      obtain ⟨LO, hLO⟩ : ∃ x, lowL L = x := ⟨_, rfl⟩
      obtain ⟨F, hFe⟩ : ∃ x, fillsL L = x := ⟨_, rfl⟩
      rw [hLO, hFe] at hP1 hP2
      rw [hFe] at hF8
      have HP2 : Hid (_) := hP2
      have HBw : Hid (_) := hB
      clear HV HS hown hbl hlow hfil hVw hP2 hLO hFe hB
      go_upto_region 27 with (first
        | (go_at_call 16; refine hP1.mono ?_; clear hP1; rintro e w1 ⟨u1, rfl, hu1, hb1⟩; have hT1 := (Tp.of_owns (l := F) hu1).tl; clear hu1; obtain ⟨a1, n1, rfl⟩ := hT1.slice; have hP2 := HP2.out w1 hb1)
        | (go_at_call 16; refine hP2.mono ?_; clear hP2; rintro e w2 ⟨u2, rfl, hT2, hb2⟩; obtain ⟨a2, n2, rfl⟩ := hT2.slice))
      have hT1b := hT1.below hb2 (Nat.le_refl _)
      have hBw2 := HBw.out.trans ((hb1.trans (hb2.mono hb1.size)).mono hBs)
      have hs2 : Q ≤ w2.heap.size := by have := hBw2.size; have h1 := HQ.out; omega
      clear HP2 hT1 hb1 hb2
      go_wp2
      go_loopw [113] (fun p wr => ∃ j : Nat, p = .int .i64 j ∧ j ≤ F.length ∧ Below w2.heap.size w2 wr)
        (fun p _ => F.length - (intOf p).toNat)
      case atStart => exact ⟨0, rfl, Nat.zero_le _, Below.refl _ _⟩
      case round =>
        obtain ⟨j, rfl, hj, hb3⟩ := hrel
        by_cases hj1 : j = F.length
        · subst hj1
          have hFi := HFi.out _ (hBw2.trans (hb3.mono hs2))
          go_wp2_with (first | (go_at_call 7; refine hFi.mono ?_; clear hFi; rintro e w3 ⟨rfl, hb4⟩))
          exact bodyPost_ret (v := .bool true) (by simp [results, Tryd.f5, go_sem]) rfl ⟨rfl, hb4⟩
        · have hj2 : j < F.length := by omega
          obtain ⟨x, hx⟩ : ∃ x, F[j]? = some x := ⟨_, List.getElem?_eq_getElem hj2⟩
          have hTa := hT1b.below hb3 (Nat.le_refl _)
          have hTb := hT2.below hb3 (Nat.le_refl _)
          obtain ⟨b1, o1, rfl, hl1⟩ := hTa.some (by omega)
          obtain ⟨b2, o2, rfl, hl2⟩ := hTb.some (by omega)
          obtain ⟨e1, e2⟩ := hTa.cells hx
          obtain ⟨f1, f2⟩ := hTb.cells hx
          obtain ⟨xn, xs⟩ := x
          simp only at e1 e2 f1 f2
          have p1 : (xn == xn) = true := by simp
          have p2 := str_same xs
          have hmi : (j : Int) < (F.length : Int) := by omega
          have hmj : (F.length : Int) ≤ 8 := by omega
          have HB3 : Hid (_) := hb3
          clear hx hTa hTb hb3
          go_upto_region 32 with fail
          go_quiet (fail)
          have HB4 : Hid (_) := below_drewN HB3.out nq
          go_wp2
          go_roundw
          case rel => exact ⟨j + 1, by go_num, hj2, HB4.out⟩
          case measure => simp [intOf]; omega
    · have hk2 : k < L.length := by omega
      obtain ⟨c, hc⟩ : ∃ c, L[k]? = some c := ⟨_, List.getElem?_eq_getElem hk2⟩
      obtain ⟨r, hr⟩ : ∃ r, L.length - 1 - k = r := ⟨_, rfl⟩
      have hrk : ((L.length : Int) - 1 - (k : Int)) = (r : Int) := by omega
      have hrl : r < L.length := by omega
      obtain ⟨c', hc'⟩ : ∃ c', L[r]? = some c' := ⟨_, List.getElem?_eq_getElem hrl⟩
      have hrev : L.reverse[k]? = some c' := by
        rw [List.getElem?_reverse hk2, show L.length - 1 - k = r from hr]; exact hc'
      have htr : ccs (L.reverse.take (k + 1)) = ccs (L.reverse.take k) ++ c6 c' := by rw [List.take_add_one, hrev]; exact ccs_snoc _ _
      obtain ⟨vb, vo, rfl, hvl, ⟨c0, c1, c2, c3, c4, c5⟩, hbv⟩ := (HV.out _ hB).cells hc
      have hlg := large_any c wr (hbv.mono hBs)
      have HN1 := fun (p : Bv → Prop) => @allB_snoc L k c hc p
      have htk : L.take (k + 1) = L.take k ++ [c] := by rw [List.take_add_one, hc]; rfl
      obtain ⟨LG, hLG⟩ : ∃ x, largeL c.mn c.mt c.bl = x := ⟨_, rfl⟩
      rw [hLG] at hlg
      have HLG : Hid (largeL c.mn c.mt c.bl = LG) := hLG
      have HTK : Hid (_) := htk
      have HTR : Hid (_) := htr
      have HN : Hid (∀ (p : Bv → Prop), (∀ b ∈ allB (L.take k), p b) → (∀ b ∈ c.bl, p b) → ∀ b ∈ allB (L.take (k + 1)), p b) := fun p h1 h2 => HN1 p h1 h2
      clear hLG htk htr HN1 hrev hr
      obtain ⟨cv, clow, cmt, cmg, cma, cmn, cmc, cbv, cbl⟩ := c
      simp only at c0 c1 c2 c3 c4 c5 hbv hlg HLG HN
      obtain ⟨ba, bc, rfl⟩ := hbv.slice
      cases LG
      · have m0 : (0 : Int) ≤ (r : Int) := by omega
        have m1 : (r : Int) < (L.length : Int) := by omega
        go_upto_region 9 with (first | (go_at_call 6; refine hlg.mono ?_; clear hlg; rintro e w1 ⟨rfl, hb1⟩))
        have hB1 := hB.trans (hb1.mono hBs)
        have hown1 := own_kept hown hb1
        obtain ⟨vb', vo', hve, hvl', ⟨e0, e1, e2, e3, e4, e5⟩, hbv'⟩ := (HV.out _ hB1).cells hc'
        injection hve with hve
        injection hve with hv1 hv2
        subst hv1 hv2
        have g5 := (hb1.cell (p := ⟨vb, vo + k * 6 + 5, none⟩) (by show vb < _; omega)).trans c5
        obtain ⟨xv, xlow, xmt, xmg, xma, xmn, xmc, xbv, xbl⟩ := c'
        simp only at e0 e1 e2 e3 e4 e5 hbv' HTR
        obtain ⟨xa, xc, rfl⟩ := hbv'.slice
        have hs1 := hb1.size
        have HBV : Hid (∀ W, Below Q w W → Bl Q W (.slice ba cbl.length bc) cbl) := fun W hW => by
          obtain ⟨_, _, _, _, _, h⟩ := (HV.out W hW).cells hc
          exact h
        have hown2 := hown1.alloc (.cells #[.int .i64 xv, .int .i64 xlow, .string (bs xmt), .int .i64 xmg, .slice xma xmn xmc, .slice xa xbl.length xc] 27)
        have hX := heap_alloc_new w1 (.cells #[.int .i64 xv, .int .i64 xlow, .string (bs xmt), .int .i64 xmg, .slice xma xmn xmc, .slice xa xbl.length xc] 27)
        have hB2 := hB1.alloc (by omega) (.cells #[.int .i64 xv, .int .i64 xlow, .string (bs xmt), .int .i64 xmg, .slice xma xmn xmc, .slice xa xbl.length xc] 27)
        have HX : Hid (_) := hX
        clear hown hb1 c0 c1 c2 c3 c4 c5 hbv hbv' hc hc' hX
        go_upto_region 10 with (first | (at_builtin; refine wpList_append_change rfl _ _ rfl Q _ k _ rfl hown2 w1.heap.size ⟨xv, xlow, xmt, xmg, xma, xmn, xmc, .slice xa xbl.length xc, xbl⟩ rfl HX.out ⟨_, _, _, rfl⟩ (by omega) (by simp; omega) ?_; intro v' w3 hown3 _ hb3))
        rw [← HTR.out] at hown3
        obtain ⟨ua3, uc3, rfl⟩ := owns_slice hown3
        have hB3 := hB2.trans hb3
        have i5 : w3.cell? ⟨vb, vo + k * 6 + 5, none⟩ = some (.slice ba cbl.length bc) := by
          have h1 := (((Below.refl w1.heap.size w1).alloc (Nat.le_refl _) (.cells #[.int .i64 xv, .int .i64 xlow, .string (bs xmt), .int .i64 xmg, .slice xma xmn xmc, .slice xa xbl.length xc] 27)).cell (p := ⟨vb, vo + k * 6 + 5, none⟩) (by show vb < _; omega)).trans g5
          exact (hb3.cell (p := ⟨vb, vo + k * 6 + 5, none⟩) hvl).trans h1
        have hs3 : Q ≤ w3.heap.size := by have := hB3.size; have h1 := HQ.out; omega
        have HO3 : Hid (_) := hown3
        have hcl20 : (cbl.length : Int) ≤ 20 := by have := (largeL_false HLG.out).1; omega
        clear hown1 hown2 HX hB1 hB2 hb3 e0 e1 e2 e3 e4 e5 g5 hB hown3
        go_wp2
        go_loopw [48] (fun p wr => ∃ j : Nat, p = .int .i64 j ∧ j ≤ cbl.length ∧ Hid (∀ b ∈ cbl.take j, ∀ d ∈ allB L, okP b d) ∧ Below w3.heap.size w3 wr)
          (fun p _ => cbl.length - (intOf p).toNat)
        case atStart => exact ⟨0, rfl, Nat.zero_le _, by simp [Hid], Below.refl _ _⟩
        case round =>
          obtain ⟨j, rfl, hj, HS2, hb4⟩ := hrel
          have hB4 := hB3.trans (hb4.mono hs3)
          by_cases hj1 : j = cbl.length
          · subst hj1
            rw [List.take_length] at HS2
            have hown5 := own_kept HO3.out hb4
            have HR : Hid (_ ∧ _) := ⟨hown5, hB4⟩
            clear hown5 hB4 hb4
            go_wp2
            go_roundw
            case rel =>
              refine ⟨k + 1, by go_num, hk2, HR.out.1, ⟨?_, ?_⟩, HR.out.2⟩
              · rw [HTK.out]
                intro c hc
                rcases List.mem_append.1 hc with h | h
                · exact HS.out.1 c h
                · rw [List.mem_singleton.1 h]; exact HLG.out
              · exact HN.out (fun b => ∀ d ∈ allB L, okP b d) HS.out.2 HS2.out
            case measure => simp [intOf]; omega
          · have hj2 : j < cbl.length := by omega
            obtain ⟨x, hx⟩ : ∃ x, cbl[j]? = some x := ⟨_, List.getElem?_eq_getElem hj2⟩
            obtain ⟨vb2, vo2, rfl, hvl2, d0, d1, d2, d3, d4⟩ := (HBV.out _ hB4).cells hx
            have HTJ : Hid (∀ (p : Bv → Prop), (∀ b ∈ cbl.take j, p b) → p x → ∀ b ∈ cbl.take (j + 1), p b) := fun p h1 h2 => take_snoc hx h1 h2
            obtain ⟨W2, hW2⟩ : ∃ W, wr.alloc (.cells #[.int .i64 x.n, .int .i64 x.v, .string (bs x.t), .int .i64 x.g, .slice x.ta x.tn x.tc] 55) = W := ⟨_, rfl⟩
            have rX := heap_alloc_new wr (.cells #[.int .i64 x.n, .int .i64 x.v, .string (bs x.t), .int .i64 x.g, .slice x.ta x.tn x.tc] 55)
            have hb5 := hb4.alloc hb4.size (.cells #[.int .i64 x.n, .int .i64 x.v, .string (bs x.t), .int .i64 x.g, .slice x.ta x.tn x.tc] 55)
            have hB5 := hB4.alloc (Nat.le_trans hs3 hb4.size) (.cells #[.int .i64 x.n, .int .i64 x.v, .string (bs x.t), .int .i64 x.g, .slice x.ta x.tn x.tc] 55)
            have HW2 : Hid (_) := hW2
            rw [hW2] at rX hb5 hB5
            obtain ⟨X, hX⟩ : ∃ X, wr.heap.size = X := ⟨_, rfl⟩
            have HXe : Hid (wr.heap.size = X) := hX
            rw [hX] at rX
            have hlX := (Array.getElem?_eq_some_iff.1 rX).1
            have HCX : Hid (∀ W, Below W2.heap.size W2 W → (W.cell? ⟨X, 0, none⟩ = some (.int .i64 x.n) ∧ W.cell? ⟨X, 1, none⟩ = some (.int .i64 x.v) ∧ W.cell? ⟨X, 2, none⟩ = some (.string (bs x.t)))) := fun W hW => by
              have r := (hW.block _ hlX).trans rX
              exact ⟨cellB r 0 _ rfl, cellB r 1 _ rfl, cellB r 2 _ rfl⟩
            have hs5 : Q ≤ W2.heap.size := by have := hB5.size; have h1 := HQ.out; omega
            clear hX hW2 rX hx hb4 hB4
            go_upto_region 13 with fail
            rw [HW2.out, HXe.out]
            clear HW2 HXe d0 d1 d2 d3 d4
            go_wp2
            go_loopw [54] (fun p wr => ∃ i : Nat, p = .int .i64 i ∧ i ≤ L.length ∧ Hid (∀ d ∈ allB (L.take i), okP x d) ∧ Below W2.heap.size W2 wr)
              (fun p _ => L.length - (intOf p).toNat)
            case atStart => exact ⟨0, rfl, Nat.zero_le _, by simp [Hid, allB], Below.refl _ _⟩
            case round =>
              obtain ⟨i, rfl, hi, HS3, hb6⟩ := hrel
              have hB6 := hB5.trans (hb6.mono hs5)
              by_cases hi1 : i = L.length
              · subst hi1
                rw [List.take_length] at HS3
                have HR : Hid (_) := hb5.trans (hb6.mono hb5.size)
                clear hB6 hb6
                go_wp2
                go_roundw
                case rel => exact ⟨j + 1, by go_num, hj2, HTJ.out (fun b => ∀ d ∈ allB L, okP b d) HS2.out HS3.out, HR.out⟩
                case measure => simp [intOf]; omega
              · have hi2 : i < L.length := by omega
                obtain ⟨c2, hc2⟩ : ∃ c, L[i]? = some c := ⟨_, List.getElem?_eq_getElem hi2⟩
                obtain ⟨vb6, vo6, hve, hvl6, ⟨f0, f1, f2, f3, f4, f5⟩, hbv6⟩ := (HV.out _ hB6).cells hc2
                injection hve with hve
                injection hve with hv1 hv2
                subst hv1 hv2
                have hg2 := HBG.out c2 (List.mem_of_getElem? hc2)
                have HN3 : Hid (∀ (p : Bv → Prop), (∀ b ∈ allB (L.take i), p b) → (∀ b ∈ c2.bl, p b) → ∀ b ∈ allB (L.take (i + 1)), p b) := fun p h1 h2 => allB_snoc hc2 h1 h2
                have HBV6 : Hid (∀ W, Below Q w W → Bl Q W c2.bv c2.bl) := fun W hW => by
                  obtain ⟨_, _, _, _, _, h⟩ := (HV.out W hW).cells hc2
                  exact h
                obtain ⟨yv, ylow, ymt, ymg, yma, ymn, ymc, ybv, ybl⟩ := c2
                simp only at f0 f1 f2 f3 f4 f5 hbv6 hg2 HN3 HBV6
                obtain ⟨ya, yc, rfl⟩ := hbv6.slice
                have hb7 := hb6.alloc hb6.size (.cells #[.int .i64 yv, .int .i64 ylow, .string (bs ymt), .int .i64 ymg, .slice yma ymn ymc, .slice ya ybl.length yc] 27)
                have HB7 : Hid (_) := hb7
                have hgi : (ybl.length : Int) ≤ 140737488355328 := by omega
                clear hb7 hB6 hbv6 hc2
                go_wp2
                go_loopw [61] (fun p wr => ∃ z : Nat, p = .int .i64 z ∧ z ≤ ybl.length ∧ Hid (∀ d ∈ ybl.take z, okP x d) ∧ Below W2.heap.size W2 wr)
                  (fun p _ => ybl.length - (intOf p).toNat)
                case atStart => exact ⟨0, rfl, Nat.zero_le _, by simp [Hid], HB7.out⟩
                case round =>
                  obtain ⟨z, rfl, hz, HS4, hb8⟩ := hrel
                  have hB8 := hB5.trans (hb8.mono hs5)
                  clear f0 f1 f2 f3 f4 f5
                  by_cases hz1 : z = ybl.length
                  · subst hz1
                    rw [List.take_length] at HS4
                    have HR : Hid (_) := hb8
                    clear hB8 hb8
                    go_wp2
                    go_roundw
                    case rel => exact ⟨i + 1, by go_num, hi2, HN3.out (okP x) HS3.out HS4.out, HR.out⟩
                    case measure => simp [intOf]; omega
                  · have hz2 : z < ybl.length := by omega
                    obtain ⟨y, hy⟩ : ∃ y, ybl[z]? = some y := ⟨_, List.getElem?_eq_getElem hz2⟩
                    obtain ⟨vb8, vo8, rfl, hvl8, y0, y1, y2, y3, y4⟩ := (HBV6.out _ hB8).cells hy
                    have HTZ : Hid (okP x y → ∀ b ∈ ybl.take (z + 1), okP x b) := fun h => take_snoc hy HS4.out h
                    have hb9 := hb8.alloc hb8.size (.cells #[.int .i64 y.n, .int .i64 y.v, .string (bs y.t), .int .i64 y.g, .slice y.ta y.tn y.tc] 55)
                    obtain ⟨t0, t1, t2⟩ := HCX.out _ hb9
                    have HB9 : Hid (_) := hb9
                    have hmi : (z : Int) < (ybl.length : Int) := by omega
                    by_cases hn : y.n = x.n
                    · have p0 : (y.n == x.n) = true := by simpa using hn
                      by_cases hvv : y.v = x.v
                      · have p1 : (y.v == x.v) = true := by simpa using hvv
                        by_cases htt : y.t = x.t
                        · have p2 : ((bs y.t).toList == (bs x.t).toList) = true := by rw [htt]; exact str_same _
                          have hgo := HTZ.out (fun _ _ => htt)
                          have HGO : Hid (_) := hgo
                          clear hgo hn hvv htt hb8 hB8 hb9 hy
                          go_wp2
                          go_roundw
                          case rel => exact ⟨z + 1, by go_num, hz2, HGO.out, HB9.out⟩
                          case measure => simp [intOf]; omega
                        · have p2 := str_other htt
                          have hF := HFi.out _ (hB5.trans (hb9.mono hs5))
                          clear hn hvv htt hb8 hB8 hb9 hy
                          go_wp2_with (first | (go_at_call 7; refine hF.mono ?_; clear hF; rintro e w2 ⟨rfl, hb2⟩))
                          exact bodyPost_ret (v := .bool true) (by simp [results, Tryd.f5, go_sem]) rfl ⟨rfl, hb2⟩
                      · have p1 : (y.v == x.v) = false := by simpa using hvv
                        have HGO : Hid (_) := HTZ.out (fun _ h => absurd h hvv)
                        clear hn hvv hb8 hB8 hb9 hy
                        go_wp2
                        go_roundw
                        case rel => exact ⟨z + 1, by go_num, hz2, HGO.out, HB9.out⟩
                        case measure => simp [intOf]; omega
                    · have p0 : (y.n == x.n) = false := by simpa using hn
                      have HGO : Hid (_) := HTZ.out (fun h _ => absurd h hn)
                      clear hn hb8 hB8 hb9 hy
                      go_wp2
                      go_roundw
                      case rel => exact ⟨z + 1, by go_num, hz2, HGO.out, HB9.out⟩
                      case measure => simp [intOf]; omega
      · have hb0 := hB
        clear HV HN
        go_wp2_with (first
          | (go_at_call 6; refine hlg.mono ?_; clear hlg; rintro e w1 ⟨rfl, hb1⟩; have hF := HFi.out w1 (hb0.trans (hb1.mono hBs)))
          | (go_at_call 7; refine hF.mono ?_; clear hF; rintro e w2 ⟨rfl, hb2⟩))
        exact bodyPost_ret (v := .bool true) (by simp [results, Tryd.f5, go_sem]) rfl ⟨rfl, hb2⟩
end Go.Proofs.YtifalaigfinciaaDoor
