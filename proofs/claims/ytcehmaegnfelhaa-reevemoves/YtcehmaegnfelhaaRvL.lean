/- reeve: ReeveBegins, walked. -/
import Derived.Test.YtcehmaegnfelhaaRvK
namespace Go.Proofs.Ytcehmaegnfelhaa
open Go.RowKit
attribute [local go_sem ↓] Go.wp_at_zero Go.wp_at_succ

theorem rcN_take (l : List Ru) {n : Nat} : ∀ {k : Nat}, k ≤ n → rcN (l.take n) k = rcN l k
  | 0, _ => rfl
  | k + 1, h => by
    have ih := rcN_take l (n := n) (k := k) (by omega)
    have ht : (l.take n)[k]? = l[k]? := by rw [List.getElem?_take, if_pos (by omega)]
    rw [rcN, rcN, ht, ih]
theorem rBad_take (l : List Ru) {n k : Nat} (h : k < n) : rBad (l.take n) k = rBad l k := by
  have ht : (l.take n)[k]? = l[k]? := by rw [List.getElem?_take, if_pos (by omega)]
  rw [rBad, rBad, ht, rcN_take l (by omega)]
theorem doC_pre (cs : Cfs) (k g s : Int) : cs <+: doC cs k g s := by
  unfold doC
  split
  · exact List.prefix_append _ _
  · exact List.prefix_rfl
theorem rcN_pre (l : List Ru) {n : Nat} : ∀ {m : Nat}, n ≤ m → rcN l n <+: rcN l m
  | 0, h => by have : n = 0 := by omega
               subst this; exact List.prefix_rfl
  | m + 1, h => by
    rcases Nat.lt_or_ge n (m + 1) with h2 | h2
    · have ih := rcN_pre l (n := n) (m := m) (by omega)
      refine ih.trans ?_
      cases hx : l[m]? with
      | none => rw [rcN, hx]; exact List.prefix_rfl
      | some r => rw [rcN_at hx]; exact doC_pre _ _ _ _
    · have : n = m + 1 := by omega
      subst this; exact List.prefix_rfl
theorem cfgP_pre {a b : Cfs} (h : a <+: b) {i : Nat} (hi : i ≤ a.length) : cfgP a i = cfgP b i := by
  obtain ⟨t, rfl⟩ := h
  cases i with
  | zero => rfl
  | succ i => rw [cfgP, cfgP, List.getElem?_append_left (by omega)]
theorem allL_get {cs : Cfs} {i : Nat} (h : i < cs.length + 1) : (allL cs)[i]? = some (cgOf i (cfgP cs i)) := by
  rw [allL, List.getElem?_map, List.getElem?_range h]; rfl
theorem all_seen {a b : Cfs} (h : a <+: b) (i : Nat) (x : Cg) (hx : (allL a)[i]? = some x) : ∃ m, m ≤ b.length ∧ x = cgOf m (cfgP b m) := by
  obtain ⟨hi, rfl⟩ := allL_at hx
  have := h.length_le
  exact ⟨i, by omega, by rw [cfgP_pre h (by omega)]⟩
theorem chn_take {l : List Ru} {n m : Nat} (hok : ∀ i, i < n → rBad l i = false) (hm : m ≤ n) (ht : (l.take m).length = m) {e : Ending} {W : World} (h : ChnPost (l.take m) e W) : ∃ u, e = .returned (.tuple #[u, .int .i64 0]) ∧ Cl W u (allL (rcN l m)) := by
  rw [ChnPost, ht] at h
  rcases h with ⟨-, u, h1, h2, -⟩ | ⟨i, h1, h2, -⟩
  · rw [rcN_take l (Nat.le_refl _)] at h2
    exact ⟨u, h1, h2⟩
  · rw [rBad_take l h1, hok i (by omega)] at h2; cases h2
theorem Cl.at' {w : World} {a : Option Addr} {n c : Nat} {l : List Cg} (h : Cl w (.slice a n c) l) {i : Nat} {x : Cg} {y : Cg} (hx : l[i]? = some x) (hy : y = x) :
    ∃ b o gv, a = some ⟨b, o, none⟩ ∧ b < w.heap.size ∧ Il w gv y.gs ∧ ∀ k u, (cgv y gv)[k]? = some u → w.cell? ⟨b, o + i * 6 + k, none⟩ = some u := by
  subst hy
  obtain ⟨a2, c2, hs⟩ := h.slice
  have hn : n = l.length := by injection hs
  subst hn
  exact h.at hx
theorem SlF.take {w : World} {a : Option Addr} {n c : Nat} {l : List Ru} (h : SlF rul 6 w (.slice a n c) l) {m : Nat} (hm : m ≤ l.length) : SlF rul 6 w (.slice a m c) (l.take m) := by
  have hl : (l.take m).length = m := by rw [List.length_take]; omega
  rcases h with ⟨rfl, a', c', hv⟩ | ⟨b, o, c', hv, hlt, h⟩
  · have : m = 0 := by simpa using hm
    subst this
    exact .inl ⟨rfl, a, c, rfl⟩
  · injection hv with h1 h2 h3
    subst h1
    refine .inr ⟨b, o, c, by rw [hl], hlt, fun i x hx k u hu => h i x ?_ k u hu⟩
    rw [List.getElem?_take] at hx
    split at hx
    · exact hx
    · cases hx
set_option maxRecDepth 20000 in
set_option maxHeartbeats 4000000 in
theorem begins_any (l : List Ru) (v : Value) (n : Int) (w : World) (hv : SlF rul 6 w v l) (hcap : ∀ a c, v = .slice a l.length c → l.length ≤ c) : Calls Try.prog 5 #[v, .int .i64 n] w fun e W' => e = .returned (.bool true) ∧ Below w.heap.size w W' := by
  obtain ⟨va, vc, rfl⟩ := hv.slice
  have hvc := hcap va vc rfl
  obtain ⟨N, hN⟩ : ∃ N, w.heap.size = N := ⟨_, rfl⟩
  obtain ⟨ln, hln⟩ : ∃ k, l.length = k := ⟨_, rfl⟩
  rw [hN]
  by_cases h1 : 100 < ln
  · have h2 : (100 : Int) < (ln : Int) := by omega
    rw [hln]
    go_enter Try.func5, Try.ntmps5
    go_wp2_with (first
      | (go_at_call 7; refine (two_any _).mono ?_; rintro e w9 ⟨rfl, hB9⟩)
      | fail)
    go_ret
    exact ⟨rfl, by rw [← hN]; exact hB9⟩
  have h2 : ¬ (100 : Int) < (ln : Int) := by omega
  have hC := chain_any l _ w hv (by omega)
  rw [hN] at hC
  have hC1 : Calls Try.prog 16 #[.slice va ln vc] w fun e W' => ∃ ca cn cc E, e = .returned (.tuple #[.slice ca cn cc, .int .i64 E]) ∧ ((E = 0 ∧ (∀ i, i < ln → rBad l i = false) ∧ (rcN l ln).length + 1 = cn ∧ Cl W' (.slice ca cn cc) (allL (rcN l ln)) ∧ ∀ (i : Nat) (x : Cg), (allL (rcN l ln))[i]? = some x → x.gs.length ≤ 1000) ∨ E = 7) ∧ Below N w W' := by
    rw [← hln]
    refine hC.mono ?_
    rintro e W' ⟨⟨ho, u, rfl, hc, hsm⟩ | ⟨i, -, -, -, rfl⟩, hB⟩
    · obtain ⟨a, c, rfl⟩ := hc.slice
      exact ⟨a, _, c, 0, rfl, .inl ⟨rfl, ho, (allL_len _).symm, hc, hsm⟩, hB⟩
    · exact ⟨none, 0, 0, 7, rfl, .inr rfl, hB⟩
  have HVL0 : Hid (∀ W, Below N w W → SlF rul 6 W (.slice va ln vc) l) := fun W hW => by rw [← hln]; exact hv.on hW (by omega)
  have HLN : Hid (l.length = ln ∧ ln ≤ vc ∧ ln ≤ 100 ∧ w.heap.size = N) := ⟨hln, by omega, by omega, hN⟩
  have hlv : ln ≤ vc := by omega
  rw [hln]
  clear hC hv hcap hN hvc
  go_enter Try.func5, Try.ntmps5
  go_upto_region 4 with (first
    | (go_at_call 16; refine hC1.mono ?_; clear hC1; rintro e w1 ⟨ca, cn, cc, E, rfl, hor, hB1⟩)
    | fail)
  rcases hor with ⟨rfl, hok, hcn, hcl1, hsm⟩ | rfl
  · have hNw1 : N ≤ w1.heap.size := by have := hB1.size; have := HLN.out; omega
    have HC1 : Hid (Cl w1 (.slice ca cn cc) (allL (rcN l ln)) ∧ Below N w w1 ∧ N ≤ w1.heap.size) := ⟨hcl1, hB1, hNw1⟩
    have HOK : Hid ((∀ i, i < ln → rBad l i = false) ∧ (rcN l ln).length + 1 = cn ∧ l.length = ln) := ⟨hok, hcn, hln⟩
    have HVW : Hid (∀ m, m ≤ ln → SlF rul 6 w1 (.slice va m vc) (l.take m)) := fun m hm => (HVL0.out w1 hB1).take (by rw [hln]; exact hm)
    have HVL : Hid (∀ W, Below w1.heap.size w1 W → SlF rul 6 W (.slice va ln vc) l) := fun W hW => HVL0.out W (hB1.trans (hW.mono hNw1))
    have HGL : Hid (∀ (i : Nat) (x : Cg), (allL (rcN l ln))[i]? = some x → x.gs.length ≤ 1000) := hsm
    clear hsm hcl1 hB1 hNw1 hok hcn h1 HVL0
    by_cases hn1 : n < 0
    · go_upto_region 8 with fail
      have hC2 := chain_any (l.take ln) (.slice va ln vc) w1 (HVW.out ln (by omega)) (by have h9 := List.length_take_le ln l; omega)
      have hb1 : (0 : Int) ≤ (ln : Int) := by omega
      have hb2 : (ln : Int) ≤ (vc : Int) := by omega
      have hb3 : ln ≤ vc := by omega
      have htl : (l.take ln).length = ln := by rw [List.length_take]; omega
      have hC3 : Calls Try.prog 16 #[.slice va ln vc] w1 fun e W' => ∃ da dc, e = .returned (.tuple #[.slice da ((rcN l ln).length + 1) dc, .int .i64 0]) ∧ Cl W' (.slice da ((rcN l ln).length + 1) dc) (allL (rcN l ln)) ∧ Below w1.heap.size w1 W' := by
        refine hC2.mono ?_
        rintro e W' ⟨h, hB⟩
        obtain ⟨u, rfl, hcl⟩ := chn_take (HOK.out.1) (by omega) htl h
        obtain ⟨a, c, rfl⟩ := hcl.slice
        rw [allL_len] at hcl ⊢
        exact ⟨a, c, rfl, hcl, hB⟩
      obtain ⟨dn, hdn⟩ : ∃ k, (rcN l ln).length + 1 = k := ⟨_, rfl⟩
      have hpre := rcN_pre l (n := ln) (m := ln) (by omega)
      have hle := hpre.length_le
      have HPR : Hid ((rcN l ln) <+: (rcN l ln) ∧ (rcN l ln).length + 1 = dn ∧ (rcN l ln).length + 1 = cn ∧ (rcN l ln).length ≤ 40) := ⟨hpre, hdn, HOK.out.2.1, rcN_le l ln⟩
      have hdc : ¬ (cn : Int) < (dn : Int) := by have := HOK.out.2.1; omega
      rw [hdn] at hC3
      clear hC2 htl hdn hpre hle
      go_upto_region 9 with (first
        | (go_at_call 16; refine hC3.mono ?_; clear hC3; rintro e w2 ⟨da, dc, rfl, hcl2, hB2⟩)
        | fail)
      have HC2 : Hid (Cl w2 (.slice da dn dc) (allL (rcN l ln)) ∧ Below w1.heap.size w1 w2) := ⟨hcl2, hB2⟩
      have hCk := check_any l (.slice va ln vc) w2 (HVL.out w2 hB2) (by have := HOK.out.2.2; omega) (by have h9 := HOK.out.2.2; rw [h9]; exact HOK.out.1) (allL (rcN l ln)) (.slice da dn dc) hcl2 (by rw [allL_len]; have := HPR.out.2.2.2; omega) (all_seen (by have h9 := HOK.out.2.2; rw [h9]; exact HPR.out.1))
      clear hcl2 hB2
      go_upto_region 12 with (first
        | (go_at_call 17; refine hCk.mono ?_; clear hCk; rintro e w4 ⟨rfl, hB4⟩)
        | fail)
      have H4 : Hid (Below w1.heap.size w1 w4) := HC2.out.2.trans (hB4.mono HC2.out.2.size)
      have HD4 : Hid (Cl w4 (.slice da dn dc) (allL (rcN l ln)) ∧ Cl w4 (.slice ca cn cc) (allL (rcN l ln))) := ⟨HC2.out.1.on hB4 (Nat.le_refl _), HC1.out.1.on H4.out (Nat.le_refl _)⟩
      clear hB4
      go_wp2_with fail
      go_loopg [60] dn (fun gk j wr => ∃ (i : Nat), i + gk = dn ∧ j = .int .i64 i ∧ Below w4.heap.size w4 wr)
      case atStart => exact ⟨0, by omega, rfl, Below.refl _ _⟩
      case round =>
        obtain ⟨j, hin, rfl, hB⟩ := hrel
        by_cases hi1 : j = dn
        · subst hi1
          have HF : Hid (Below N w wr ∧ N ≤ wr.heap.size) := ⟨HC1.out.2.1.trans ((H4.out.trans (hB.mono H4.out.size)).mono HC1.out.2.2), Nat.le_trans HC1.out.2.2 (Nat.le_trans H4.out.size hB.size)⟩
          clear hB
          go_wp2_with (first
            | (go_at_call 7; refine (two_any _).mono ?_; rintro e w9 ⟨rfl, hB9⟩)
            | fail)
          go_ret
          exact ⟨rfl, HF.out.1.trans (hB9.mono HF.out.2)⟩
        · have hi2 : j < dn := by omega
          obtain ⟨hp1, hp2, hp3, hp4⟩ := HPR.out
          have hjd : j < (rcN l ln).length + 1 := by omega
          have hjc : j < (rcN l ln).length + 1 := by have := hp1.length_le; omega
          obtain ⟨hd1, hd2⟩ := HD4.out
          have hx := allL_get hjd
          have hy := allL_get hjc
          have hee := cfgP_pre hp1 (i := j) (by omega)
          rw [hee] at hx
          obtain ⟨⟨cj, gz, a, b, c, d⟩, hX⟩ : ∃ X, cgOf j (cfgP (rcN l ln) j) = X := ⟨_, rfl⟩
          have hcj : cj = (j : Int) := by have := congrArg Cg.num hX; exact this.symm
          subst hcj
          rw [hX] at hx hy
          have hgz : gz.length ≤ 1000 := HGL.out j _ hy
          obtain ⟨g0, e', gv, hg', hgb, hil, x⟩ := (hd1.on hB (Nat.le_refl _)).at' hx rfl
          obtain ⟨g1, e1', gv1, hg1, hgb1, hil1, z⟩ := (hd2.on hB (Nat.le_refl _)).at' hy rfl
          subst hg' hg1
          obtain ⟨qa, qc, rfl⟩ := hil.slice
          obtain ⟨pa, pc, rfl⟩ := hil1.slice
          have x0 : wr.cell? ⟨g0, e' + j * 6, none⟩ = some (.int .i64 j) := x 0 _ rfl
          have x1 : wr.cell? ⟨g0, e' + j * 6 + 1, none⟩ = some (.slice qa gz.length qc) := x 1 _ rfl
          have x2 : wr.cell? ⟨g0, e' + j * 6 + 2, none⟩ = some (.int .i64 a) := x 2 _ rfl
          have x3 : wr.cell? ⟨g0, e' + j * 6 + 3, none⟩ = some (.int .i64 b) := x 3 _ rfl
          have x4 : wr.cell? ⟨g0, e' + j * 6 + 4, none⟩ = some (.int .i64 c) := x 4 _ rfl
          have x5 : wr.cell? ⟨g0, e' + j * 6 + 5, none⟩ = some (.int .i64 d) := x 5 _ rfl
          have z0 : wr.cell? ⟨g1, e1' + j * 6, none⟩ = some (.int .i64 j) := z 0 _ rfl
          have z1 : wr.cell? ⟨g1, e1' + j * 6 + 1, none⟩ = some (.slice pa gz.length pc) := z 1 _ rfl
          have z2 : wr.cell? ⟨g1, e1' + j * 6 + 2, none⟩ = some (.int .i64 a) := z 2 _ rfl
          have z3 : wr.cell? ⟨g1, e1' + j * 6 + 3, none⟩ = some (.int .i64 b) := z 3 _ rfl
          have z4 : wr.cell? ⟨g1, e1' + j * 6 + 4, none⟩ = some (.int .i64 c) := z 4 _ rfl
          have z5 : wr.cell? ⟨g1, e1' + j * 6 + 5, none⟩ = some (.int .i64 d) := z 5 _ rfl
          have d0 : (0 : Int) ≤ (j : Int) := by omega
          have d1 : (j : Int) < (dn : Int) := by omega
          have d2 : (j : Int) < (cn : Int) := by omega
          have hjb : j ≤ 100 := by omega
          obtain ⟨D, hD⟩ : ∃ D, wr.heap.size = D := ⟨_, rfl⟩
          have HDD : Hid (wr.heap.size = D) := hD
          have hgD : g0 < D := by omega
          have hgD1 : g1 < D := by omega
          have HCF1 : Hid (∀ W, Calls Try.prog 19 #[.agg (cf j (.slice qa gz.length qc) a b c d)] W fun e W' => e = .returned (.agg (cf j (.slice qa gz.length qc) a b c d)) ∧ Below W.heap.size W W') := fun W => config_any j qa gz.length qc a b c d W
          have HCF2 : Hid (∀ W, Calls Try.prog 19 #[.agg (cf j (.slice pa gz.length pc) a b c d)] W fun e W' => e = .returned (.agg (cf j (.slice pa gz.length pc) a b c d)) ∧ Below W.heap.size W W') := fun W => config_any j pa gz.length pc a b c d W
          have HSM : Hid (∀ W, Below D wr W → Calls Try.prog 18 #[.agg (cf j (.slice qa gz.length qc) a b c d), .agg (cf j (.slice pa gz.length pc) a b c d)] W fun e W' => e = .returned (.bool true) ∧ Below W.heap.size W W') := fun W hW => same_any j gz (.slice qa gz.length qc) (.slice pa gz.length pc) a b c d W (hil.below hW (by omega)) (hil1.below hW (by omega)) hgz
          have HBW : Hid (Below w4.heap.size w4 wr ∧ w4.heap.size ≤ D) := ⟨hB, by have := hB.size; omega⟩
          have HNM : Hid (j + gk = dn ∧ j < dn) := ⟨hin, hi2⟩
          have hS0 : (fun W => Below D wr W) wr.drew := below_drew (Below.refl _ _)
          clear hin hi1 hi2 hp1 hp2 hp3 hp4 hjd hjc hd1 hd2 hx hy hee hX hgz hgb hgb1 hil hil1 x z hB hD hdc hb1 hb2 hb3
          go_upto_region 15 with fail
          refine region_Z 99 (fun W => Below D wr W) (by kernel_rfl) ?_
          refine Y_take (i := 0) (v := ?_) rfl (by kernel_rfl) (by kernel_rfl) (by kernel_rfl) (by kernel_rfl) (fun _ _ _ h => h) (by rfl) hS0 ?_ ?_
          rotate_left
          · (intro w' hSw; have u0 := (hSw.cell (p := ⟨g0, e' + j * 6, none⟩) hgD).trans x0; have u1 := (hSw.cell (p := ⟨g0, e' + j * 6 + 1, none⟩) hgD).trans x1; have u2 := (hSw.cell (p := ⟨g0, e' + j * 6 + 2, none⟩) hgD).trans x2; have u3 := (hSw.cell (p := ⟨g0, e' + j * 6 + 3, none⟩) hgD).trans x3; have u4 := (hSw.cell (p := ⟨g0, e' + j * 6 + 4, none⟩) hgD).trans x4; have u5 := (hSw.cell (p := ⟨g0, e' + j * 6 + 5, none⟩) hgD).trans x5; have v0 := (hSw.cell (p := ⟨g1, e1' + j * 6, none⟩) hgD1).trans z0; have v1 := (hSw.cell (p := ⟨g1, e1' + j * 6 + 1, none⟩) hgD1).trans z1; have v2 := (hSw.cell (p := ⟨g1, e1' + j * 6 + 2, none⟩) hgD1).trans z2; have v3 := (hSw.cell (p := ⟨g1, e1' + j * 6 + 3, none⟩) hgD1).trans z3; have v4 := (hSw.cell (p := ⟨g1, e1' + j * 6 + 4, none⟩) hgD1).trans z4; have v5 := (hSw.cell (p := ⟨g1, e1' + j * 6 + 5, none⟩) hgD1).trans z5; (try go_simp); (try with_reducible rfl))
          simp only [Act.put, List.setIfInBounds_toArray, List.getElem_toArray, List.getElem_cons_zero, List.set_cons_succ, List.set_cons_zero]
          refine Y_take (i := 1) (v := ?_) rfl (by kernel_rfl) (by kernel_rfl) (by kernel_rfl) (by kernel_rfl) (fun _ _ _ h => h) (by rfl) hS0 ?_ ?_
          rotate_left
          · (intro w' hSw; have u0 := (hSw.cell (p := ⟨g0, e' + j * 6, none⟩) hgD).trans x0; have u1 := (hSw.cell (p := ⟨g0, e' + j * 6 + 1, none⟩) hgD).trans x1; have u2 := (hSw.cell (p := ⟨g0, e' + j * 6 + 2, none⟩) hgD).trans x2; have u3 := (hSw.cell (p := ⟨g0, e' + j * 6 + 3, none⟩) hgD).trans x3; have u4 := (hSw.cell (p := ⟨g0, e' + j * 6 + 4, none⟩) hgD).trans x4; have u5 := (hSw.cell (p := ⟨g0, e' + j * 6 + 5, none⟩) hgD).trans x5; have v0 := (hSw.cell (p := ⟨g1, e1' + j * 6, none⟩) hgD1).trans z0; have v1 := (hSw.cell (p := ⟨g1, e1' + j * 6 + 1, none⟩) hgD1).trans z1; have v2 := (hSw.cell (p := ⟨g1, e1' + j * 6 + 2, none⟩) hgD1).trans z2; have v3 := (hSw.cell (p := ⟨g1, e1' + j * 6 + 3, none⟩) hgD1).trans z3; have v4 := (hSw.cell (p := ⟨g1, e1' + j * 6 + 4, none⟩) hgD1).trans z4; have v5 := (hSw.cell (p := ⟨g1, e1' + j * 6 + 5, none⟩) hgD1).trans z5; (try go_simp); (try with_reducible rfl))
          simp only [Act.put, List.setIfInBounds_toArray, List.getElem_toArray, List.getElem_cons_succ, List.getElem_cons_zero, List.set_cons_succ, List.set_cons_zero]
          refine Y_take (i := 2) (v := ?_) rfl (by kernel_rfl) (by kernel_rfl) (by kernel_rfl) (by kernel_rfl) (fun _ _ _ h => h) (by rfl) hS0 ?_ ?_
          rotate_left
          · (intro w' hSw; have u0 := (hSw.cell (p := ⟨g0, e' + j * 6, none⟩) hgD).trans x0; have u1 := (hSw.cell (p := ⟨g0, e' + j * 6 + 1, none⟩) hgD).trans x1; have u2 := (hSw.cell (p := ⟨g0, e' + j * 6 + 2, none⟩) hgD).trans x2; have u3 := (hSw.cell (p := ⟨g0, e' + j * 6 + 3, none⟩) hgD).trans x3; have u4 := (hSw.cell (p := ⟨g0, e' + j * 6 + 4, none⟩) hgD).trans x4; have u5 := (hSw.cell (p := ⟨g0, e' + j * 6 + 5, none⟩) hgD).trans x5; have v0 := (hSw.cell (p := ⟨g1, e1' + j * 6, none⟩) hgD1).trans z0; have v1 := (hSw.cell (p := ⟨g1, e1' + j * 6 + 1, none⟩) hgD1).trans z1; have v2 := (hSw.cell (p := ⟨g1, e1' + j * 6 + 2, none⟩) hgD1).trans z2; have v3 := (hSw.cell (p := ⟨g1, e1' + j * 6 + 3, none⟩) hgD1).trans z3; have v4 := (hSw.cell (p := ⟨g1, e1' + j * 6 + 4, none⟩) hgD1).trans z4; have v5 := (hSw.cell (p := ⟨g1, e1' + j * 6 + 5, none⟩) hgD1).trans z5; (try go_simp); (try with_reducible rfl))
          simp only [Act.put, List.setIfInBounds_toArray, List.getElem_toArray, List.getElem_cons_succ, List.getElem_cons_zero, List.set_cons_succ, List.set_cons_zero]
          refine Y_take (i := 3) (v := ?_) rfl (by kernel_rfl) (by kernel_rfl) (by kernel_rfl) (by kernel_rfl) (fun _ _ _ h => h) (by rfl) hS0 ?_ ?_
          rotate_left
          · (intro w' hSw; have u0 := (hSw.cell (p := ⟨g0, e' + j * 6, none⟩) hgD).trans x0; have u1 := (hSw.cell (p := ⟨g0, e' + j * 6 + 1, none⟩) hgD).trans x1; have u2 := (hSw.cell (p := ⟨g0, e' + j * 6 + 2, none⟩) hgD).trans x2; have u3 := (hSw.cell (p := ⟨g0, e' + j * 6 + 3, none⟩) hgD).trans x3; have u4 := (hSw.cell (p := ⟨g0, e' + j * 6 + 4, none⟩) hgD).trans x4; have u5 := (hSw.cell (p := ⟨g0, e' + j * 6 + 5, none⟩) hgD).trans x5; have v0 := (hSw.cell (p := ⟨g1, e1' + j * 6, none⟩) hgD1).trans z0; have v1 := (hSw.cell (p := ⟨g1, e1' + j * 6 + 1, none⟩) hgD1).trans z1; have v2 := (hSw.cell (p := ⟨g1, e1' + j * 6 + 2, none⟩) hgD1).trans z2; have v3 := (hSw.cell (p := ⟨g1, e1' + j * 6 + 3, none⟩) hgD1).trans z3; have v4 := (hSw.cell (p := ⟨g1, e1' + j * 6 + 4, none⟩) hgD1).trans z4; have v5 := (hSw.cell (p := ⟨g1, e1' + j * 6 + 5, none⟩) hgD1).trans z5; (try go_simp); (try with_reducible rfl))
          simp only [Act.put, List.setIfInBounds_toArray, List.getElem_toArray, List.getElem_cons_succ, List.getElem_cons_zero, List.set_cons_succ, List.set_cons_zero]
          refine Y_take (i := 5) (v := ?_) rfl (by kernel_rfl) (by kernel_rfl) (by kernel_rfl) (by kernel_rfl) (fun _ _ _ h => h) (by rfl) hS0 ?_ ?_
          rotate_left
          · (intro w' hSw; have u0 := (hSw.cell (p := ⟨g0, e' + j * 6, none⟩) hgD).trans x0; have u1 := (hSw.cell (p := ⟨g0, e' + j * 6 + 1, none⟩) hgD).trans x1; have u2 := (hSw.cell (p := ⟨g0, e' + j * 6 + 2, none⟩) hgD).trans x2; have u3 := (hSw.cell (p := ⟨g0, e' + j * 6 + 3, none⟩) hgD).trans x3; have u4 := (hSw.cell (p := ⟨g0, e' + j * 6 + 4, none⟩) hgD).trans x4; have u5 := (hSw.cell (p := ⟨g0, e' + j * 6 + 5, none⟩) hgD).trans x5; have v0 := (hSw.cell (p := ⟨g1, e1' + j * 6, none⟩) hgD1).trans z0; have v1 := (hSw.cell (p := ⟨g1, e1' + j * 6 + 1, none⟩) hgD1).trans z1; have v2 := (hSw.cell (p := ⟨g1, e1' + j * 6 + 2, none⟩) hgD1).trans z2; have v3 := (hSw.cell (p := ⟨g1, e1' + j * 6 + 3, none⟩) hgD1).trans z3; have v4 := (hSw.cell (p := ⟨g1, e1' + j * 6 + 4, none⟩) hgD1).trans z4; have v5 := (hSw.cell (p := ⟨g1, e1' + j * 6 + 5, none⟩) hgD1).trans z5; (try go_simp); (try with_reducible rfl))
          simp only [Act.put, List.setIfInBounds_toArray, List.getElem_toArray, List.getElem_cons_succ, List.getElem_cons_zero, List.set_cons_succ, List.set_cons_zero]
          refine Y_take (i := 6) (v := ?_) rfl (by kernel_rfl) (by kernel_rfl) (by kernel_rfl) (by kernel_rfl) (fun _ _ _ h => h) (by rfl) hS0 ?_ ?_
          rotate_left
          · (intro w' hSw; have u0 := (hSw.cell (p := ⟨g0, e' + j * 6, none⟩) hgD).trans x0; have u1 := (hSw.cell (p := ⟨g0, e' + j * 6 + 1, none⟩) hgD).trans x1; have u2 := (hSw.cell (p := ⟨g0, e' + j * 6 + 2, none⟩) hgD).trans x2; have u3 := (hSw.cell (p := ⟨g0, e' + j * 6 + 3, none⟩) hgD).trans x3; have u4 := (hSw.cell (p := ⟨g0, e' + j * 6 + 4, none⟩) hgD).trans x4; have u5 := (hSw.cell (p := ⟨g0, e' + j * 6 + 5, none⟩) hgD).trans x5; have v0 := (hSw.cell (p := ⟨g1, e1' + j * 6, none⟩) hgD1).trans z0; have v1 := (hSw.cell (p := ⟨g1, e1' + j * 6 + 1, none⟩) hgD1).trans z1; have v2 := (hSw.cell (p := ⟨g1, e1' + j * 6 + 2, none⟩) hgD1).trans z2; have v3 := (hSw.cell (p := ⟨g1, e1' + j * 6 + 3, none⟩) hgD1).trans z3; have v4 := (hSw.cell (p := ⟨g1, e1' + j * 6 + 4, none⟩) hgD1).trans z4; have v5 := (hSw.cell (p := ⟨g1, e1' + j * 6 + 5, none⟩) hgD1).trans z5; (try go_simp); (try with_reducible rfl))
          simp only [Act.put, List.setIfInBounds_toArray, List.getElem_toArray, List.getElem_cons_succ, List.getElem_cons_zero, List.set_cons_succ, List.set_cons_zero]
          refine Y_take (i := 7) (v := ?_) rfl (by kernel_rfl) (by kernel_rfl) (by kernel_rfl) (by kernel_rfl) (fun _ _ _ h => h) (by rfl) hS0 ?_ ?_
          rotate_left
          · (intro w' hSw; have u0 := (hSw.cell (p := ⟨g0, e' + j * 6, none⟩) hgD).trans x0; have u1 := (hSw.cell (p := ⟨g0, e' + j * 6 + 1, none⟩) hgD).trans x1; have u2 := (hSw.cell (p := ⟨g0, e' + j * 6 + 2, none⟩) hgD).trans x2; have u3 := (hSw.cell (p := ⟨g0, e' + j * 6 + 3, none⟩) hgD).trans x3; have u4 := (hSw.cell (p := ⟨g0, e' + j * 6 + 4, none⟩) hgD).trans x4; have u5 := (hSw.cell (p := ⟨g0, e' + j * 6 + 5, none⟩) hgD).trans x5; have v0 := (hSw.cell (p := ⟨g1, e1' + j * 6, none⟩) hgD1).trans z0; have v1 := (hSw.cell (p := ⟨g1, e1' + j * 6 + 1, none⟩) hgD1).trans z1; have v2 := (hSw.cell (p := ⟨g1, e1' + j * 6 + 2, none⟩) hgD1).trans z2; have v3 := (hSw.cell (p := ⟨g1, e1' + j * 6 + 3, none⟩) hgD1).trans z3; have v4 := (hSw.cell (p := ⟨g1, e1' + j * 6 + 4, none⟩) hgD1).trans z4; have v5 := (hSw.cell (p := ⟨g1, e1' + j * 6 + 5, none⟩) hgD1).trans z5; (try go_simp); (try with_reducible rfl))
          simp only [Act.put, List.setIfInBounds_toArray, List.getElem_toArray, List.getElem_cons_succ, List.getElem_cons_zero, List.set_cons_succ, List.set_cons_zero]
          refine Y_take (i := 8) (v := ?_) rfl (by kernel_rfl) (by kernel_rfl) (by kernel_rfl) (by kernel_rfl) (fun _ _ _ h => h) (by rfl) hS0 ?_ ?_
          rotate_left
          · (intro w' hSw; have u0 := (hSw.cell (p := ⟨g0, e' + j * 6, none⟩) hgD).trans x0; have u1 := (hSw.cell (p := ⟨g0, e' + j * 6 + 1, none⟩) hgD).trans x1; have u2 := (hSw.cell (p := ⟨g0, e' + j * 6 + 2, none⟩) hgD).trans x2; have u3 := (hSw.cell (p := ⟨g0, e' + j * 6 + 3, none⟩) hgD).trans x3; have u4 := (hSw.cell (p := ⟨g0, e' + j * 6 + 4, none⟩) hgD).trans x4; have u5 := (hSw.cell (p := ⟨g0, e' + j * 6 + 5, none⟩) hgD).trans x5; have v0 := (hSw.cell (p := ⟨g1, e1' + j * 6, none⟩) hgD1).trans z0; have v1 := (hSw.cell (p := ⟨g1, e1' + j * 6 + 1, none⟩) hgD1).trans z1; have v2 := (hSw.cell (p := ⟨g1, e1' + j * 6 + 2, none⟩) hgD1).trans z2; have v3 := (hSw.cell (p := ⟨g1, e1' + j * 6 + 3, none⟩) hgD1).trans z3; have v4 := (hSw.cell (p := ⟨g1, e1' + j * 6 + 4, none⟩) hgD1).trans z4; have v5 := (hSw.cell (p := ⟨g1, e1' + j * 6 + 5, none⟩) hgD1).trans z5; (try go_simp); (try with_reducible rfl))
          simp only [Act.put, List.setIfInBounds_toArray, List.getElem_toArray, List.getElem_cons_succ, List.getElem_cons_zero, List.set_cons_succ, List.set_cons_zero]
          refine Z_step (i := 4) (by kernel_rfl) rfl (fun K' hK => ?_)
          go_simp
          refine (HCF1.out _).mono ?_
          rintro e w5 ⟨rfl, k5⟩
          have hw5 := (hS0).trans (k5.mono (by have h8 := (hS0).size; have h9 := HDD.out; omega))
          refine hK _ _ (fun _ => hw5) ?_
          clear hK
          refine Z_step (i := 9) (by kernel_rfl) rfl (fun K' hK => ?_)
          go_simp
          refine (HCF2.out _).mono ?_
          rintro e w6 ⟨rfl, k6⟩
          have hw6 := (hw5).trans (k6.mono (by have h8 := (hw5).size; have h9 := HDD.out; omega))
          refine hK _ _ (fun _ => hw6) ?_
          clear hK
          refine Z_step (i := 10) (by kernel_rfl) rfl (fun K' hK => ?_)
          go_simp
          refine (HSM.out _ hw6).mono ?_
          rintro e w7 ⟨rfl, k7⟩
          have hw7 := hw6.trans (k7.mono (by have h8 := hw6.size; have h9 := HDD.out; omega))
          refine hK _ _ (fun _ => hw7) ?_
          clear hK
          refine Z_step (i := 11) (by kernel_rfl) rfl (fun K' hK => ?_)
          go_simp
          refine hK _ _ (fun _ => hw7) (Z_done (by kernel_rfl) ?_ _)
          clear hK hw5 hw6 k5 k6 k7 hS0
          have HW7 : Hid (Below w4.heap.size w4 w7) := HBW.out.1.trans (hw7.mono HBW.out.2)
          clear hw7
          go_wp2_with fail
          go_roundg (dn - (j + 1))
          case measure => have := HNM.out; omega
          case rel => exact ⟨j + 1, by have := HNM.out; omega, by go_num, HW7.out⟩

    by_cases hn2 : (ln : Int) < n
    · go_upto_region 8 with fail
      have hC2 := chain_any (l.take ln) (.slice va ln vc) w1 (HVW.out ln (by omega)) (by have h9 := List.length_take_le ln l; omega)
      have hb1 : (0 : Int) ≤ (ln : Int) := by omega
      have hb2 : (ln : Int) ≤ (vc : Int) := by omega
      have hb3 : ln ≤ vc := by omega
      have htl : (l.take ln).length = ln := by rw [List.length_take]; omega
      have hC3 : Calls Try.prog 16 #[.slice va ln vc] w1 fun e W' => ∃ da dc, e = .returned (.tuple #[.slice da ((rcN l ln).length + 1) dc, .int .i64 0]) ∧ Cl W' (.slice da ((rcN l ln).length + 1) dc) (allL (rcN l ln)) ∧ Below w1.heap.size w1 W' := by
        refine hC2.mono ?_
        rintro e W' ⟨h, hB⟩
        obtain ⟨u, rfl, hcl⟩ := chn_take (HOK.out.1) (by omega) htl h
        obtain ⟨a, c, rfl⟩ := hcl.slice
        rw [allL_len] at hcl ⊢
        exact ⟨a, c, rfl, hcl, hB⟩
      obtain ⟨dn, hdn⟩ : ∃ k, (rcN l ln).length + 1 = k := ⟨_, rfl⟩
      have hpre := rcN_pre l (n := ln) (m := ln) (by omega)
      have hle := hpre.length_le
      have HPR : Hid ((rcN l ln) <+: (rcN l ln) ∧ (rcN l ln).length + 1 = dn ∧ (rcN l ln).length + 1 = cn ∧ (rcN l ln).length ≤ 40) := ⟨hpre, hdn, HOK.out.2.1, rcN_le l ln⟩
      have hdc : ¬ (cn : Int) < (dn : Int) := by have := HOK.out.2.1; omega
      rw [hdn] at hC3
      clear hC2 htl hdn hpre hle
      go_upto_region 9 with (first
        | (go_at_call 16; refine hC3.mono ?_; clear hC3; rintro e w2 ⟨da, dc, rfl, hcl2, hB2⟩)
        | fail)
      have HC2 : Hid (Cl w2 (.slice da dn dc) (allL (rcN l ln)) ∧ Below w1.heap.size w1 w2) := ⟨hcl2, hB2⟩
      have hCk := check_any l (.slice va ln vc) w2 (HVL.out w2 hB2) (by have := HOK.out.2.2; omega) (by have h9 := HOK.out.2.2; rw [h9]; exact HOK.out.1) (allL (rcN l ln)) (.slice da dn dc) hcl2 (by rw [allL_len]; have := HPR.out.2.2.2; omega) (all_seen (by have h9 := HOK.out.2.2; rw [h9]; exact HPR.out.1))
      clear hcl2 hB2
      go_upto_region 12 with (first
        | (go_at_call 17; refine hCk.mono ?_; clear hCk; rintro e w4 ⟨rfl, hB4⟩)
        | fail)
      have H4 : Hid (Below w1.heap.size w1 w4) := HC2.out.2.trans (hB4.mono HC2.out.2.size)
      have HD4 : Hid (Cl w4 (.slice da dn dc) (allL (rcN l ln)) ∧ Cl w4 (.slice ca cn cc) (allL (rcN l ln))) := ⟨HC2.out.1.on hB4 (Nat.le_refl _), HC1.out.1.on H4.out (Nat.le_refl _)⟩
      clear hB4
      go_wp2_with fail
      go_loopg [60] dn (fun gk j wr => ∃ (i : Nat), i + gk = dn ∧ j = .int .i64 i ∧ Below w4.heap.size w4 wr)
      case atStart => exact ⟨0, by omega, rfl, Below.refl _ _⟩
      case round =>
        obtain ⟨j, hin, rfl, hB⟩ := hrel
        by_cases hi1 : j = dn
        · subst hi1
          have HF : Hid (Below N w wr ∧ N ≤ wr.heap.size) := ⟨HC1.out.2.1.trans ((H4.out.trans (hB.mono H4.out.size)).mono HC1.out.2.2), Nat.le_trans HC1.out.2.2 (Nat.le_trans H4.out.size hB.size)⟩
          clear hB
          go_wp2_with (first
            | (go_at_call 7; refine (two_any _).mono ?_; rintro e w9 ⟨rfl, hB9⟩)
            | fail)
          go_ret
          exact ⟨rfl, HF.out.1.trans (hB9.mono HF.out.2)⟩
        · have hi2 : j < dn := by omega
          obtain ⟨hp1, hp2, hp3, hp4⟩ := HPR.out
          have hjd : j < (rcN l ln).length + 1 := by omega
          have hjc : j < (rcN l ln).length + 1 := by have := hp1.length_le; omega
          obtain ⟨hd1, hd2⟩ := HD4.out
          have hx := allL_get hjd
          have hy := allL_get hjc
          have hee := cfgP_pre hp1 (i := j) (by omega)
          rw [hee] at hx
          obtain ⟨⟨cj, gz, a, b, c, d⟩, hX⟩ : ∃ X, cgOf j (cfgP (rcN l ln) j) = X := ⟨_, rfl⟩
          have hcj : cj = (j : Int) := by have := congrArg Cg.num hX; exact this.symm
          subst hcj
          rw [hX] at hx hy
          have hgz : gz.length ≤ 1000 := HGL.out j _ hy
          obtain ⟨g0, e', gv, hg', hgb, hil, x⟩ := (hd1.on hB (Nat.le_refl _)).at' hx rfl
          obtain ⟨g1, e1', gv1, hg1, hgb1, hil1, z⟩ := (hd2.on hB (Nat.le_refl _)).at' hy rfl
          subst hg' hg1
          obtain ⟨qa, qc, rfl⟩ := hil.slice
          obtain ⟨pa, pc, rfl⟩ := hil1.slice
          have x0 : wr.cell? ⟨g0, e' + j * 6, none⟩ = some (.int .i64 j) := x 0 _ rfl
          have x1 : wr.cell? ⟨g0, e' + j * 6 + 1, none⟩ = some (.slice qa gz.length qc) := x 1 _ rfl
          have x2 : wr.cell? ⟨g0, e' + j * 6 + 2, none⟩ = some (.int .i64 a) := x 2 _ rfl
          have x3 : wr.cell? ⟨g0, e' + j * 6 + 3, none⟩ = some (.int .i64 b) := x 3 _ rfl
          have x4 : wr.cell? ⟨g0, e' + j * 6 + 4, none⟩ = some (.int .i64 c) := x 4 _ rfl
          have x5 : wr.cell? ⟨g0, e' + j * 6 + 5, none⟩ = some (.int .i64 d) := x 5 _ rfl
          have z0 : wr.cell? ⟨g1, e1' + j * 6, none⟩ = some (.int .i64 j) := z 0 _ rfl
          have z1 : wr.cell? ⟨g1, e1' + j * 6 + 1, none⟩ = some (.slice pa gz.length pc) := z 1 _ rfl
          have z2 : wr.cell? ⟨g1, e1' + j * 6 + 2, none⟩ = some (.int .i64 a) := z 2 _ rfl
          have z3 : wr.cell? ⟨g1, e1' + j * 6 + 3, none⟩ = some (.int .i64 b) := z 3 _ rfl
          have z4 : wr.cell? ⟨g1, e1' + j * 6 + 4, none⟩ = some (.int .i64 c) := z 4 _ rfl
          have z5 : wr.cell? ⟨g1, e1' + j * 6 + 5, none⟩ = some (.int .i64 d) := z 5 _ rfl
          have d0 : (0 : Int) ≤ (j : Int) := by omega
          have d1 : (j : Int) < (dn : Int) := by omega
          have d2 : (j : Int) < (cn : Int) := by omega
          have hjb : j ≤ 100 := by omega
          obtain ⟨D, hD⟩ : ∃ D, wr.heap.size = D := ⟨_, rfl⟩
          have HDD : Hid (wr.heap.size = D) := hD
          have hgD : g0 < D := by omega
          have hgD1 : g1 < D := by omega
          have HCF1 : Hid (∀ W, Calls Try.prog 19 #[.agg (cf j (.slice qa gz.length qc) a b c d)] W fun e W' => e = .returned (.agg (cf j (.slice qa gz.length qc) a b c d)) ∧ Below W.heap.size W W') := fun W => config_any j qa gz.length qc a b c d W
          have HCF2 : Hid (∀ W, Calls Try.prog 19 #[.agg (cf j (.slice pa gz.length pc) a b c d)] W fun e W' => e = .returned (.agg (cf j (.slice pa gz.length pc) a b c d)) ∧ Below W.heap.size W W') := fun W => config_any j pa gz.length pc a b c d W
          have HSM : Hid (∀ W, Below D wr W → Calls Try.prog 18 #[.agg (cf j (.slice qa gz.length qc) a b c d), .agg (cf j (.slice pa gz.length pc) a b c d)] W fun e W' => e = .returned (.bool true) ∧ Below W.heap.size W W') := fun W hW => same_any j gz (.slice qa gz.length qc) (.slice pa gz.length pc) a b c d W (hil.below hW (by omega)) (hil1.below hW (by omega)) hgz
          have HBW : Hid (Below w4.heap.size w4 wr ∧ w4.heap.size ≤ D) := ⟨hB, by have := hB.size; omega⟩
          have HNM : Hid (j + gk = dn ∧ j < dn) := ⟨hin, hi2⟩
          have hS0 : (fun W => Below D wr W) wr.drew := below_drew (Below.refl _ _)
          clear hin hi1 hi2 hp1 hp2 hp3 hp4 hjd hjc hd1 hd2 hx hy hee hX hgz hgb hgb1 hil hil1 x z hB hD hdc hb1 hb2 hb3
          go_upto_region 15 with fail
          refine region_Z 99 (fun W => Below D wr W) (by kernel_rfl) ?_
          refine Y_take (i := 0) (v := ?_) rfl (by kernel_rfl) (by kernel_rfl) (by kernel_rfl) (by kernel_rfl) (fun _ _ _ h => h) (by rfl) hS0 ?_ ?_
          rotate_left
          · (intro w' hSw; have u0 := (hSw.cell (p := ⟨g0, e' + j * 6, none⟩) hgD).trans x0; have u1 := (hSw.cell (p := ⟨g0, e' + j * 6 + 1, none⟩) hgD).trans x1; have u2 := (hSw.cell (p := ⟨g0, e' + j * 6 + 2, none⟩) hgD).trans x2; have u3 := (hSw.cell (p := ⟨g0, e' + j * 6 + 3, none⟩) hgD).trans x3; have u4 := (hSw.cell (p := ⟨g0, e' + j * 6 + 4, none⟩) hgD).trans x4; have u5 := (hSw.cell (p := ⟨g0, e' + j * 6 + 5, none⟩) hgD).trans x5; have v0 := (hSw.cell (p := ⟨g1, e1' + j * 6, none⟩) hgD1).trans z0; have v1 := (hSw.cell (p := ⟨g1, e1' + j * 6 + 1, none⟩) hgD1).trans z1; have v2 := (hSw.cell (p := ⟨g1, e1' + j * 6 + 2, none⟩) hgD1).trans z2; have v3 := (hSw.cell (p := ⟨g1, e1' + j * 6 + 3, none⟩) hgD1).trans z3; have v4 := (hSw.cell (p := ⟨g1, e1' + j * 6 + 4, none⟩) hgD1).trans z4; have v5 := (hSw.cell (p := ⟨g1, e1' + j * 6 + 5, none⟩) hgD1).trans z5; (try go_simp); (try with_reducible rfl))
          simp only [Act.put, List.setIfInBounds_toArray, List.getElem_toArray, List.getElem_cons_zero, List.set_cons_succ, List.set_cons_zero]
          refine Y_take (i := 1) (v := ?_) rfl (by kernel_rfl) (by kernel_rfl) (by kernel_rfl) (by kernel_rfl) (fun _ _ _ h => h) (by rfl) hS0 ?_ ?_
          rotate_left
          · (intro w' hSw; have u0 := (hSw.cell (p := ⟨g0, e' + j * 6, none⟩) hgD).trans x0; have u1 := (hSw.cell (p := ⟨g0, e' + j * 6 + 1, none⟩) hgD).trans x1; have u2 := (hSw.cell (p := ⟨g0, e' + j * 6 + 2, none⟩) hgD).trans x2; have u3 := (hSw.cell (p := ⟨g0, e' + j * 6 + 3, none⟩) hgD).trans x3; have u4 := (hSw.cell (p := ⟨g0, e' + j * 6 + 4, none⟩) hgD).trans x4; have u5 := (hSw.cell (p := ⟨g0, e' + j * 6 + 5, none⟩) hgD).trans x5; have v0 := (hSw.cell (p := ⟨g1, e1' + j * 6, none⟩) hgD1).trans z0; have v1 := (hSw.cell (p := ⟨g1, e1' + j * 6 + 1, none⟩) hgD1).trans z1; have v2 := (hSw.cell (p := ⟨g1, e1' + j * 6 + 2, none⟩) hgD1).trans z2; have v3 := (hSw.cell (p := ⟨g1, e1' + j * 6 + 3, none⟩) hgD1).trans z3; have v4 := (hSw.cell (p := ⟨g1, e1' + j * 6 + 4, none⟩) hgD1).trans z4; have v5 := (hSw.cell (p := ⟨g1, e1' + j * 6 + 5, none⟩) hgD1).trans z5; (try go_simp); (try with_reducible rfl))
          simp only [Act.put, List.setIfInBounds_toArray, List.getElem_toArray, List.getElem_cons_succ, List.getElem_cons_zero, List.set_cons_succ, List.set_cons_zero]
          refine Y_take (i := 2) (v := ?_) rfl (by kernel_rfl) (by kernel_rfl) (by kernel_rfl) (by kernel_rfl) (fun _ _ _ h => h) (by rfl) hS0 ?_ ?_
          rotate_left
          · (intro w' hSw; have u0 := (hSw.cell (p := ⟨g0, e' + j * 6, none⟩) hgD).trans x0; have u1 := (hSw.cell (p := ⟨g0, e' + j * 6 + 1, none⟩) hgD).trans x1; have u2 := (hSw.cell (p := ⟨g0, e' + j * 6 + 2, none⟩) hgD).trans x2; have u3 := (hSw.cell (p := ⟨g0, e' + j * 6 + 3, none⟩) hgD).trans x3; have u4 := (hSw.cell (p := ⟨g0, e' + j * 6 + 4, none⟩) hgD).trans x4; have u5 := (hSw.cell (p := ⟨g0, e' + j * 6 + 5, none⟩) hgD).trans x5; have v0 := (hSw.cell (p := ⟨g1, e1' + j * 6, none⟩) hgD1).trans z0; have v1 := (hSw.cell (p := ⟨g1, e1' + j * 6 + 1, none⟩) hgD1).trans z1; have v2 := (hSw.cell (p := ⟨g1, e1' + j * 6 + 2, none⟩) hgD1).trans z2; have v3 := (hSw.cell (p := ⟨g1, e1' + j * 6 + 3, none⟩) hgD1).trans z3; have v4 := (hSw.cell (p := ⟨g1, e1' + j * 6 + 4, none⟩) hgD1).trans z4; have v5 := (hSw.cell (p := ⟨g1, e1' + j * 6 + 5, none⟩) hgD1).trans z5; (try go_simp); (try with_reducible rfl))
          simp only [Act.put, List.setIfInBounds_toArray, List.getElem_toArray, List.getElem_cons_succ, List.getElem_cons_zero, List.set_cons_succ, List.set_cons_zero]
          refine Y_take (i := 3) (v := ?_) rfl (by kernel_rfl) (by kernel_rfl) (by kernel_rfl) (by kernel_rfl) (fun _ _ _ h => h) (by rfl) hS0 ?_ ?_
          rotate_left
          · (intro w' hSw; have u0 := (hSw.cell (p := ⟨g0, e' + j * 6, none⟩) hgD).trans x0; have u1 := (hSw.cell (p := ⟨g0, e' + j * 6 + 1, none⟩) hgD).trans x1; have u2 := (hSw.cell (p := ⟨g0, e' + j * 6 + 2, none⟩) hgD).trans x2; have u3 := (hSw.cell (p := ⟨g0, e' + j * 6 + 3, none⟩) hgD).trans x3; have u4 := (hSw.cell (p := ⟨g0, e' + j * 6 + 4, none⟩) hgD).trans x4; have u5 := (hSw.cell (p := ⟨g0, e' + j * 6 + 5, none⟩) hgD).trans x5; have v0 := (hSw.cell (p := ⟨g1, e1' + j * 6, none⟩) hgD1).trans z0; have v1 := (hSw.cell (p := ⟨g1, e1' + j * 6 + 1, none⟩) hgD1).trans z1; have v2 := (hSw.cell (p := ⟨g1, e1' + j * 6 + 2, none⟩) hgD1).trans z2; have v3 := (hSw.cell (p := ⟨g1, e1' + j * 6 + 3, none⟩) hgD1).trans z3; have v4 := (hSw.cell (p := ⟨g1, e1' + j * 6 + 4, none⟩) hgD1).trans z4; have v5 := (hSw.cell (p := ⟨g1, e1' + j * 6 + 5, none⟩) hgD1).trans z5; (try go_simp); (try with_reducible rfl))
          simp only [Act.put, List.setIfInBounds_toArray, List.getElem_toArray, List.getElem_cons_succ, List.getElem_cons_zero, List.set_cons_succ, List.set_cons_zero]
          refine Y_take (i := 5) (v := ?_) rfl (by kernel_rfl) (by kernel_rfl) (by kernel_rfl) (by kernel_rfl) (fun _ _ _ h => h) (by rfl) hS0 ?_ ?_
          rotate_left
          · (intro w' hSw; have u0 := (hSw.cell (p := ⟨g0, e' + j * 6, none⟩) hgD).trans x0; have u1 := (hSw.cell (p := ⟨g0, e' + j * 6 + 1, none⟩) hgD).trans x1; have u2 := (hSw.cell (p := ⟨g0, e' + j * 6 + 2, none⟩) hgD).trans x2; have u3 := (hSw.cell (p := ⟨g0, e' + j * 6 + 3, none⟩) hgD).trans x3; have u4 := (hSw.cell (p := ⟨g0, e' + j * 6 + 4, none⟩) hgD).trans x4; have u5 := (hSw.cell (p := ⟨g0, e' + j * 6 + 5, none⟩) hgD).trans x5; have v0 := (hSw.cell (p := ⟨g1, e1' + j * 6, none⟩) hgD1).trans z0; have v1 := (hSw.cell (p := ⟨g1, e1' + j * 6 + 1, none⟩) hgD1).trans z1; have v2 := (hSw.cell (p := ⟨g1, e1' + j * 6 + 2, none⟩) hgD1).trans z2; have v3 := (hSw.cell (p := ⟨g1, e1' + j * 6 + 3, none⟩) hgD1).trans z3; have v4 := (hSw.cell (p := ⟨g1, e1' + j * 6 + 4, none⟩) hgD1).trans z4; have v5 := (hSw.cell (p := ⟨g1, e1' + j * 6 + 5, none⟩) hgD1).trans z5; (try go_simp); (try with_reducible rfl))
          simp only [Act.put, List.setIfInBounds_toArray, List.getElem_toArray, List.getElem_cons_succ, List.getElem_cons_zero, List.set_cons_succ, List.set_cons_zero]
          refine Y_take (i := 6) (v := ?_) rfl (by kernel_rfl) (by kernel_rfl) (by kernel_rfl) (by kernel_rfl) (fun _ _ _ h => h) (by rfl) hS0 ?_ ?_
          rotate_left
          · (intro w' hSw; have u0 := (hSw.cell (p := ⟨g0, e' + j * 6, none⟩) hgD).trans x0; have u1 := (hSw.cell (p := ⟨g0, e' + j * 6 + 1, none⟩) hgD).trans x1; have u2 := (hSw.cell (p := ⟨g0, e' + j * 6 + 2, none⟩) hgD).trans x2; have u3 := (hSw.cell (p := ⟨g0, e' + j * 6 + 3, none⟩) hgD).trans x3; have u4 := (hSw.cell (p := ⟨g0, e' + j * 6 + 4, none⟩) hgD).trans x4; have u5 := (hSw.cell (p := ⟨g0, e' + j * 6 + 5, none⟩) hgD).trans x5; have v0 := (hSw.cell (p := ⟨g1, e1' + j * 6, none⟩) hgD1).trans z0; have v1 := (hSw.cell (p := ⟨g1, e1' + j * 6 + 1, none⟩) hgD1).trans z1; have v2 := (hSw.cell (p := ⟨g1, e1' + j * 6 + 2, none⟩) hgD1).trans z2; have v3 := (hSw.cell (p := ⟨g1, e1' + j * 6 + 3, none⟩) hgD1).trans z3; have v4 := (hSw.cell (p := ⟨g1, e1' + j * 6 + 4, none⟩) hgD1).trans z4; have v5 := (hSw.cell (p := ⟨g1, e1' + j * 6 + 5, none⟩) hgD1).trans z5; (try go_simp); (try with_reducible rfl))
          simp only [Act.put, List.setIfInBounds_toArray, List.getElem_toArray, List.getElem_cons_succ, List.getElem_cons_zero, List.set_cons_succ, List.set_cons_zero]
          refine Y_take (i := 7) (v := ?_) rfl (by kernel_rfl) (by kernel_rfl) (by kernel_rfl) (by kernel_rfl) (fun _ _ _ h => h) (by rfl) hS0 ?_ ?_
          rotate_left
          · (intro w' hSw; have u0 := (hSw.cell (p := ⟨g0, e' + j * 6, none⟩) hgD).trans x0; have u1 := (hSw.cell (p := ⟨g0, e' + j * 6 + 1, none⟩) hgD).trans x1; have u2 := (hSw.cell (p := ⟨g0, e' + j * 6 + 2, none⟩) hgD).trans x2; have u3 := (hSw.cell (p := ⟨g0, e' + j * 6 + 3, none⟩) hgD).trans x3; have u4 := (hSw.cell (p := ⟨g0, e' + j * 6 + 4, none⟩) hgD).trans x4; have u5 := (hSw.cell (p := ⟨g0, e' + j * 6 + 5, none⟩) hgD).trans x5; have v0 := (hSw.cell (p := ⟨g1, e1' + j * 6, none⟩) hgD1).trans z0; have v1 := (hSw.cell (p := ⟨g1, e1' + j * 6 + 1, none⟩) hgD1).trans z1; have v2 := (hSw.cell (p := ⟨g1, e1' + j * 6 + 2, none⟩) hgD1).trans z2; have v3 := (hSw.cell (p := ⟨g1, e1' + j * 6 + 3, none⟩) hgD1).trans z3; have v4 := (hSw.cell (p := ⟨g1, e1' + j * 6 + 4, none⟩) hgD1).trans z4; have v5 := (hSw.cell (p := ⟨g1, e1' + j * 6 + 5, none⟩) hgD1).trans z5; (try go_simp); (try with_reducible rfl))
          simp only [Act.put, List.setIfInBounds_toArray, List.getElem_toArray, List.getElem_cons_succ, List.getElem_cons_zero, List.set_cons_succ, List.set_cons_zero]
          refine Y_take (i := 8) (v := ?_) rfl (by kernel_rfl) (by kernel_rfl) (by kernel_rfl) (by kernel_rfl) (fun _ _ _ h => h) (by rfl) hS0 ?_ ?_
          rotate_left
          · (intro w' hSw; have u0 := (hSw.cell (p := ⟨g0, e' + j * 6, none⟩) hgD).trans x0; have u1 := (hSw.cell (p := ⟨g0, e' + j * 6 + 1, none⟩) hgD).trans x1; have u2 := (hSw.cell (p := ⟨g0, e' + j * 6 + 2, none⟩) hgD).trans x2; have u3 := (hSw.cell (p := ⟨g0, e' + j * 6 + 3, none⟩) hgD).trans x3; have u4 := (hSw.cell (p := ⟨g0, e' + j * 6 + 4, none⟩) hgD).trans x4; have u5 := (hSw.cell (p := ⟨g0, e' + j * 6 + 5, none⟩) hgD).trans x5; have v0 := (hSw.cell (p := ⟨g1, e1' + j * 6, none⟩) hgD1).trans z0; have v1 := (hSw.cell (p := ⟨g1, e1' + j * 6 + 1, none⟩) hgD1).trans z1; have v2 := (hSw.cell (p := ⟨g1, e1' + j * 6 + 2, none⟩) hgD1).trans z2; have v3 := (hSw.cell (p := ⟨g1, e1' + j * 6 + 3, none⟩) hgD1).trans z3; have v4 := (hSw.cell (p := ⟨g1, e1' + j * 6 + 4, none⟩) hgD1).trans z4; have v5 := (hSw.cell (p := ⟨g1, e1' + j * 6 + 5, none⟩) hgD1).trans z5; (try go_simp); (try with_reducible rfl))
          simp only [Act.put, List.setIfInBounds_toArray, List.getElem_toArray, List.getElem_cons_succ, List.getElem_cons_zero, List.set_cons_succ, List.set_cons_zero]
          refine Z_step (i := 4) (by kernel_rfl) rfl (fun K' hK => ?_)
          go_simp
          refine (HCF1.out _).mono ?_
          rintro e w5 ⟨rfl, k5⟩
          have hw5 := (hS0).trans (k5.mono (by have h8 := (hS0).size; have h9 := HDD.out; omega))
          refine hK _ _ (fun _ => hw5) ?_
          clear hK
          refine Z_step (i := 9) (by kernel_rfl) rfl (fun K' hK => ?_)
          go_simp
          refine (HCF2.out _).mono ?_
          rintro e w6 ⟨rfl, k6⟩
          have hw6 := (hw5).trans (k6.mono (by have h8 := (hw5).size; have h9 := HDD.out; omega))
          refine hK _ _ (fun _ => hw6) ?_
          clear hK
          refine Z_step (i := 10) (by kernel_rfl) rfl (fun K' hK => ?_)
          go_simp
          refine (HSM.out _ hw6).mono ?_
          rintro e w7 ⟨rfl, k7⟩
          have hw7 := hw6.trans (k7.mono (by have h8 := hw6.size; have h9 := HDD.out; omega))
          refine hK _ _ (fun _ => hw7) ?_
          clear hK
          refine Z_step (i := 11) (by kernel_rfl) rfl (fun K' hK => ?_)
          go_simp
          refine hK _ _ (fun _ => hw7) (Z_done (by kernel_rfl) ?_ _)
          clear hK hw5 hw6 k5 k6 k7 hS0
          have HW7 : Hid (Below w4.heap.size w4 w7) := HBW.out.1.trans (hw7.mono HBW.out.2)
          clear hw7
          go_wp2_with fail
          go_roundg (dn - (j + 1))
          case measure => have := HNM.out; omega
          case rel => exact ⟨j + 1, by have := HNM.out; omega, by go_num, HW7.out⟩

    obtain ⟨m, rfl⟩ : ∃ m : Nat, n = (m : Int) := ⟨n.toNat, by omega⟩
    have hm2 : m ≤ ln := by omega
    have hm3 : ¬ ln < m := by omega
    go_upto_region 8 with fail
    have hC2 := chain_any (l.take m) (.slice va m vc) w1 (HVW.out m (by omega)) (by have h9 := List.length_take_le m l; omega)
    have hb1 : (0 : Int) ≤ (m : Int) := by omega
    have hb2 : (m : Int) ≤ (vc : Int) := by omega
    have hb3 : m ≤ vc := by omega
    have htl : (l.take m).length = m := by rw [List.length_take]; omega
    have hC3 : Calls Try.prog 16 #[.slice va m vc] w1 fun e W' => ∃ da dc, e = .returned (.tuple #[.slice da ((rcN l m).length + 1) dc, .int .i64 0]) ∧ Cl W' (.slice da ((rcN l m).length + 1) dc) (allL (rcN l m)) ∧ Below w1.heap.size w1 W' := by
      refine hC2.mono ?_
      rintro e W' ⟨h, hB⟩
      obtain ⟨u, rfl, hcl⟩ := chn_take (HOK.out.1) (by omega) htl h
      obtain ⟨a, c, rfl⟩ := hcl.slice
      rw [allL_len] at hcl ⊢
      exact ⟨a, c, rfl, hcl, hB⟩
    obtain ⟨dn, hdn⟩ : ∃ k, (rcN l m).length + 1 = k := ⟨_, rfl⟩
    have hpre := rcN_pre l (n := m) (m := ln) (by omega)
    have hle := hpre.length_le
    have HPR : Hid ((rcN l m) <+: (rcN l ln) ∧ (rcN l m).length + 1 = dn ∧ (rcN l ln).length + 1 = cn ∧ (rcN l m).length ≤ 40) := ⟨hpre, hdn, HOK.out.2.1, rcN_le l m⟩
    have hdc : ¬ (cn : Int) < (dn : Int) := by have := HOK.out.2.1; omega
    rw [hdn] at hC3
    clear hC2 htl hdn hpre hle
    go_upto_region 9 with (first
      | (go_at_call 16; refine hC3.mono ?_; clear hC3; rintro e w2 ⟨da, dc, rfl, hcl2, hB2⟩)
      | fail)
    have HC2 : Hid (Cl w2 (.slice da dn dc) (allL (rcN l m)) ∧ Below w1.heap.size w1 w2) := ⟨hcl2, hB2⟩
    have hCk := check_any l (.slice va ln vc) w2 (HVL.out w2 hB2) (by have := HOK.out.2.2; omega) (by have h9 := HOK.out.2.2; rw [h9]; exact HOK.out.1) (allL (rcN l m)) (.slice da dn dc) hcl2 (by rw [allL_len]; have := HPR.out.2.2.2; omega) (all_seen (by have h9 := HOK.out.2.2; rw [h9]; exact HPR.out.1))
    clear hcl2 hB2
    go_upto_region 12 with (first
      | (go_at_call 17; refine hCk.mono ?_; clear hCk; rintro e w4 ⟨rfl, hB4⟩)
      | fail)
    have H4 : Hid (Below w1.heap.size w1 w4) := HC2.out.2.trans (hB4.mono HC2.out.2.size)
    have HD4 : Hid (Cl w4 (.slice da dn dc) (allL (rcN l m)) ∧ Cl w4 (.slice ca cn cc) (allL (rcN l ln))) := ⟨HC2.out.1.on hB4 (Nat.le_refl _), HC1.out.1.on H4.out (Nat.le_refl _)⟩
    clear hB4
    go_wp2_with fail
    go_loopg [60] dn (fun gk j wr => ∃ (i : Nat), i + gk = dn ∧ j = .int .i64 i ∧ Below w4.heap.size w4 wr)
    case atStart => exact ⟨0, by omega, rfl, Below.refl _ _⟩
    case round =>
      obtain ⟨j, hin, rfl, hB⟩ := hrel
      by_cases hi1 : j = dn
      · subst hi1
        have HF : Hid (Below N w wr ∧ N ≤ wr.heap.size) := ⟨HC1.out.2.1.trans ((H4.out.trans (hB.mono H4.out.size)).mono HC1.out.2.2), Nat.le_trans HC1.out.2.2 (Nat.le_trans H4.out.size hB.size)⟩
        clear hB
        go_wp2_with (first
          | (go_at_call 7; refine (two_any _).mono ?_; rintro e w9 ⟨rfl, hB9⟩)
          | fail)
        go_ret
        exact ⟨rfl, HF.out.1.trans (hB9.mono HF.out.2)⟩
      · have hi2 : j < dn := by omega
        obtain ⟨hp1, hp2, hp3, hp4⟩ := HPR.out
        have hjd : j < (rcN l m).length + 1 := by omega
        have hjc : j < (rcN l ln).length + 1 := by have := hp1.length_le; omega
        obtain ⟨hd1, hd2⟩ := HD4.out
        have hx := allL_get hjd
        have hy := allL_get hjc
        have hee := cfgP_pre hp1 (i := j) (by omega)
        rw [hee] at hx
        obtain ⟨⟨cj, gz, a, b, c, d⟩, hX⟩ : ∃ X, cgOf j (cfgP (rcN l ln) j) = X := ⟨_, rfl⟩
        have hcj : cj = (j : Int) := by have := congrArg Cg.num hX; exact this.symm
        subst hcj
        rw [hX] at hx hy
        have hgz : gz.length ≤ 1000 := HGL.out j _ hy
        obtain ⟨g0, e', gv, hg', hgb, hil, x⟩ := (hd1.on hB (Nat.le_refl _)).at' hx rfl
        obtain ⟨g1, e1', gv1, hg1, hgb1, hil1, z⟩ := (hd2.on hB (Nat.le_refl _)).at' hy rfl
        subst hg' hg1
        obtain ⟨qa, qc, rfl⟩ := hil.slice
        obtain ⟨pa, pc, rfl⟩ := hil1.slice
        have x0 : wr.cell? ⟨g0, e' + j * 6, none⟩ = some (.int .i64 j) := x 0 _ rfl
        have x1 : wr.cell? ⟨g0, e' + j * 6 + 1, none⟩ = some (.slice qa gz.length qc) := x 1 _ rfl
        have x2 : wr.cell? ⟨g0, e' + j * 6 + 2, none⟩ = some (.int .i64 a) := x 2 _ rfl
        have x3 : wr.cell? ⟨g0, e' + j * 6 + 3, none⟩ = some (.int .i64 b) := x 3 _ rfl
        have x4 : wr.cell? ⟨g0, e' + j * 6 + 4, none⟩ = some (.int .i64 c) := x 4 _ rfl
        have x5 : wr.cell? ⟨g0, e' + j * 6 + 5, none⟩ = some (.int .i64 d) := x 5 _ rfl
        have z0 : wr.cell? ⟨g1, e1' + j * 6, none⟩ = some (.int .i64 j) := z 0 _ rfl
        have z1 : wr.cell? ⟨g1, e1' + j * 6 + 1, none⟩ = some (.slice pa gz.length pc) := z 1 _ rfl
        have z2 : wr.cell? ⟨g1, e1' + j * 6 + 2, none⟩ = some (.int .i64 a) := z 2 _ rfl
        have z3 : wr.cell? ⟨g1, e1' + j * 6 + 3, none⟩ = some (.int .i64 b) := z 3 _ rfl
        have z4 : wr.cell? ⟨g1, e1' + j * 6 + 4, none⟩ = some (.int .i64 c) := z 4 _ rfl
        have z5 : wr.cell? ⟨g1, e1' + j * 6 + 5, none⟩ = some (.int .i64 d) := z 5 _ rfl
        have d0 : (0 : Int) ≤ (j : Int) := by omega
        have d1 : (j : Int) < (dn : Int) := by omega
        have d2 : (j : Int) < (cn : Int) := by omega
        have hjb : j ≤ 100 := by omega
        obtain ⟨D, hD⟩ : ∃ D, wr.heap.size = D := ⟨_, rfl⟩
        have HDD : Hid (wr.heap.size = D) := hD
        have hgD : g0 < D := by omega
        have hgD1 : g1 < D := by omega
        have HCF1 : Hid (∀ W, Calls Try.prog 19 #[.agg (cf j (.slice qa gz.length qc) a b c d)] W fun e W' => e = .returned (.agg (cf j (.slice qa gz.length qc) a b c d)) ∧ Below W.heap.size W W') := fun W => config_any j qa gz.length qc a b c d W
        have HCF2 : Hid (∀ W, Calls Try.prog 19 #[.agg (cf j (.slice pa gz.length pc) a b c d)] W fun e W' => e = .returned (.agg (cf j (.slice pa gz.length pc) a b c d)) ∧ Below W.heap.size W W') := fun W => config_any j pa gz.length pc a b c d W
        have HSM : Hid (∀ W, Below D wr W → Calls Try.prog 18 #[.agg (cf j (.slice qa gz.length qc) a b c d), .agg (cf j (.slice pa gz.length pc) a b c d)] W fun e W' => e = .returned (.bool true) ∧ Below W.heap.size W W') := fun W hW => same_any j gz (.slice qa gz.length qc) (.slice pa gz.length pc) a b c d W (hil.below hW (by omega)) (hil1.below hW (by omega)) hgz
        have HBW : Hid (Below w4.heap.size w4 wr ∧ w4.heap.size ≤ D) := ⟨hB, by have := hB.size; omega⟩
        have HNM : Hid (j + gk = dn ∧ j < dn) := ⟨hin, hi2⟩
        have hS0 : (fun W => Below D wr W) wr.drew := below_drew (Below.refl _ _)
        clear hin hi1 hi2 hp1 hp2 hp3 hp4 hjd hjc hd1 hd2 hx hy hee hX hgz hgb hgb1 hil hil1 x z hB hD hdc hb1 hb2 hb3
        go_upto_region 15 with fail
        refine region_Z 99 (fun W => Below D wr W) (by kernel_rfl) ?_
        refine Y_take (i := 0) (v := ?_) rfl (by kernel_rfl) (by kernel_rfl) (by kernel_rfl) (by kernel_rfl) (fun _ _ _ h => h) (by rfl) hS0 ?_ ?_
        rotate_left
        · (intro w' hSw; have u0 := (hSw.cell (p := ⟨g0, e' + j * 6, none⟩) hgD).trans x0; have u1 := (hSw.cell (p := ⟨g0, e' + j * 6 + 1, none⟩) hgD).trans x1; have u2 := (hSw.cell (p := ⟨g0, e' + j * 6 + 2, none⟩) hgD).trans x2; have u3 := (hSw.cell (p := ⟨g0, e' + j * 6 + 3, none⟩) hgD).trans x3; have u4 := (hSw.cell (p := ⟨g0, e' + j * 6 + 4, none⟩) hgD).trans x4; have u5 := (hSw.cell (p := ⟨g0, e' + j * 6 + 5, none⟩) hgD).trans x5; have v0 := (hSw.cell (p := ⟨g1, e1' + j * 6, none⟩) hgD1).trans z0; have v1 := (hSw.cell (p := ⟨g1, e1' + j * 6 + 1, none⟩) hgD1).trans z1; have v2 := (hSw.cell (p := ⟨g1, e1' + j * 6 + 2, none⟩) hgD1).trans z2; have v3 := (hSw.cell (p := ⟨g1, e1' + j * 6 + 3, none⟩) hgD1).trans z3; have v4 := (hSw.cell (p := ⟨g1, e1' + j * 6 + 4, none⟩) hgD1).trans z4; have v5 := (hSw.cell (p := ⟨g1, e1' + j * 6 + 5, none⟩) hgD1).trans z5; (try go_simp); (try with_reducible rfl))
        simp only [Act.put, List.setIfInBounds_toArray, List.getElem_toArray, List.getElem_cons_zero, List.set_cons_succ, List.set_cons_zero]
        refine Y_take (i := 1) (v := ?_) rfl (by kernel_rfl) (by kernel_rfl) (by kernel_rfl) (by kernel_rfl) (fun _ _ _ h => h) (by rfl) hS0 ?_ ?_
        rotate_left
        · (intro w' hSw; have u0 := (hSw.cell (p := ⟨g0, e' + j * 6, none⟩) hgD).trans x0; have u1 := (hSw.cell (p := ⟨g0, e' + j * 6 + 1, none⟩) hgD).trans x1; have u2 := (hSw.cell (p := ⟨g0, e' + j * 6 + 2, none⟩) hgD).trans x2; have u3 := (hSw.cell (p := ⟨g0, e' + j * 6 + 3, none⟩) hgD).trans x3; have u4 := (hSw.cell (p := ⟨g0, e' + j * 6 + 4, none⟩) hgD).trans x4; have u5 := (hSw.cell (p := ⟨g0, e' + j * 6 + 5, none⟩) hgD).trans x5; have v0 := (hSw.cell (p := ⟨g1, e1' + j * 6, none⟩) hgD1).trans z0; have v1 := (hSw.cell (p := ⟨g1, e1' + j * 6 + 1, none⟩) hgD1).trans z1; have v2 := (hSw.cell (p := ⟨g1, e1' + j * 6 + 2, none⟩) hgD1).trans z2; have v3 := (hSw.cell (p := ⟨g1, e1' + j * 6 + 3, none⟩) hgD1).trans z3; have v4 := (hSw.cell (p := ⟨g1, e1' + j * 6 + 4, none⟩) hgD1).trans z4; have v5 := (hSw.cell (p := ⟨g1, e1' + j * 6 + 5, none⟩) hgD1).trans z5; (try go_simp); (try with_reducible rfl))
        simp only [Act.put, List.setIfInBounds_toArray, List.getElem_toArray, List.getElem_cons_succ, List.getElem_cons_zero, List.set_cons_succ, List.set_cons_zero]
        refine Y_take (i := 2) (v := ?_) rfl (by kernel_rfl) (by kernel_rfl) (by kernel_rfl) (by kernel_rfl) (fun _ _ _ h => h) (by rfl) hS0 ?_ ?_
        rotate_left
        · (intro w' hSw; have u0 := (hSw.cell (p := ⟨g0, e' + j * 6, none⟩) hgD).trans x0; have u1 := (hSw.cell (p := ⟨g0, e' + j * 6 + 1, none⟩) hgD).trans x1; have u2 := (hSw.cell (p := ⟨g0, e' + j * 6 + 2, none⟩) hgD).trans x2; have u3 := (hSw.cell (p := ⟨g0, e' + j * 6 + 3, none⟩) hgD).trans x3; have u4 := (hSw.cell (p := ⟨g0, e' + j * 6 + 4, none⟩) hgD).trans x4; have u5 := (hSw.cell (p := ⟨g0, e' + j * 6 + 5, none⟩) hgD).trans x5; have v0 := (hSw.cell (p := ⟨g1, e1' + j * 6, none⟩) hgD1).trans z0; have v1 := (hSw.cell (p := ⟨g1, e1' + j * 6 + 1, none⟩) hgD1).trans z1; have v2 := (hSw.cell (p := ⟨g1, e1' + j * 6 + 2, none⟩) hgD1).trans z2; have v3 := (hSw.cell (p := ⟨g1, e1' + j * 6 + 3, none⟩) hgD1).trans z3; have v4 := (hSw.cell (p := ⟨g1, e1' + j * 6 + 4, none⟩) hgD1).trans z4; have v5 := (hSw.cell (p := ⟨g1, e1' + j * 6 + 5, none⟩) hgD1).trans z5; (try go_simp); (try with_reducible rfl))
        simp only [Act.put, List.setIfInBounds_toArray, List.getElem_toArray, List.getElem_cons_succ, List.getElem_cons_zero, List.set_cons_succ, List.set_cons_zero]
        refine Y_take (i := 3) (v := ?_) rfl (by kernel_rfl) (by kernel_rfl) (by kernel_rfl) (by kernel_rfl) (fun _ _ _ h => h) (by rfl) hS0 ?_ ?_
        rotate_left
        · (intro w' hSw; have u0 := (hSw.cell (p := ⟨g0, e' + j * 6, none⟩) hgD).trans x0; have u1 := (hSw.cell (p := ⟨g0, e' + j * 6 + 1, none⟩) hgD).trans x1; have u2 := (hSw.cell (p := ⟨g0, e' + j * 6 + 2, none⟩) hgD).trans x2; have u3 := (hSw.cell (p := ⟨g0, e' + j * 6 + 3, none⟩) hgD).trans x3; have u4 := (hSw.cell (p := ⟨g0, e' + j * 6 + 4, none⟩) hgD).trans x4; have u5 := (hSw.cell (p := ⟨g0, e' + j * 6 + 5, none⟩) hgD).trans x5; have v0 := (hSw.cell (p := ⟨g1, e1' + j * 6, none⟩) hgD1).trans z0; have v1 := (hSw.cell (p := ⟨g1, e1' + j * 6 + 1, none⟩) hgD1).trans z1; have v2 := (hSw.cell (p := ⟨g1, e1' + j * 6 + 2, none⟩) hgD1).trans z2; have v3 := (hSw.cell (p := ⟨g1, e1' + j * 6 + 3, none⟩) hgD1).trans z3; have v4 := (hSw.cell (p := ⟨g1, e1' + j * 6 + 4, none⟩) hgD1).trans z4; have v5 := (hSw.cell (p := ⟨g1, e1' + j * 6 + 5, none⟩) hgD1).trans z5; (try go_simp); (try with_reducible rfl))
        simp only [Act.put, List.setIfInBounds_toArray, List.getElem_toArray, List.getElem_cons_succ, List.getElem_cons_zero, List.set_cons_succ, List.set_cons_zero]
        refine Y_take (i := 5) (v := ?_) rfl (by kernel_rfl) (by kernel_rfl) (by kernel_rfl) (by kernel_rfl) (fun _ _ _ h => h) (by rfl) hS0 ?_ ?_
        rotate_left
        · (intro w' hSw; have u0 := (hSw.cell (p := ⟨g0, e' + j * 6, none⟩) hgD).trans x0; have u1 := (hSw.cell (p := ⟨g0, e' + j * 6 + 1, none⟩) hgD).trans x1; have u2 := (hSw.cell (p := ⟨g0, e' + j * 6 + 2, none⟩) hgD).trans x2; have u3 := (hSw.cell (p := ⟨g0, e' + j * 6 + 3, none⟩) hgD).trans x3; have u4 := (hSw.cell (p := ⟨g0, e' + j * 6 + 4, none⟩) hgD).trans x4; have u5 := (hSw.cell (p := ⟨g0, e' + j * 6 + 5, none⟩) hgD).trans x5; have v0 := (hSw.cell (p := ⟨g1, e1' + j * 6, none⟩) hgD1).trans z0; have v1 := (hSw.cell (p := ⟨g1, e1' + j * 6 + 1, none⟩) hgD1).trans z1; have v2 := (hSw.cell (p := ⟨g1, e1' + j * 6 + 2, none⟩) hgD1).trans z2; have v3 := (hSw.cell (p := ⟨g1, e1' + j * 6 + 3, none⟩) hgD1).trans z3; have v4 := (hSw.cell (p := ⟨g1, e1' + j * 6 + 4, none⟩) hgD1).trans z4; have v5 := (hSw.cell (p := ⟨g1, e1' + j * 6 + 5, none⟩) hgD1).trans z5; (try go_simp); (try with_reducible rfl))
        simp only [Act.put, List.setIfInBounds_toArray, List.getElem_toArray, List.getElem_cons_succ, List.getElem_cons_zero, List.set_cons_succ, List.set_cons_zero]
        refine Y_take (i := 6) (v := ?_) rfl (by kernel_rfl) (by kernel_rfl) (by kernel_rfl) (by kernel_rfl) (fun _ _ _ h => h) (by rfl) hS0 ?_ ?_
        rotate_left
        · (intro w' hSw; have u0 := (hSw.cell (p := ⟨g0, e' + j * 6, none⟩) hgD).trans x0; have u1 := (hSw.cell (p := ⟨g0, e' + j * 6 + 1, none⟩) hgD).trans x1; have u2 := (hSw.cell (p := ⟨g0, e' + j * 6 + 2, none⟩) hgD).trans x2; have u3 := (hSw.cell (p := ⟨g0, e' + j * 6 + 3, none⟩) hgD).trans x3; have u4 := (hSw.cell (p := ⟨g0, e' + j * 6 + 4, none⟩) hgD).trans x4; have u5 := (hSw.cell (p := ⟨g0, e' + j * 6 + 5, none⟩) hgD).trans x5; have v0 := (hSw.cell (p := ⟨g1, e1' + j * 6, none⟩) hgD1).trans z0; have v1 := (hSw.cell (p := ⟨g1, e1' + j * 6 + 1, none⟩) hgD1).trans z1; have v2 := (hSw.cell (p := ⟨g1, e1' + j * 6 + 2, none⟩) hgD1).trans z2; have v3 := (hSw.cell (p := ⟨g1, e1' + j * 6 + 3, none⟩) hgD1).trans z3; have v4 := (hSw.cell (p := ⟨g1, e1' + j * 6 + 4, none⟩) hgD1).trans z4; have v5 := (hSw.cell (p := ⟨g1, e1' + j * 6 + 5, none⟩) hgD1).trans z5; (try go_simp); (try with_reducible rfl))
        simp only [Act.put, List.setIfInBounds_toArray, List.getElem_toArray, List.getElem_cons_succ, List.getElem_cons_zero, List.set_cons_succ, List.set_cons_zero]
        refine Y_take (i := 7) (v := ?_) rfl (by kernel_rfl) (by kernel_rfl) (by kernel_rfl) (by kernel_rfl) (fun _ _ _ h => h) (by rfl) hS0 ?_ ?_
        rotate_left
        · (intro w' hSw; have u0 := (hSw.cell (p := ⟨g0, e' + j * 6, none⟩) hgD).trans x0; have u1 := (hSw.cell (p := ⟨g0, e' + j * 6 + 1, none⟩) hgD).trans x1; have u2 := (hSw.cell (p := ⟨g0, e' + j * 6 + 2, none⟩) hgD).trans x2; have u3 := (hSw.cell (p := ⟨g0, e' + j * 6 + 3, none⟩) hgD).trans x3; have u4 := (hSw.cell (p := ⟨g0, e' + j * 6 + 4, none⟩) hgD).trans x4; have u5 := (hSw.cell (p := ⟨g0, e' + j * 6 + 5, none⟩) hgD).trans x5; have v0 := (hSw.cell (p := ⟨g1, e1' + j * 6, none⟩) hgD1).trans z0; have v1 := (hSw.cell (p := ⟨g1, e1' + j * 6 + 1, none⟩) hgD1).trans z1; have v2 := (hSw.cell (p := ⟨g1, e1' + j * 6 + 2, none⟩) hgD1).trans z2; have v3 := (hSw.cell (p := ⟨g1, e1' + j * 6 + 3, none⟩) hgD1).trans z3; have v4 := (hSw.cell (p := ⟨g1, e1' + j * 6 + 4, none⟩) hgD1).trans z4; have v5 := (hSw.cell (p := ⟨g1, e1' + j * 6 + 5, none⟩) hgD1).trans z5; (try go_simp); (try with_reducible rfl))
        simp only [Act.put, List.setIfInBounds_toArray, List.getElem_toArray, List.getElem_cons_succ, List.getElem_cons_zero, List.set_cons_succ, List.set_cons_zero]
        refine Y_take (i := 8) (v := ?_) rfl (by kernel_rfl) (by kernel_rfl) (by kernel_rfl) (by kernel_rfl) (fun _ _ _ h => h) (by rfl) hS0 ?_ ?_
        rotate_left
        · (intro w' hSw; have u0 := (hSw.cell (p := ⟨g0, e' + j * 6, none⟩) hgD).trans x0; have u1 := (hSw.cell (p := ⟨g0, e' + j * 6 + 1, none⟩) hgD).trans x1; have u2 := (hSw.cell (p := ⟨g0, e' + j * 6 + 2, none⟩) hgD).trans x2; have u3 := (hSw.cell (p := ⟨g0, e' + j * 6 + 3, none⟩) hgD).trans x3; have u4 := (hSw.cell (p := ⟨g0, e' + j * 6 + 4, none⟩) hgD).trans x4; have u5 := (hSw.cell (p := ⟨g0, e' + j * 6 + 5, none⟩) hgD).trans x5; have v0 := (hSw.cell (p := ⟨g1, e1' + j * 6, none⟩) hgD1).trans z0; have v1 := (hSw.cell (p := ⟨g1, e1' + j * 6 + 1, none⟩) hgD1).trans z1; have v2 := (hSw.cell (p := ⟨g1, e1' + j * 6 + 2, none⟩) hgD1).trans z2; have v3 := (hSw.cell (p := ⟨g1, e1' + j * 6 + 3, none⟩) hgD1).trans z3; have v4 := (hSw.cell (p := ⟨g1, e1' + j * 6 + 4, none⟩) hgD1).trans z4; have v5 := (hSw.cell (p := ⟨g1, e1' + j * 6 + 5, none⟩) hgD1).trans z5; (try go_simp); (try with_reducible rfl))
        simp only [Act.put, List.setIfInBounds_toArray, List.getElem_toArray, List.getElem_cons_succ, List.getElem_cons_zero, List.set_cons_succ, List.set_cons_zero]
        refine Z_step (i := 4) (by kernel_rfl) rfl (fun K' hK => ?_)
        go_simp
        refine (HCF1.out _).mono ?_
        rintro e w5 ⟨rfl, k5⟩
        have hw5 := (hS0).trans (k5.mono (by have h8 := (hS0).size; have h9 := HDD.out; omega))
        refine hK _ _ (fun _ => hw5) ?_
        clear hK
        refine Z_step (i := 9) (by kernel_rfl) rfl (fun K' hK => ?_)
        go_simp
        refine (HCF2.out _).mono ?_
        rintro e w6 ⟨rfl, k6⟩
        have hw6 := (hw5).trans (k6.mono (by have h8 := (hw5).size; have h9 := HDD.out; omega))
        refine hK _ _ (fun _ => hw6) ?_
        clear hK
        refine Z_step (i := 10) (by kernel_rfl) rfl (fun K' hK => ?_)
        go_simp
        refine (HSM.out _ hw6).mono ?_
        rintro e w7 ⟨rfl, k7⟩
        have hw7 := hw6.trans (k7.mono (by have h8 := hw6.size; have h9 := HDD.out; omega))
        refine hK _ _ (fun _ => hw7) ?_
        clear hK
        refine Z_step (i := 11) (by kernel_rfl) rfl (fun K' hK => ?_)
        go_simp
        refine hK _ _ (fun _ => hw7) (Z_done (by kernel_rfl) ?_ _)
        clear hK hw5 hw6 k5 k6 k7 hS0
        have HW7 : Hid (Below w4.heap.size w4 w7) := HBW.out.1.trans (hw7.mono HBW.out.2)
        clear hw7
        go_wp2_with fail
        go_roundg (dn - (j + 1))
        case measure => have := HNM.out; omega
        case rel => exact ⟨j + 1, by have := HNM.out; omega, by go_num, HW7.out⟩

  · have HB1 : Hid (Below N w w1 ∧ N ≤ w1.heap.size) := ⟨hB1, by have := hB1.size; have := HLN.out; omega⟩
    clear hB1
    go_wp2_with (first
      | (go_at_call 7; refine (two_any _).mono ?_; rintro e w9 ⟨rfl, hB9⟩)
      | fail)
    go_ret
    exact ⟨rfl, HB1.out.1.trans (hB9.mono HB1.out.2)⟩
end Go.Proofs.Ytcehmaegnfelhaa
