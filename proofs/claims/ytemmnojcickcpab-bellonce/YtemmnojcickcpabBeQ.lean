/- The law BellOnce, walked. -/
import Derived.Test.YtemmnojcickcpabBeP
namespace Go.Proofs.Ytemmnojcickcpab
open Go.RowKit
attribute [local go_sem ↓] Go.wp_at_zero Go.wp_at_succ

theorem twice_in (s : Int) (h1 : 1 ≤ s) (h2 : s ≤ 4096) : 1 ≤ twice s ∧ twice s ≤ 4096 := by unfold twice; split <;> omega
set_option maxRecDepth 20000 in
set_option maxHeartbeats 16000000 in
theorem once_any (sl : List Stp) (va : Value) (w : World) (hs : Stl w va sl) : Calls Try.prog 3 #[va] w fun e W' => e = .returned (.bool true) ∧ Below w.heap.size w W' := by
  obtain ⟨a0, c0, rfl⟩ := hs.slice
  have hN := New_any w
  by_cases hbig : 300 < sl.length
  · have h1 : decide ((300 : Int) < sl.length) = true := by simp; omega
    clear hbig
    go_enter Try.func3, Try.ntmps3
    go_wp2_with (first
      | (go_at_call 6; refine hN.mono ?_; rintro e w1 ⟨rfl, rfl⟩)
      | (go_at_call 7; refine (three_any _).mono ?_; rintro e wz ⟨rfl, h9⟩))
    go_ret
    exact ⟨rfl, ((Below.refl _ w).alloc (Nat.le_refl _) _).trans (h9.mono (by simp))⟩
  have hq1 : decide ((300 : Int) < sl.length) = false := by simp; omega
  have hsl : sl.length ≤ 300 := by omega
  clear hbig
  have hK0 : On w w.heap.size (w.heap.size + 1) (.slice none 0 0) (fun _ => none) (fun _ => none) 0 ((w.alloc (.cells #[.slice none 0 0, .int .i64 0] 47)).alloc (.cells (dcs (fun _ => none)) 26)) := by
    have h0 := BelSt.new w w.heap.size (Nat.le_refl _)
    have hB0 : Below w.heap.size w (w.alloc (.cells #[.slice none 0 0, .int .i64 0] 47)) := (Below.refl _ w).alloc (Nat.le_refl _) _
    have hb1 : Below (w.alloc (.cells #[.slice none 0 0, .int .i64 0] 47)).heap.size (w.alloc (.cells #[.slice none 0 0, .int .i64 0] 47)) ((w.alloc (.cells #[.slice none 0 0, .int .i64 0] 47)).alloc (.cells (dcs (fun _ => none)) 26)) := (Below.refl _ _).alloc (Nat.le_refl _) _
    have hn := heap_alloc_new (w.alloc (.cells #[.slice none 0 0, .int .i64 0] 47)) (.cells (dcs (fun _ => none)) 26)
    rw [World.size_alloc] at hn
    exact ⟨h0.next hb1, hn, by omega, fun e => (by cases e), hB0.trans (hb1.mono hB0.size), by omega, by decide, by decide⟩
  have HK0 : Hid (_) := hK0
  clear hK0
  go_enter Try.func3, Try.ntmps3
  go_upto_region 6 with (go_at_call 6; refine hN.mono ?_; rintro e w1 ⟨rfl, rfl⟩)
  have hK0 := HK0.out
  clear HK0
  obtain ⟨W1, hW1⟩ : ∃ W, (w.alloc (.cells #[.slice none 0 0, .int .i64 0] 47)).alloc (.cells #[.int .i64 0, .int .i64 0, .int .i64 0, .int .i64 0, .int .i64 0, .int .i64 0, .int .i64 0, .int .i64 0, .int .i64 0, .int .i64 0, .int .i64 0, .int .i64 0, .int .i64 0, .int .i64 0, .int .i64 0, .int .i64 0] 26) = W := ⟨_, rfl⟩
  rw [hW1]
  replace hK0 : On w w.heap.size (w.heap.size + 1) (.slice none 0 0) (fun _ => none) (fun _ => none) 0 W1 := by rw [← hW1]; exact hK0
  obtain ⟨D, hD⟩ : ∃ B, w.heap.size + 1 = B := ⟨_, rfl⟩
  rw [hD] at hK0 ⊢
  obtain ⟨B, hB⟩ : ∃ B, w.heap.size = B := ⟨_, rfl⟩
  have HB : Hid (w.heap.size = B) := hB
  have hwB : w.heap.size ≤ B := by omega
  rw [hB] at hK0
  rw [show (⟨w.heap.size, 0, none⟩ : Addr) = ⟨B, 0, none⟩ by rw [hB]]
  clear hW1 hN hB hD
  go_loopg [30] sl.length (fun gk i wr => ∃ (k : Nat) (v : Value) (F : Ft) (now : Int), k + gk = sl.length ∧ i = .int .i64 k ∧ On w B D v F F now wr ∧ Hid (Pos F))
  case atStart => exact ⟨0, _, _, _, by omega, rfl, hK0, fun n d s h => (by cases h)⟩
  case round =>
    obtain ⟨k, v, F, now, hk, rfl, hK, HP⟩ := hrel
    clear hK0
    by_cases hlt : k < sl.length
    · obtain ⟨⟨q0, q1, q2⟩, hq⟩ : ∃ s, sl[k]? = some s := ⟨_, List.getElem?_eq_getElem hlt⟩
      obtain ⟨b, o, rfl, hbl, x0, x1, x2⟩ := (hs.below hK.bel hwB).at hq
      have k0 : (0 : Int) ≤ (k : Int) := by omega
      have k1 : (k : Int) < (sl.length : Int) := by omega
      simp only at x0 x1 x2
      clear hq
      go_upto_region 8 with fail
      have hb2 : Below wr.heap.size wr (wr.alloc (.cells #[.int .i64 q0, .int .i64 q1, .int .i64 q2] 28)) := (Below.refl _ _).alloc (Nat.le_refl _) _
      have y2 := heap_alloc_new wr (.cells #[.int .i64 q0, .int .i64 q1, .int .i64 q2] 28)
      have hK2 := hK.next hb2
      have hYB : wr.heap.size ≠ B := by have := hK.bell.lt; omega
      have hYD : wr.heap.size ≠ D := by have := hK.ltD; omega
      have hYo : v.ownBlock ≠ some wr.heap.size := fun e => by have := (hK.bell.ownlt _ e).2; omega
      obtain ⟨W2, hW2⟩ : ∃ W, (wr.alloc (.cells #[.int .i64 q0, .int .i64 q1, .int .i64 q2] 28)) = W := ⟨_, rfl⟩
      rw [hW2] at y2 hK2 ⊢
      obtain ⟨Y, hY⟩ : ∃ Y, wr.heap.size = Y := ⟨_, rfl⟩
      rw [hY] at y2 hYB hYD hYo ⊢
      have hYs : Y < W2.heap.size := (Array.getElem?_eq_some_iff.1 y2).1
      have z0 := cellB y2 0 (.int .i64 q0) rfl
      have z1 := cellB y2 1 (.int .i64 q1) rfl
      have z2 := cellB y2 2 (.int .i64 q2) rfl
      clear x0 x1 x2 hbl hb2 hW2 hY hK
      have hc1 : q1 < 0 ∨ (0 ≤ q1 ∧ 15 < q1) ∨ (0 ≤ q1 ∧ q1 ≤ 15) := by omega
      rcases hc1 with hc | ⟨hc, hc2⟩ | ⟨hc, hc2⟩
      · go_wp2_with fail
        go_roundg (sl.length - (k + 1))
        case measure => omega
        case rel => exact ⟨k + 1, v, F, now, by omega, by go_num, hK2, HP⟩
      · go_wp2_with fail
        go_roundg (sl.length - (k + 1))
        case measure => omega
        case rel => exact ⟨k + 1, v, F, now, by omega, by go_num, hK2, HP⟩
      have hnB : nameB q1 = true := by simp [nameB]; omega
      have HN : Hid (nameB q1 = true) := hnB
      obtain ⟨n, rfl⟩ : ∃ n : Nat, q1 = n := Int.eq_ofNat_of_zero_le hc
      have hn16 : n < 16 := by omega
      have hni : (n : Int) < 16 := by omega
      have hc0 : q0 = 0 ∨ q0 = 1 ∨ q0 = 2 ∨ q0 = 3 ∨ q0 = 4 ∨ (q0 ≠ 0 ∧ q0 ≠ 1 ∧ q0 ≠ 2 ∧ q0 ≠ 3 ∧ q0 ≠ 4) := by omega
      clear hnB
      rcases hc0 with rfl | rfl | rfl | rfl | rfl | ⟨e0, e1, e2, e3, e4⟩
      · by_cases hs2 : q2 < 1 ∨ 4096 < q2
        · have hS := Set_bad (some ⟨B, 0, none⟩) n q2 W2 (.inr ⟨HN.out, by omega⟩)
          go_wp2_with (go_at_call 8; refine hS.mono ?_; rintro e w3 ⟨rfl, hz⟩; subst hz)
          go_roundg (sl.length - (k + 1))
          case measure => omega
          case rel => exact ⟨k + 1, v, F, now, by omega, by go_num, hK2, HP⟩
        · have hS := hK2.set n q2 HN.out (by omega) (by omega)
          go_upto_region 13 with (go_at_call 8; refine hS.mono ?_; rintro e w3 ⟨rfl, v3, hK3, hm3⟩)
          have y3 := hm3.far hYs hYB hYo y2
          obtain ⟨q, hq⟩ : ∃ q, now + q2 = q := ⟨_, rfl⟩
          have hwr : IntKind.i64.wrap (now + q2) = q := by have := hK3.n0; have := hK3.n1; rw [wrap_id8 _ (by omega) (by omega), hq]
          rw [hq] at hK3
          have HP2 : Hid (Pos (upd F n (some (q, q2)))) := HP.out.upd (by have := hK3.n0; omega) (by omega) (by omega)
          clear hS hK2 y2 z0 z1 z2 hYs hm3 hq hs2
          have z1 := cellB y3 1 (.int .i64 n) rfl
          have z2 := cellB y3 2 (.int .i64 q2) rfl
          have zf := hK3.frozen n
          have zc := hK3.cell n hn16
          have hNw := (hK3.next (below_drew (Below.refl _ w3))).now
          have hK4 : On w B D v3 (upd F n (some (q, q2))) (upd F n (some (q, q2))) now (w3.setCell ⟨D, n, none⟩ (.int .i64 q)) := hK3.put n hn16 (some (q, q2))
          have hK5 := hK4.next (below_drew (Below.refl _ _))
          go_region_with (go_at_call 9; refine hNw.mono ?_; rintro e w4 ⟨rfl, hz⟩; subst hz)
          all_goals
            clear hNw z1 z2 zf zc y3
            go_wp2_with fail
            go_roundg (sl.length - (k + 1))
            case measure => omega
            case rel => exact ⟨k + 1, v3, _, now, by omega, by go_num, hK5, HP2⟩
      · by_cases hs2 : q2 < 1 ∨ 4096 < q2
        · have hS := Set_bad (some ⟨B, 0, none⟩) n q2 W2 (.inr ⟨HN.out, by omega⟩)
          go_wp2_with (go_at_call 8; refine hS.mono ?_; rintro e w3 ⟨rfl, hz⟩; subst hz)
          go_roundg (sl.length - (k + 1))
          case measure => omega
          case rel => exact ⟨k + 1, v, F, now, by omega, by go_num, hK2, HP⟩
        · have hS := hK2.set n q2 HN.out (by omega) (by omega)
          go_upto_region 13 with (go_at_call 8; refine hS.mono ?_; rintro e w3 ⟨rfl, v3, hK3, hm3⟩)
          have y3 := hm3.far hYs hYB hYo y2
          obtain ⟨q, hq⟩ : ∃ q, now + q2 = q := ⟨_, rfl⟩
          have hwr : IntKind.i64.wrap (now + q2) = q := by have := hK3.n0; have := hK3.n1; rw [wrap_id8 _ (by omega) (by omega), hq]
          rw [hq] at hK3
          have HP2 : Hid (Pos (upd F n (some (q, q2)))) := HP.out.upd (by have := hK3.n0; omega) (by omega) (by omega)
          clear hS hK2 y2 z0 z1 z2 hYs hm3 hq hs2
          have z1 := cellB y3 1 (.int .i64 n) rfl
          have z2 := cellB y3 2 (.int .i64 q2) rfl
          have zf := hK3.frozen n
          have zc := hK3.cell n hn16
          have hNw := (hK3.next (below_drew (Below.refl _ w3))).now
          have hK4 : On w B D v3 (upd F n (some (q, q2))) (upd F n (some (q, q2))) now (w3.setCell ⟨D, n, none⟩ (.int .i64 q)) := hK3.put n hn16 (some (q, q2))
          have hK5 := hK4.next (below_drew (Below.refl _ _))
          go_region_with (go_at_call 9; refine hNw.mono ?_; rintro e w4 ⟨rfl, hz⟩; subst hz)
          all_goals
            clear hNw z1 z2 zf zc y3
            go_wp2_with fail
            go_roundg (sl.length - (k + 1))
            case measure => omega
            case rel => exact ⟨k + 1, v3, _, now, by omega, by go_num, hK5, HP2⟩
      · have hS := hK2.off n HN.out
        obtain ⟨R, hR⟩ : ∃ R, (F n).isSome = R := ⟨_, rfl⟩
        rw [hR] at hS
        clear hR
        go_upto_region 16 with (go_at_call 10; refine hS.mono ?_; rintro e w3 ⟨rfl, v3, hK3, hm3⟩)
        have y3 := hm3.far hYs hYB hYo y2
        have HP2 : Hid (Pos (upd F n none)) := HP.out.off n
        clear hS hK2 y2 z0 z1 z2 hYs hm3
        have z1 := cellB y3 1 (.int .i64 n) rfl
        have zf := hK3.frozen n
        have zc := hK3.cell n hn16
        have hK4 : On w B D v3 (upd F n none) (upd F n none) now (w3.setCell ⟨D, n, none⟩ (.int .i64 0)) := hK3.put n hn16 none
        go_wp2_with fail
        go_roundg (sl.length - (k + 1))
        case measure => omega
        case rel => exact ⟨k + 1, v3, _, now, by omega, by go_num, hK4, HP2⟩
      · cases hF : F n with
        | none =>
          have hS := Double_no hK2.bell n HN.out hF
          have zc := hK2.cell n hn16
          rw [hF] at zc
          replace zc : W2.cell? ⟨D, n, none⟩ = some (.int .i64 0) := zc
          clear hF
          go_wp2_with (go_at_call 11; refine hS.mono ?_; rintro e w3 ⟨rfl, hz⟩; subst hz)
          go_roundg (sl.length - (k + 1))
          case measure => omega
          case rel => exact ⟨k + 1, v, F, now, by omega, by go_num, hK2, HP⟩
        | some x =>
          obtain ⟨d, s⟩ := x
          have hS := hK2.double n d s HN.out hF
          obtain ⟨hd1, _, _, hs1, hs2⟩ := HP.out _ _ _ hF
          have hd0 : 0 < d := by omega
          have hT2 := twice_in s hs1 hs2
          obtain ⟨T, hT⟩ : ∃ T, twice s = T := ⟨_, rfl⟩
          rw [hT] at hS hT2
          have HF : Hid (F n = some (d, s)) := hF
          clear hF hT
          go_upto_region 19 with (go_at_call 11; refine hS.mono ?_; rintro e w3 ⟨rfl, v3, hK3, hm3⟩)
          have y3 := hm3.far hYs hYB hYo y2
          obtain ⟨q, hq⟩ : ∃ q, now + T = q := ⟨_, rfl⟩
          have hwr : IntKind.i64.wrap (now + T) = q := by have := hK3.n0; have := hK3.n1; rw [wrap_id8 _ (by omega) (by omega), hq]
          rw [hq] at hK3
          have HP2 : Hid (Pos (upd F n (some (q, T)))) := HP.out.upd (by have := hK3.n0; omega) (by omega) (by omega)
          clear hS hK2 y2 z0 z1 z2 hYs hm3 hq
          have z1 := cellB y3 1 (.int .i64 n) rfl
          have zf := hK3.frozen n
          have zc := hK3.cell n hn16
          rw [HF.out] at zc
          replace zc : w3.cell? ⟨D, n, none⟩ = some (.int .i64 d) := zc
          have hNw := (hK3.next (below_drew (Below.refl _ w3))).now
          have hK4 : On w B D v3 (upd F n (some (q, T))) (upd F n (some (q, T))) now (w3.setCell ⟨D, n, none⟩ (.int .i64 q)) := hK3.put n hn16 (some (q, T))
          have hK5 := hK4.next (below_drew (Below.refl _ _))
          go_upto_region 22 with fail
          go_region_with (go_at_call 9; refine hNw.mono ?_; rintro e w4 ⟨rfl, hz⟩; subst hz)
          all_goals
            clear hNw z1 zf zc y3
            go_wp2_with fail
            go_roundg (sl.length - (k + 1))
            case measure => omega
            case rel => exact ⟨k + 1, v3, _, now, by omega, by go_num, hK5, HP2⟩
      · by_cases hb1 : q2 < 0 ∨ 4096 < q2
        · have hS := Tick_bad (some ⟨B, 0, none⟩) q2 W2 (by omega)
          go_wp2_with (go_at_call 12; refine hS.mono ?_; rintro e w3 ⟨rfl, hz⟩; subst hz)
          go_roundg (sl.length - (k + 1))
          case measure => omega
          case rel => exact ⟨k + 1, v, F, now, by omega, by go_num, hK2, HP⟩
        by_cases hb3 : 1099511627776 < now + q2
        · have hS := Tick_long hK2.bell q2 (by omega) (by omega) hK2.n0 hK2.n1 hb3
          go_wp2_with (go_at_call 12; refine hS.mono ?_; rintro e w3 ⟨rfl, hz⟩; subst hz)
          go_roundg (sl.length - (k + 1))
          case measure => omega
          case rel => exact ⟨k + 1, v, F, now, by omega, by go_num, hK2, HP⟩
        have hS := hK2.tick q2 (by omega) (by omega) (by omega)
        go_upto_region 27 with (go_at_call 12; refine hS.mono ?_; rintro e w3 ⟨u, P, v3, rfl, hrow, hri, hK3, hm3⟩; obtain ⟨ua, uc, rfl⟩ := owns_slice hrow)
        have y3 := hm3.far hYs hYB hYo y2
        obtain ⟨nw, hnw⟩ : ∃ q, now + q2 = q := ⟨_, rfl⟩
        rw [hnw] at hK3 hri
        have hXD : D < W2.heap.size := hK2.ltD
        obtain ⟨X, hX⟩ : ∃ X, W2.heap.size = X := ⟨_, rfl⟩
        rw [hX] at hrow hXD
        have HRI : Hid (Rings F nw P) := hri
        have HP2 : Hid (Pos (late F nw)) := HP.out.late nw
        have hPl : P.length ≤ 16 := HRI.out.few HP.out
        clear hS hK2 y2 y3 z0 z1 z2 hYs hm3 hnw hri hX
        go_loopg [110] P.length (fun gk i wr => ∃ j : Nat, j + gk = P.length ∧ i = .int .i64 j ∧ On w B D v3 (late F nw) (cut F ((P.take j).map (·.1))) nw wr ∧ wr.ownsRow X 3 1 (.slice ua P.length uc) P.length (mcs P))
        case atStart => exact ⟨0, by omega, rfl, (by simp only [List.take_zero, List.map_nil, cut_nil]; exact hK3), hrow⟩
        case round =>
          obtain ⟨j, hj, rfl, hK, hro⟩ := hrel
          clear hK3 hrow
          by_cases hjl : j < P.length
          · obtain ⟨⟨m, d, s⟩, ht⟩ : ∃ t, P[j]? = some t := ⟨_, List.getElem?_eq_getElem hjl⟩
            have hIl : Il wr (.slice ua (P.map (·.1)).length uc) (P.map (·.1)) := by rw [List.length_map]; exact Il_mcs hro
            obtain ⟨g, o2, rfl, hgl, x⟩ := hIl.at (k := j) (t := m) (by simp [ht])
            have hc3 := rings_new HRI.out ht
            have hp3 := HP.out m d s ((HRI.out.mem _ _ _).1 (List.mem_of_getElem? ht)).1
            simp only at hc3
            have j0 : (0 : Int) ≤ (j : Int) := by omega
            have j1 : (j : Int) < (P.length : Int) := by omega
            obtain ⟨mm, rfl⟩ : ∃ mm : Nat, m = mm := Int.eq_ofNat_of_zero_le hp3.2.1
            have m0 : (0 : Int) ≤ (mm : Int) := by omega
            have m1 : (mm : Int) ≤ 15 := by omega
            have m2 : (mm : Int) < 16 := by omega
            have m3 : mm < 16 := by omega
            have zc := hK.cell mm m3
            rw [hc3.1] at zc
            replace zc : wr.cell? ⟨D, mm, none⟩ = some (.int .i64 d) := zc
            have zf := hK.frozen mm
            have hdz : (d == 0) = false := by simp; omega
            have hdn : decide (nw < d) = false := decide_eq_false (by omega)
            have hNw : ∀ n, Calls Try.prog 9 #[.pointer (some ⟨B, 0, none⟩)] (wr.drewN n) fun e W' => e = .returned (.int .i64 nw) ∧ W' = wr.drewN n := fun n => (hK.next (below_drewN (Below.refl _ _) n)).now
            have HT : Hid (P[j]? = some ((mm : Int), d, s)) := ht
            have hRl : D ≠ g := fun e => by
              have := (hro.lt g rfl).1
              omega
            have HRl : Hid (D ≠ g) := hRl
            clear hc3 hp3 hIl ht hRl
            go_upto_region 29 with fail
            go_quiet (first | (go_at_call 9; refine Calls.quiet_of_same (hNw _)))
            have hK4 := hK.next (below_drewN (Below.refl _ _) nq)
            have hro4 : (wr.drewN nq).ownsRow X 3 1 (.slice (some ⟨g, o2, none⟩) P.length uc) P.length (mcs P) := owns_kept hro (fun _ _ => rfl)
            obtain ⟨W4, hW4⟩ : ∃ W, wr.drewN nq = W := ⟨_, rfl⟩
            rw [hW4] at hK4 hro4 ⊢
            clear zc zf hK hro x hNw hdz hdn hW4
            have zc := hK4.cell mm m3
            have zf := hK4.frozen mm
            have hro5 : (W4.setCell ⟨D, mm, none⟩ (.int .i64 0)).ownsRow X 3 1 (.slice (some ⟨g, o2, none⟩) P.length uc) P.length (mcs P) := owns_kept hro4 (fun k hk => set_far (fun e => by
              have := (hro4.lt k hk).1
              omega) _ _)
            have hK5 : On w B D v3 (late F nw) (upd (cut F ((P.take j).map (·.1))) mm none) nw (W4.setCell ⟨D, mm, none⟩ (.int .i64 0)) := hK4.put mm m3 none
            have hpt : (P.take j).map (·.1) ++ [(mm : Int)] = (P.take (j + 1)).map (·.1) := by
              obtain ⟨hj2, e⟩ := List.getElem?_eq_some_iff.1 HT.out
              rw [List.take_succ_eq_append_getElem hj2, e, List.map_append]
              rfl
            rw [cut_snoc, hpt] at hK5
            clear hpt hK4 hro4
            go_wp2_with fail
            go_roundg (P.length - (j + 1))
            case measure => omega
            case rel => exact ⟨j + 1, by omega, by go_num, hK5, hro5⟩
          · have hjl : j = P.length := by omega
            subst hjl
            rw [List.take_length, cut_all HRI.out] at hK
            obtain ⟨G, hG⟩ : ∃ G, late F nw = G := ⟨_, rfl⟩
            have HG : Hid (late F nw = G) := hG
            clear hro
            have c0 : wr.cell? ⟨D, 0, none⟩ = some (.int .i64 (dueV (G 0))) := by rw [← hG]; exact hK.cell 0 (by decide)
            have c1 : wr.cell? ⟨D, 1, none⟩ = some (.int .i64 (dueV (G 1))) := by rw [← hG]; exact hK.cell 1 (by decide)
            have c2 : wr.cell? ⟨D, 2, none⟩ = some (.int .i64 (dueV (G 2))) := by rw [← hG]; exact hK.cell 2 (by decide)
            have c3 : wr.cell? ⟨D, 3, none⟩ = some (.int .i64 (dueV (G 3))) := by rw [← hG]; exact hK.cell 3 (by decide)
            have c4 : wr.cell? ⟨D, 4, none⟩ = some (.int .i64 (dueV (G 4))) := by rw [← hG]; exact hK.cell 4 (by decide)
            have c5 : wr.cell? ⟨D, 5, none⟩ = some (.int .i64 (dueV (G 5))) := by rw [← hG]; exact hK.cell 5 (by decide)
            have c6 : wr.cell? ⟨D, 6, none⟩ = some (.int .i64 (dueV (G 6))) := by rw [← hG]; exact hK.cell 6 (by decide)
            have c7 : wr.cell? ⟨D, 7, none⟩ = some (.int .i64 (dueV (G 7))) := by rw [← hG]; exact hK.cell 7 (by decide)
            have c8 : wr.cell? ⟨D, 8, none⟩ = some (.int .i64 (dueV (G 8))) := by rw [← hG]; exact hK.cell 8 (by decide)
            have c9 : wr.cell? ⟨D, 9, none⟩ = some (.int .i64 (dueV (G 9))) := by rw [← hG]; exact hK.cell 9 (by decide)
            have c10 : wr.cell? ⟨D, 10, none⟩ = some (.int .i64 (dueV (G 10))) := by rw [← hG]; exact hK.cell 10 (by decide)
            have c11 : wr.cell? ⟨D, 11, none⟩ = some (.int .i64 (dueV (G 11))) := by rw [← hG]; exact hK.cell 11 (by decide)
            have c12 : wr.cell? ⟨D, 12, none⟩ = some (.int .i64 (dueV (G 12))) := by rw [← hG]; exact hK.cell 12 (by decide)
            have c13 : wr.cell? ⟨D, 13, none⟩ = some (.int .i64 (dueV (G 13))) := by rw [← hG]; exact hK.cell 13 (by decide)
            have c14 : wr.cell? ⟨D, 14, none⟩ = some (.int .i64 (dueV (G 14))) := by rw [← hG]; exact hK.cell 14 (by decide)
            have c15 : wr.cell? ⟨D, 15, none⟩ = some (.int .i64 (dueV (G 15))) := by rw [← hG]; exact hK.cell 15 (by decide)
            clear hG
            go_upto_region 34 with fail
            clear c0 c1 c2 c3 c4 c5 c6 c7 c8 c9 c10 c11 c12 c13 c14 c15
            rw [dcs_lit G]
            have HK : Hid (∀ (j : Nat), j < 16 → ∀ w, (Instr.index 26 (.agg (dcs G)) (.int .i64 j)).run Try.prog w = .ok (.int .i64 (dueV (G j))) w) := fun j hj w => idx_at G j hj w
            obtain ⟨A, hA⟩ : ∃ A, dcs G = A := ⟨_, rfl⟩
            rw [hA] at HK ⊢
            clear hA
            go_loopg [138] 16 (fun gk i wr' => ∃ j : Nat, j + gk = 16 ∧ i = .int .i64 j ∧ wr' = wr)
            case atStart => exact ⟨0, rfl, rfl, rfl⟩
            case round =>
              obtain ⟨j, hj, rfl, hz⟩ := hrel
              subst hz
              by_cases hj16 : j < 16
              · have hix := HK.out j hj16
                have j0 : (0 : Int) ≤ (j : Int) := by omega
                have j1 : (j : Int) < 16 := by omega
                have hNw := hK.now
                have hcs : dueV (G j) = 0 ∨ 0 < dueV (G j) ∧ nw < dueV (G j) := by
                  rw [← HG.out]
                  cases hL : late F nw j with
                  | none => exact .inl rfl
                  | some x =>
                    obtain ⟨d, s⟩ := x
                    have h1 := HP2.out _ _ _ hL
                    have h2 := (late_some hL).2
                    exact .inr ⟨by show 0 < d; omega, h2⟩
                obtain ⟨d, hd⟩ : ∃ d, dueV (G j) = d := ⟨_, rfl⟩
                rw [hd] at hix hcs
                clear hd
                rcases hcs with rfl | ⟨h1, h2⟩
                · go_wp2_with fail
                  go_roundg (16 - (j + 1))
                  case measure => omega
                  case rel => exact ⟨j + 1, by omega, by go_num, rfl⟩
                · go_wp2_with (go_at_call 9; refine hNw.mono ?_; rintro e w9 ⟨rfl, hz⟩; subst hz)
                  go_roundg (16 - (j + 1))
                  case measure => omega
                  case rel => exact ⟨j + 1, by omega, by go_num, rfl⟩
              · have hj16 : j = 16 := by omega
                subst hj16
                clear HK
                go_wp2_with fail
                go_roundg (sl.length - (k + 1))
                case measure => omega
                case rel => exact ⟨k + 1, v3, _, nw, by omega, by go_num, hK, HP2⟩
      · have f0 : (q0 == 0) = false := by simp [e0]
        have f1 : (q0 == 1) = false := by simp [e1]
        have f2 : (q0 == 2) = false := by simp [e2]
        have f3 : (q0 == 3) = false := by simp [e3]
        have f4 : (q0 == 4) = false := by simp [e4]
        clear e0 e1 e2 e3 e4
        go_wp2_with fail
        go_roundg (sl.length - (k + 1))
        case measure => omega
        case rel => exact ⟨k + 1, v, F, now, by omega, by go_num, hK2, HP⟩
    · have hkl : k = sl.length := by omega
      subst hkl
      have hle := hK.ltB
      go_wp2_with (go_at_call 7; refine (three_any _).mono ?_; rintro e wz ⟨rfl, h9⟩)
      go_ret
      exact ⟨rfl, by rw [HB.out]; exact hK.bel.trans (h9.mono hle)⟩
end Go.Proofs.Ytemmnojcickcpab
