/- The law BellSteps, walked. -/
import Derived.Test.YtemmnojcickcpaaBfA
import Derived.Test.YtemmnojcickcpaaBeS
namespace Go.Proofs.Ytemmnojcickcpaa
open Go.RowKit
attribute [local go_sem ↓] Go.wp_at_zero Go.wp_at_succ

set_option maxRecDepth 20000 in
set_option maxHeartbeats 16000000 in
theorem bsteps_any (sl : List Stp) (va : Value) (w : World) (hs : Stl w va sl) : Calls Try.prog 8 #[va] w fun e W' => e = .returned (.bool true) ∧ Below w.heap.size w W' := by
  obtain ⟨a0, c0, rfl⟩ := hs.slice
  have hN := New_any w
  by_cases hbig : 400 < sl.length
  · have h1 : decide ((400 : Int) < sl.length) = true := by simp; omega
    clear hbig
    go_enter Try.func8, Try.ntmps8
    go_wp2_with (first
      | (go_at_call 22; refine hN.mono ?_; rintro e w1 ⟨rfl, rfl⟩)
      | (go_at_call 23; refine (three_any _).mono ?_; rintro e wz ⟨rfl, h9⟩))
    go_ret
    exact ⟨rfl, ((Below.refl _ w).alloc (Nat.le_refl _) _).trans (h9.mono (by simp))⟩
  have hq1 : decide ((400 : Int) < sl.length) = false := by simp; omega
  have hsl : sl.length ≤ 400 := by omega
  clear hbig
  have h0 := BelSt.new w w.heap.size (Nat.le_refl _)
  have hB0 : Below w.heap.size w (w.alloc (.cells #[.slice none 0 0, .int .i64 0] 75)) := (Below.refl _ w).alloc (Nat.le_refl _) _
  obtain ⟨W1, hW1⟩ : ∃ W, w.alloc (.cells #[.slice none 0 0, .int .i64 0] 75) = W := ⟨_, rfl⟩
  rw [hW1] at h0 hB0 hN
  obtain ⟨B, hB⟩ : ∃ B, w.heap.size = B := ⟨_, rfl⟩
  have HB : Hid (w.heap.size = B) := hB
  have hwB : w.heap.size ≤ B := by omega
  rw [hB] at h0 hB0 hN
  have hRN := rNew_any W1
  have hK0 : ∀ W2, RefAt W2 W1.heap.size (fun _ => none) 0 → Below W1.heap.size W1 W2 → Tb w B (.slice none 0 0) W1.heap.size (fun _ => none) 0 W2 := fun W2 hr hb =>
    ⟨⟨h0.next hb, hr, by have := h0.lt; omega, fun e => (by cases e), hB0.trans (hb.mono (Nat.le_of_lt h0.lt)), Nat.le_of_lt h0.lt⟩, by decide, by decide, fun n d s h => (by cases h)⟩
  obtain ⟨R, hR⟩ : ∃ R, W1.heap.size = R := ⟨_, rfl⟩
  rw [hR] at hRN hK0
  have HK0 : Hid (_) := hK0
  clear hB hW1 hB0 hK0 hR h0
  go_enter Try.func8, Try.ntmps8
  go_upto_region 6 with (first
    | (go_at_call 22; refine hN.mono ?_; rintro e w1 ⟨rfl, hz⟩; subst hz)
    | (go_at_call 24; refine hRN.mono ?_; rintro e w2 ⟨rfl, hr2, hb2⟩))
  have hK0 := HK0.out w2 hr2 hb2
  clear hN hRN HK0 hr2 hb2
  go_loopg [29] sl.length (fun gk i wr => ∃ (k : Nat) (v : Value) (F : Ft) (now : Int), k + gk = sl.length ∧ i = .int .i64 k ∧ Tb w B v R F now wr)
  case atStart => exact ⟨0, _, _, _, by omega, rfl, hK0⟩
  case round =>
    obtain ⟨k, v, F, now, hk, rfl, hK⟩ := hrel
    clear hK0
    by_cases hlt : k < sl.length
    · obtain ⟨⟨q0, q1, q2⟩, hq⟩ : ∃ s, sl[k]? = some s := ⟨_, List.getElem?_eq_getElem hlt⟩
      obtain ⟨b, o, rfl, hbl, x0, x1, x2⟩ := (hs.below hK.two.bel hwB).at hq
      have k0 : (0 : Int) ≤ (k : Int) := by omega
      have k1 : (k : Int) < (sl.length : Int) := by omega
      simp only at x0 x1 x2
      clear hq
      go_upto_region 8 with fail
      have hb2 : Below wr.heap.size wr (wr.alloc (.cells #[.int .i64 q0, .int .i64 q1, .int .i64 q2] 59)) := (Below.refl _ _).alloc (Nat.le_refl _) _
      have y2 := heap_alloc_new wr (.cells #[.int .i64 q0, .int .i64 q1, .int .i64 q2] 59)
      have hK2 := hK.next hb2
      have hYB : wr.heap.size ≠ B := by have := hK.two.bell.lt; omega
      have hYR : wr.heap.size ≠ R := by have := hK.two.ref.lt; omega
      have hYo : v.ownBlock ≠ some wr.heap.size := fun e => by have := (hK.two.bell.ownlt _ e).2; omega
      obtain ⟨W2, hW2⟩ : ∃ W, (wr.alloc (.cells #[.int .i64 q0, .int .i64 q1, .int .i64 q2] 59)) = W := ⟨_, rfl⟩
      rw [hW2] at y2 hK2 ⊢
      obtain ⟨Y, hY⟩ : ∃ Y, wr.heap.size = Y := ⟨_, rfl⟩
      rw [hY] at y2 hYB hYR hYo ⊢
      have hYs : Y < W2.heap.size := (Array.getElem?_eq_some_iff.1 y2).1
      have z0 := cellB y2 0 (.int .i64 q0) rfl
      have z1 := cellB y2 1 (.int .i64 q1) rfl
      have z2 := cellB y2 2 (.int .i64 q2) rfl
      have hD := does_any hK2 q0 q1 q2
      clear x0 x1 x2 hbl hb2 hW2 hY hK
      go_wp2_with fail
      refine hD.mono ?_
      rintro e w3 ⟨rfl, v3, F3, now3, hK3, hfr⟩
      have y3 := hfr Y _ hYs hYB hYR hYo y2
      clear hD hK2 y2 hYs z0 z1 z2 hYo hfr
      have z1 := cellB y3 1 (.int .i64 q1) rfl
      have hNx := Next_any hK3.two.bell
      have hRx := rNext_any hK3.two.ref
      have hDu := Due_any hK3.two.bell q1
      obtain ⟨x, hx⟩ : ∃ x, nextTo F3 16 = x := ⟨_, rfl⟩
      have HX : Hid (nextTo F3 16 = x) := hx
      rw [hx] at hRx
      clear hx
      go_wp2_with fail
      refine hNx.mono ?_
      rintro e w4 ⟨d, bb, rfl, hni, hz⟩
      subst hz
      have hnb := next_both hK3.pos hni
      rw [HX.out] at hnb
      have c0 := hK3.two.ref.now
      have hNw : ∀ n, Calls Try.prog 29 #[.pointer (some ⟨B, 0, none⟩)] (w4.drewN n) fun e W' => e = .returned (.int .i64 now3) ∧ W' = w4.drewN n := fun n => Now_any (hK3.two.next (below_drewN (Below.refl _ _) n)).bell
      have hself : (now3 == now3) = true := by simp
      clear hNx hni
      by_cases hnm : q1 < 0 ∨ 15 < q1
      · have hFn : F3 q1 = none := by
          cases hF : F3 q1 with
          | none => rfl
          | some y =>
            obtain ⟨d, s⟩ := y
            have := hK3.pos _ _ _ hF
            omega
        rw [hFn] at hDu
        replace hDu : Calls Try.prog 28 #[.pointer (some ⟨B, 0, none⟩), .int .i64 q1] w4 fun e W' => e = .returned (.tuple #[.int .i64 0, .bool false]) ∧ W' = w4 := hDu
        have hc : q1 < 0 ∨ 0 ≤ q1 ∧ 15 < q1 := by omega
        clear hFn hnm
        rcases hc with hc | ⟨hc, hc2⟩ <;> rcases hnb with ⟨rfl, rfl, hx1⟩ | ⟨rfl, rfl, rfl⟩
        · have hx0 : 0 ≤ d := by omega
          go_upto_region 16 with (first
            | (go_at_call 27; refine hRx.mono ?_; rintro e w5 ⟨rfl, hz⟩; subst hz)
            | (go_at_call 28; refine hDu.mono ?_; rintro e w5 ⟨rfl, hz⟩; subst hz))
          go_quiet (first | (go_at_call 29; refine Calls.quiet_of_same (hNw _)))
          have hK6 := hK3.next (below_drewN (Below.refl _ _) nq)
          clear hNw hRx hDu c0 z1
          go_wp2_with fail
          go_roundg (sl.length - (k + 1))
          case measure => omega
          case rel => exact ⟨k + 1, v3, F3, now3, by omega, by go_num, hK6⟩
        · go_upto_region 16 with (first
            | (go_at_call 27; refine hRx.mono ?_; rintro e w5 ⟨rfl, hz⟩; subst hz)
            | (go_at_call 28; refine hDu.mono ?_; rintro e w5 ⟨rfl, hz⟩; subst hz))
          go_quiet (first | (go_at_call 29; refine Calls.quiet_of_same (hNw _)))
          have hK6 := hK3.next (below_drewN (Below.refl _ _) nq)
          clear hNw hRx hDu c0 z1
          go_wp2_with fail
          go_roundg (sl.length - (k + 1))
          case measure => omega
          case rel => exact ⟨k + 1, v3, F3, now3, by omega, by go_num, hK6⟩
        · have hx0 : 0 ≤ d := by omega
          go_upto_region 16 with (first
            | (go_at_call 27; refine hRx.mono ?_; rintro e w5 ⟨rfl, hz⟩; subst hz)
            | (go_at_call 28; refine hDu.mono ?_; rintro e w5 ⟨rfl, hz⟩; subst hz))
          go_quiet (first | (go_at_call 29; refine Calls.quiet_of_same (hNw _)))
          have hK6 := hK3.next (below_drewN (Below.refl _ _) nq)
          clear hNw hRx hDu c0 z1
          go_wp2_with fail
          go_roundg (sl.length - (k + 1))
          case measure => omega
          case rel => exact ⟨k + 1, v3, F3, now3, by omega, by go_num, hK6⟩
        · go_upto_region 16 with (first
            | (go_at_call 27; refine hRx.mono ?_; rintro e w5 ⟨rfl, hz⟩; subst hz)
            | (go_at_call 28; refine hDu.mono ?_; rintro e w5 ⟨rfl, hz⟩; subst hz))
          go_quiet (first | (go_at_call 29; refine Calls.quiet_of_same (hNw _)))
          have hK6 := hK3.next (below_drewN (Below.refl _ _) nq)
          clear hNw hRx hDu c0 z1
          go_wp2_with fail
          go_roundg (sl.length - (k + 1))
          case measure => omega
          case rel => exact ⟨k + 1, v3, F3, now3, by omega, by go_num, hK6⟩
      · obtain ⟨n, rfl⟩ : ∃ n : Nat, q1 = n := Int.eq_ofNat_of_zero_le (by omega)
        have hn16 : n < 16 := by omega
        have n0 : (0 : Int) ≤ (n : Int) := by omega
        have n1 : (n : Int) ≤ 15 := by omega
        have n2 : (n : Int) < 16 := by omega
        have c1 := hK3.two.ref.due' n hn16
        clear hnm
        cases hF : F3 n with
        | none =>
          rw [hF] at hDu c1
          replace hDu : Calls Try.prog 28 #[.pointer (some ⟨B, 0, none⟩), .int .i64 n] w4 fun e W' => e = .returned (.tuple #[.int .i64 0, .bool false]) ∧ W' = w4 := hDu
          replace c1 : w4.cell? ⟨R, 1 + n, none⟩ = some (.int .i64 (-1)) := c1
          clear hF
          rcases hnb with ⟨rfl, rfl, hx1⟩ | ⟨rfl, rfl, rfl⟩
          · have hx0 : 0 ≤ d := by omega
            go_upto_region 15 with (first
              | (go_at_call 27; refine hRx.mono ?_; rintro e w5 ⟨rfl, hz⟩; subst hz)
              | (go_at_call 28; refine hDu.mono ?_; rintro e w5 ⟨rfl, hz⟩; subst hz))
            go_quiet (fail)
            have hK5 := hK3.next (below_drewN (Below.refl _ _) nq)
            clear hNw hRx hDu c0 z1 c1 y3
            obtain ⟨W5, hW5⟩ : ∃ W, World.drewN w5 nq = W := ⟨_, rfl⟩
            rw [hW5] at hK5 ⊢
            clear hW5 hK3
            have c0 := hK5.two.ref.now
            have hNw : ∀ n, Calls Try.prog 29 #[.pointer (some ⟨B, 0, none⟩)] (W5.drewN n) fun e W' => e = .returned (.int .i64 now3) ∧ W' = W5.drewN n := fun n => Now_any (hK5.two.next (below_drewN (Below.refl _ _) n)).bell
            go_upto_region 16 with fail
            go_quiet (first | (go_at_call 29; refine Calls.quiet_of_same (hNw _)))
            have hK6 := hK5.next (below_drewN (Below.refl _ _) nq)
            clear hNw c0
            go_wp2_with fail
            go_roundg (sl.length - (k + 1))
            case measure => omega
            case rel => exact ⟨k + 1, v3, F3, now3, by omega, by go_num, hK6⟩
          · go_upto_region 15 with (first
              | (go_at_call 27; refine hRx.mono ?_; rintro e w5 ⟨rfl, hz⟩; subst hz)
              | (go_at_call 28; refine hDu.mono ?_; rintro e w5 ⟨rfl, hz⟩; subst hz))
            go_quiet (fail)
            have hK5 := hK3.next (below_drewN (Below.refl _ _) nq)
            clear hNw hRx hDu c0 z1 c1 y3
            obtain ⟨W5, hW5⟩ : ∃ W, World.drewN w5 nq = W := ⟨_, rfl⟩
            rw [hW5] at hK5 ⊢
            clear hW5 hK3
            have c0 := hK5.two.ref.now
            have hNw : ∀ n, Calls Try.prog 29 #[.pointer (some ⟨B, 0, none⟩)] (W5.drewN n) fun e W' => e = .returned (.int .i64 now3) ∧ W' = W5.drewN n := fun n => Now_any (hK5.two.next (below_drewN (Below.refl _ _) n)).bell
            go_upto_region 16 with fail
            go_quiet (first | (go_at_call 29; refine Calls.quiet_of_same (hNw _)))
            have hK6 := hK5.next (below_drewN (Below.refl _ _) nq)
            clear hNw c0
            go_wp2_with fail
            go_roundg (sl.length - (k + 1))
            case measure => omega
            case rel => exact ⟨k + 1, v3, F3, now3, by omega, by go_num, hK6⟩
        | some y =>
          obtain ⟨at', s⟩ := y
          have hat : 0 ≤ at' := by have := hK3.pos _ _ _ hF; omega
          rw [hF] at hDu c1
          replace hDu : Calls Try.prog 28 #[.pointer (some ⟨B, 0, none⟩), .int .i64 n] w4 fun e W' => e = .returned (.tuple #[.int .i64 at', .bool true]) ∧ W' = w4 := hDu
          replace c1 : w4.cell? ⟨R, 1 + n, none⟩ = some (.int .i64 at') := c1
          clear hF
          rcases hnb with ⟨rfl, rfl, hx1⟩ | ⟨rfl, rfl, rfl⟩
          · have hx0 : 0 ≤ d := by omega
            go_upto_region 15 with (first
              | (go_at_call 27; refine hRx.mono ?_; rintro e w5 ⟨rfl, hz⟩; subst hz)
              | (go_at_call 28; refine hDu.mono ?_; rintro e w5 ⟨rfl, hz⟩; subst hz))
            go_quiet (fail)
            have hK5 := hK3.next (below_drewN (Below.refl _ _) nq)
            clear hNw hRx hDu c0 z1 c1 y3
            obtain ⟨W5, hW5⟩ : ∃ W, World.drewN w5 nq = W := ⟨_, rfl⟩
            rw [hW5] at hK5 ⊢
            clear hW5 hK3
            have c0 := hK5.two.ref.now
            have hNw : ∀ n, Calls Try.prog 29 #[.pointer (some ⟨B, 0, none⟩)] (W5.drewN n) fun e W' => e = .returned (.int .i64 now3) ∧ W' = W5.drewN n := fun n => Now_any (hK5.two.next (below_drewN (Below.refl _ _) n)).bell
            go_upto_region 16 with fail
            go_quiet (first | (go_at_call 29; refine Calls.quiet_of_same (hNw _)))
            have hK6 := hK5.next (below_drewN (Below.refl _ _) nq)
            clear hNw c0
            go_wp2_with fail
            go_roundg (sl.length - (k + 1))
            case measure => omega
            case rel => exact ⟨k + 1, v3, F3, now3, by omega, by go_num, hK6⟩
          · go_upto_region 15 with (first
              | (go_at_call 27; refine hRx.mono ?_; rintro e w5 ⟨rfl, hz⟩; subst hz)
              | (go_at_call 28; refine hDu.mono ?_; rintro e w5 ⟨rfl, hz⟩; subst hz))
            go_quiet (fail)
            have hK5 := hK3.next (below_drewN (Below.refl _ _) nq)
            clear hNw hRx hDu c0 z1 c1 y3
            obtain ⟨W5, hW5⟩ : ∃ W, World.drewN w5 nq = W := ⟨_, rfl⟩
            rw [hW5] at hK5 ⊢
            clear hW5 hK3
            have c0 := hK5.two.ref.now
            have hNw : ∀ n, Calls Try.prog 29 #[.pointer (some ⟨B, 0, none⟩)] (W5.drewN n) fun e W' => e = .returned (.int .i64 now3) ∧ W' = W5.drewN n := fun n => Now_any (hK5.two.next (below_drewN (Below.refl _ _) n)).bell
            go_upto_region 16 with fail
            go_quiet (first | (go_at_call 29; refine Calls.quiet_of_same (hNw _)))
            have hK6 := hK5.next (below_drewN (Below.refl _ _) nq)
            clear hNw c0
            go_wp2_with fail
            go_roundg (sl.length - (k + 1))
            case measure => omega
            case rel => exact ⟨k + 1, v3, F3, now3, by omega, by go_num, hK6⟩
    · have hkl : k = sl.length := by omega
      subst hkl
      have hle := hK.two.ltB
      go_wp2_with (go_at_call 23; refine (three_any _).mono ?_; rintro e wz ⟨rfl, h9⟩)
      go_ret
      exact ⟨rfl, by rw [HB.out]; exact hK.two.bel.trans (h9.mono hle)⟩
end Go.Proofs.Ytemmnojcickcpaa
