/- The document's own bell, walked: New, Set, Off, Double, Next. -/
import Derived.Test.YtemmnojcickcpaaBeU
namespace Go.Proofs.Ytemmnojcickcpaa
open Go.RowKit
attribute [local go_sem ↓] Go.wp_at_zero Go.wp_at_succ

/-- The cells of the document's bell. -/
structure Rcs (cs : Array Value) (F : Ft) (now : Int) : Prop where
  size : cs.size = 33
  now : cs[0]? = some (.int .i64 now)
  due : ∀ n : Nat, n < 16 → cs[n + 1]? = some (.int .i64 (rdue (F n)))
  span : ∀ n : Nat, n < 16 → ∃ s, cs[n + 17]? = some (.int .i64 s) ∧ ∀ d s', F n = some (d, s') → s = s'
/-- The document's bell at R. -/
def RefAt (w : World) (R : Nat) (F : Ft) (now : Int) : Prop := ∃ cs, w.heap[R]? = some (.cells cs 66) ∧ Rcs cs F now
theorem RefAt.lt {w : World} {R : Nat} {F : Ft} {now : Int} (h : RefAt w R F now) : R < w.heap.size := by
  obtain ⟨cs, h, _⟩ := h
  exact (Array.getElem?_eq_some_iff.1 h).1
theorem RefAt.keep {w w' : World} {R : Nat} {F : Ft} {now : Int} (h : RefAt w R F now) (hk : w'.heap[R]? = w.heap[R]?) : RefAt w' R F now := by
  obtain ⟨cs, h, h2⟩ := h
  exact ⟨cs, hk.trans h, h2⟩
theorem RefAt.now {w : World} {R : Nat} {F : Ft} {now : Int} (h : RefAt w R F now) : w.cell? ⟨R, 0, none⟩ = some (.int .i64 now) := by
  obtain ⟨cs, h, h2⟩ := h
  exact cellB h 0 _ h2.now
theorem RefAt.due {w : World} {R : Nat} {F : Ft} {now : Int} (h : RefAt w R F now) (n : Nat) (hn : n < 16) : w.cell? ⟨R, n + 1, none⟩ = some (.int .i64 (rdue (F n))) := by
  obtain ⟨cs, h, h2⟩ := h
  exact cellB h _ _ (h2.due n hn)
theorem RefAt.due' {w : World} {R : Nat} {F : Ft} {now : Int} (h : RefAt w R F now) (n : Nat) (hn : n < 16) : w.cell? ⟨R, 1 + n, none⟩ = some (.int .i64 (rdue (F n))) := by
  rw [Nat.add_comm]; exact h.due n hn
theorem RefAt.span {w : World} {R : Nat} {F : Ft} {now : Int} (h : RefAt w R F now) (n : Nat) (hn : n < 16) : ∃ s, w.cell? ⟨R, 17 + n, none⟩ = some (.int .i64 s) ∧ ∀ d s', F n = some (d, s') → s = s' := by
  obtain ⟨cs, h, h2⟩ := h
  obtain ⟨s, h3, h4⟩ := h2.span n hn
  exact ⟨s, cellB h _ _ (by rw [Nat.add_comm]; exact h3), h4⟩
theorem RefAt.frozen {w : World} {R : Nat} {F : Ft} {now : Int} (h : RefAt w R F now) (k : Nat) : w.frozen? ⟨R, k, none⟩ = false := by
  obtain ⟨cs, h, _⟩ := h
  exact frozenB h k
/-- Nothing but one block is another. -/
abbrev MovR (R : Nat) (w w' : World) : Prop := Moved R (.slice none 0 0) (.slice none 0 0) w w'
theorem movR_set (w : World) (R k : Nat) (x : Value) : MovR R w (w.setCell ⟨R, k, none⟩ x) := ⟨rfl, rfl, rfl, by simp [World.setCell], fun i _ h1 _ => set_far h1 _ _, fun i hi => .inl hi⟩
theorem movR_drew {R : Nat} {w w' : World} (h : MovR R w w') : MovR R w w'.drew := ⟨h.os, h.tape, h.output, h.size, h.block, h.own⟩
theorem RefAt.off {w : World} {R : Nat} {F : Ft} {now : Int} (h : RefAt w R F now) (n : Nat) (hn : n < 16) : RefAt (w.setCell ⟨R, 1 + n, none⟩ (.int .i64 (-1))) R (upd F n none) now := by
  obtain ⟨cs, h, h2⟩ := h
  refine ⟨_, setB h _ _, ?_⟩
  refine ⟨by rw [Array.size_setIfInBounds]; exact h2.size, ?_, fun m hm => ?_, fun m hm => ?_⟩
  · rw [Array.getElem?_setIfInBounds, if_neg (by omega)]; exact h2.now
  · rw [Array.getElem?_setIfInBounds]
    by_cases e : n = m
    · subst e
      rw [if_pos (by omega), if_pos (by rw [h2.size]; omega), upd_at]; rfl
    · rw [if_neg (by omega), h2.due m hm]
      unfold upd
      rw [if_neg (by omega)]
  · rw [Array.getElem?_setIfInBounds, if_neg (by omega)]
    obtain ⟨s, h3, h4⟩ := h2.span m hm
    refine ⟨s, h3, fun d s' hF => ?_⟩
    unfold upd at hF
    split at hF
    · cases hF
    · exact h4 d s' hF
theorem RefAt.set {w : World} {R : Nat} {F : Ft} {now : Int} (h : RefAt w R F now) (n : Nat) (hn : n < 16) (d s : Int) : RefAt ((w.setCell ⟨R, 1 + n, none⟩ (.int .i64 d)).setCell ⟨R, 17 + n, none⟩ (.int .i64 s)) R (upd F n (some (d, s))) now := by
  obtain ⟨cs, h, h2⟩ := h
  refine ⟨_, setB (setB h _ _) _ _, ?_⟩
  refine ⟨by rw [Array.size_setIfInBounds, Array.size_setIfInBounds]; exact h2.size, ?_, fun m hm => ?_, fun m hm => ?_⟩
  · rw [Array.getElem?_setIfInBounds, if_neg (by omega), Array.getElem?_setIfInBounds, if_neg (by omega)]; exact h2.now
  · rw [Array.getElem?_setIfInBounds, if_neg (by omega), Array.getElem?_setIfInBounds]
    by_cases e : n = m
    · subst e
      rw [if_pos (by omega), if_pos (by rw [h2.size]; omega), upd_at]; rfl
    · rw [if_neg (by omega), h2.due m hm]
      unfold upd
      rw [if_neg (by omega)]
  · by_cases e : n = m
    · subst e
      refine ⟨s, ?_, fun d' s' hF => ?_⟩
      · rw [Array.getElem?_setIfInBounds, if_pos (by omega), if_pos (by rw [Array.size_setIfInBounds, h2.size]; omega)]
      · rw [upd_at] at hF; injection hF with hF; injection hF
    · obtain ⟨s0, h3, h4⟩ := h2.span m hm
      refine ⟨s0, ?_, fun d' s' hF => ?_⟩
      · rw [Array.getElem?_setIfInBounds, if_neg (by omega), Array.getElem?_setIfInBounds, if_neg (by omega)]; exact h3
      · unfold upd at hF
        rw [if_neg (by omega)] at hF
        exact h4 d' s' hF
theorem RefAt.tick {w : World} {R : Nat} {F : Ft} {now : Int} (h : RefAt w R F now) (t : Int) : RefAt (w.setCell ⟨R, 0, none⟩ (.int .i64 t)) R F t := by
  obtain ⟨cs, h, h2⟩ := h
  refine ⟨_, setB h _ _, ?_⟩
  refine ⟨by rw [Array.size_setIfInBounds]; exact h2.size, ?_, fun m hm => ?_, fun m hm => ?_⟩
  · rw [Array.getElem?_setIfInBounds, if_pos rfl, if_pos (by rw [h2.size]; omega)]
  · rw [Array.getElem?_setIfInBounds, if_neg (by omega)]; exact h2.due m hm
  · rw [Array.getElem?_setIfInBounds, if_neg (by omega)]; exact h2.span m hm

theorem RefAt.span_set {w : World} {R : Nat} {F : Ft} {now : Int} (h : RefAt w R F now) (n : Nat) (hn : n < 16) (x : Value) : (∃ s, (w.setCell ⟨R, 1 + n, none⟩ x).cell? ⟨R, 17 + n, none⟩ = some (.int .i64 s)) ∧ (w.setCell ⟨R, 1 + n, none⟩ x).frozen? ⟨R, 17 + n, none⟩ = false := by
  obtain ⟨cs, h, h2⟩ := h
  have hb := setB h (1 + n) x
  obtain ⟨s, h3, _⟩ := h2.span n hn
  exact ⟨⟨s, cellB hb _ _ (by rw [Array.getElem?_setIfInBounds, if_neg (by omega), Nat.add_comm]; exact h3)⟩, frozenB hb _⟩
theorem named_any (n : Int) (w : World) : Calls Try.prog 48 #[.int .i64 n] w fun e W' => e = .returned (.bool (nameB n)) ∧ W' = w := by
  by_cases h1 : 0 ≤ n
  · by_cases h2 : n ≤ 15
    · rw [show nameB n = true by simp [nameB]; omega]
      go_enter Try.func48, Try.ntmps48
      go_wp2
      go_ret
      exact ⟨rfl, rfl⟩
    · rw [show nameB n = false by simp [nameB]; omega]
      go_enter Try.func48, Try.ntmps48
      go_wp2
      go_ret
      exact ⟨rfl, rfl⟩
  · rw [show nameB n = false by simp [nameB]; omega]
    go_enter Try.func48, Try.ntmps48
    go_wp2
    go_ret
    exact ⟨rfl, rfl⟩
set_option maxRecDepth 20000 in
set_option maxHeartbeats 2000000 in
theorem rSet_bad (R : Nat) (n s : Int) (w : World) (hb : nameB n = false ∨ nameB n = true ∧ (s < 1 ∨ 1 ≤ s ∧ 4096 < s)) : Calls Try.prog 37 #[.pointer (some ⟨R, 0, none⟩), .int .i64 n, .int .i64 s] w fun e W' => e = .returned (.int .i64 1) ∧ W' = w := by
  have hN := named_any n w
  rcases hb with h | ⟨h, h2 | ⟨h2, h3⟩⟩
  all_goals
    rw [h] at hN
    go_enter Try.func37, Try.ntmps37
    go_wp2_with (go_at_call 48; refine hN.mono ?_; rintro e w1 ⟨rfl, hz⟩; subst hz)
    go_ret
    exact ⟨rfl, rfl⟩
set_option maxRecDepth 20000 in
set_option maxHeartbeats 4000000 in
theorem rSet_ok {w : World} {R : Nat} {F : Ft} {now : Int} (h : RefAt w R F now) (n : Nat) (s : Int) (hn : n < 16) (h1 : 1 ≤ s) (h2 : s ≤ 4096) (hw0 : 0 ≤ now) (hw1 : now ≤ 1099511627776) :
    Calls Try.prog 37 #[.pointer (some ⟨R, 0, none⟩), .int .i64 n, .int .i64 s] w fun e W' => e = .returned (.int .i64 0) ∧ RefAt W' R (upd F n (some (now + s, s))) now ∧ MovR R w W' := by
  have hN := named_any n w
  rw [show nameB n = true by simp [nameB]; omega] at hN
  have n0 : (0 : Int) ≤ (n : Int) := by omega
  have n1 : (n : Int) < 16 := by omega
  obtain ⟨q, hq⟩ : ∃ q, now + s = q := ⟨_, rfl⟩
  have hwr : IntKind.i64.wrap (now + s) = q := by rw [wrap_id8 _ (by omega) (by omega), hq]
  rw [hq]
  have c0 := h.now
  have f0 := h.frozen (1 + n)
  have c1 := h.due' n hn
  have HS : Hid (RefAt ((w.setCell ⟨R, 1 + n, none⟩ (.int .i64 q)).setCell ⟨R, 17 + n, none⟩ (.int .i64 s)) R (upd F n (some (q, s))) now) := h.set n hn q s
  have HM : Hid (MovR R w ((w.setCell ⟨R, 1 + n, none⟩ (.int .i64 q)).setCell ⟨R, 17 + n, none⟩ (.int .i64 s))) := (movR_set w R (1 + n) _).trans (movR_set _ R (17 + n) _)
  obtain ⟨⟨s0, hss⟩, hsf⟩ := h.span_set n hn (.int .i64 q)
  clear hq
  go_enter Try.func37, Try.ntmps37
  go_upto_region 3 with (go_at_call 48; refine hN.mono ?_; rintro e w1 ⟨rfl, hz⟩; subst hz)
  go_region
  all_goals
    obtain ⟨W3, hW3⟩ : ∃ W, w1.setCell ⟨R, 1 + n, none⟩ (.int .i64 q) = W := ⟨_, rfl⟩
    rw [hW3] at HS HM hss hsf ⊢
    clear hW3 c0 c1 f0 hwr hN h
    go_wp2
    go_ret
    exact ⟨rfl, HS.out, movR_drew HM.out⟩
set_option maxRecDepth 20000 in
set_option maxHeartbeats 2000000 in
theorem rOff_bad (R : Nat) (n : Int) (w : World) (h : nameB n = false) : Calls Try.prog 39 #[.pointer (some ⟨R, 0, none⟩), .int .i64 n] w fun e W' => e = .returned (.tuple #[.bool false, .int .i64 1]) ∧ W' = w := by
  have hN := named_any n w
  rw [h] at hN
  go_enter Try.func39, Try.ntmps39
  go_wp2_with (go_at_call 48; refine hN.mono ?_; rintro e w1 ⟨rfl, hz⟩; subst hz)
  go_ret2
  exact ⟨rfl, rfl⟩
theorem rdue_some {F : Ft} (hp : Pos F) (n : Int) : decide (0 ≤ rdue (F n)) = (F n).isSome := by
  cases hF : F n with
  | none => rfl
  | some x =>
    obtain ⟨d, s⟩ := x
    have := (hp _ _ _ hF).1
    exact decide_eq_true (show 0 ≤ d by omega)
set_option maxRecDepth 20000 in
set_option maxHeartbeats 2000000 in
theorem rOff_ok {w : World} {R : Nat} {F : Ft} {now : Int} (h : RefAt w R F now) (hp : Pos F) (n : Nat) (hn : n < 16) :
    Calls Try.prog 39 #[.pointer (some ⟨R, 0, none⟩), .int .i64 n] w fun e W' => e = .returned (.tuple #[.bool (F n).isSome, .int .i64 0]) ∧ RefAt W' R (upd F n none) now ∧ MovR R w W' := by
  have hN := named_any n w
  rw [show nameB n = true by simp [nameB]; omega] at hN
  have n0 : (0 : Int) ≤ (n : Int) := by omega
  have n1 : (n : Int) < 16 := by omega
  have hr := rdue_some hp n
  have c1 := h.due' n hn
  obtain ⟨r, hre⟩ : ∃ r, rdue (F n) = r := ⟨_, rfl⟩
  obtain ⟨b, hbe⟩ : ∃ b, (F n).isSome = b := ⟨_, rfl⟩
  rw [hre] at hr c1
  rw [hbe] at hr ⊢
  have f0 := h.frozen (1 + n)
  have HS : Hid (RefAt (w.setCell ⟨R, 1 + n, none⟩ (.int .i64 (-1))) R (upd F n none) now) := h.off n hn
  have HM : Hid (MovR R w (w.setCell ⟨R, 1 + n, none⟩ (.int .i64 (-1)))) := movR_set w R (1 + n) _
  clear hre hbe h
  go_enter Try.func39, Try.ntmps39
  go_wp2_with (go_at_call 48; refine hN.mono ?_; rintro e w1 ⟨rfl, hz⟩; subst hz)
  go_ret2
  exact ⟨rfl, HS.out, HM.out⟩
set_option maxRecDepth 20000 in
set_option maxHeartbeats 2000000 in
theorem rDouble_bad (R : Nat) (n : Int) (w : World) (h : nameB n = false) : Calls Try.prog 41 #[.pointer (some ⟨R, 0, none⟩), .int .i64 n] w fun e W' => e = .returned (.tuple #[.int .i64 0, .int .i64 1]) ∧ W' = w := by
  have hN := named_any n w
  rw [h] at hN
  go_enter Try.func41, Try.ntmps41
  go_wp2_with (go_at_call 48; refine hN.mono ?_; rintro e w1 ⟨rfl, hz⟩; subst hz)
  go_ret2
  exact ⟨rfl, rfl⟩
set_option maxRecDepth 20000 in
set_option maxHeartbeats 2000000 in
theorem rDouble_no {w : World} {R : Nat} {F : Ft} {now : Int} (h : RefAt w R F now) (n : Nat) (hn : n < 16) (hF : F n = none) :
    Calls Try.prog 41 #[.pointer (some ⟨R, 0, none⟩), .int .i64 n] w fun e W' => e = .returned (.tuple #[.int .i64 0, .int .i64 6]) ∧ W' = w := by
  have hN := named_any n w
  rw [show nameB n = true by simp [nameB]; omega] at hN
  have n0 : (0 : Int) ≤ (n : Int) := by omega
  have n1 : (n : Int) < 16 := by omega
  have c1 := h.due' n hn
  rw [hF] at c1
  replace c1 : w.cell? ⟨R, 1 + n, none⟩ = some (.int .i64 (-1)) := c1
  clear hF h
  go_enter Try.func41, Try.ntmps41
  go_wp2_with (go_at_call 48; refine hN.mono ?_; rintro e w1 ⟨rfl, hz⟩; subst hz)
  go_ret2
  exact ⟨rfl, rfl⟩
set_option maxRecDepth 20000 in
set_option maxHeartbeats 2000000 in
theorem rDouble_ok {w : World} {R : Nat} {F : Ft} {now : Int} (h : RefAt w R F now) (hp : Pos F) (n : Nat) (hn : n < 16) (d s : Int) (hF : F n = some (d, s)) (hw0 : 0 ≤ now) (hw1 : now ≤ 1099511627776) :
    Calls Try.prog 41 #[.pointer (some ⟨R, 0, none⟩), .int .i64 n] w fun e W' => e = .returned (.tuple #[.int .i64 (twice s), .int .i64 0]) ∧ RefAt W' R (upd F n (some (now + twice s, twice s))) now ∧ MovR R w W' := by
  have hN := named_any n w
  rw [show nameB n = true by simp [nameB]; omega] at hN
  have n0 : (0 : Int) ≤ (n : Int) := by omega
  have n1 : (n : Int) < 16 := by omega
  have hpp := hp _ _ _ hF
  have d0 : 0 ≤ d := by omega
  have c1 := h.due' n hn
  rw [hF] at c1
  replace c1 : w.cell? ⟨R, 1 + n, none⟩ = some (.int .i64 d) := c1
  obtain ⟨s0, c2, hs0⟩ := h.span n hn
  have e := hs0 d s hF
  subst e
  have hS := rSet_ok h n (twice s0) hn (by unfold twice; split <;> omega) (by unfold twice; split <;> omega) hw0 hw1
  obtain ⟨T, hT⟩ : ∃ T, twice s0 = T := ⟨_, rfl⟩
  rw [hT] at hS ⊢
  have s1 := hpp.2.2.2.1
  have s2 := hpp.2.2.2.2
  by_cases h2 : 2 * s0 ≤ 4096
  · have e : 2 * s0 = T := by rw [← hT]; unfold twice; rw [if_pos h2]
    have hq : decide (4096 < T) = false := decide_eq_false (by omega)
    clear hs0 hF h hpp hT h2
    go_enter Try.func41, Try.ntmps41
    go_wp2_with (first
      | (go_at_call 48; refine hN.mono ?_; rintro e w1 ⟨rfl, hz⟩; subst hz)
      | (go_at_call 37; refine hS.mono ?_; rintro e w2 ⟨rfl, h2, hm2⟩))
    go_ret2
    exact ⟨rfl, h2, hm2⟩
  · have e : (4096 : Int) = T := by rw [← hT]; unfold twice; rw [if_neg h2]
    subst e
    have hq : decide (4096 < 2 * s0) = true := decide_eq_true (by omega)
    clear hs0 hF h hpp hT h2
    go_enter Try.func41, Try.ntmps41
    go_wp2_with (first
      | (go_at_call 48; refine hN.mono ?_; rintro e w1 ⟨rfl, hz⟩; subst hz)
      | (go_at_call 37; refine hS.mono ?_; rintro e w2 ⟨rfl, h2, hm2⟩))
    go_ret2
    exact ⟨rfl, h2, hm2⟩
set_option maxRecDepth 20000 in
set_option maxHeartbeats 4000000 in
theorem rNext_any {w : World} {R : Nat} {F : Ft} {now : Int} (h : RefAt w R F now) : Calls Try.prog 27 #[.pointer (some ⟨R, 0, none⟩)] w fun e W' => e = .returned (.int .i64 (nextTo F 16)) ∧ W' = w := by
  go_enter Try.func27, Try.ntmps27
  go_wp2_with fail
  go_loop [3, 4] (fun x i => ∃ k : Nat, k ≤ 16 ∧ x = .int .i64 (nextTo F k) ∧ i = .int .i64 k) (fun _ i => 16 - (intOf i).toNat)
  case atStart => exact ⟨0, Nat.zero_le _, rfl, rfl⟩
  case round =>
    obtain ⟨k, hk, rfl, rfl⟩ := hrel
    by_cases hlt : k < 16
    · have k0 : (0 : Int) ≤ (k : Int) := by omega
      have k1 : (k : Int) < 16 := by omega
      have c1 := h.due' k hlt
      have hn : nextTo F (k + 1) = if 0 ≤ rdue (F k) ∧ (nextTo F k < 0 ∨ rdue (F k) < nextTo F k) then rdue (F k) else nextTo F k := rfl
      obtain ⟨r, hr⟩ : ∃ r, rdue (F k) = r := ⟨_, rfl⟩
      obtain ⟨x, hx⟩ : ∃ r, nextTo F k = r := ⟨_, rfl⟩
      rw [hr] at c1 hn
      rw [hx] at hn ⊢
      by_cases h1 : 0 ≤ r
      · by_cases h2 : x < 0
        · have HR : Hid (nextTo F (k + 1) = r) := by show _ = _; rw [hn, if_pos ⟨h1, .inl h2⟩]
          clear hn hr hx
          go_wp2
          go_round
          case rel => exact ⟨k + 1, by omega, by rw [HR.out], by go_num⟩
          case measure => simp [intOf]; omega
        · by_cases h3 : r < x
          · have HR : Hid (nextTo F (k + 1) = r) := by show _ = _; rw [hn, if_pos ⟨h1, .inr h3⟩]
            have h2' : 0 ≤ x := by omega
            clear hn hr hx h2
            go_wp2
            go_round
            case rel => exact ⟨k + 1, by omega, by rw [HR.out], by go_num⟩
            case measure => simp [intOf]; omega
          · have HR : Hid (nextTo F (k + 1) = x) := by show _ = _; rw [hn, if_neg (by omega)]
            have h2' : 0 ≤ x := by omega
            have h3' : x ≤ r := by omega
            clear hn hr hx h2 h3
            go_wp2
            go_round
            case rel => exact ⟨k + 1, by omega, by rw [HR.out], by go_num⟩
            case measure => simp [intOf]; omega
      · have HR : Hid (nextTo F (k + 1) = x) := by show _ = _; rw [hn, if_neg (by omega)]
        have h1' : r < 0 := by omega
        clear hn hr hx h1
        go_wp2
        go_round
        case rel => exact ⟨k + 1, by omega, by rw [HR.out], by go_num⟩
        case measure => simp [intOf]; omega
    · have hk16 : k = 16 := by omega
      subst hk16
      obtain ⟨x, hx⟩ : ∃ r, nextTo F 16 = r := ⟨_, rfl⟩
      have HX : Hid (nextTo F 16 = x) := hx
      rw [hx]
      clear hx
      go_wp2
      go_ret
      exact ⟨by rw [HX.out]; rfl, rfl⟩
end Go.Proofs.Ytemmnojcickcpaa
