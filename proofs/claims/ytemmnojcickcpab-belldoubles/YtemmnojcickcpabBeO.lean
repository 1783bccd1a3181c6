/- The law BellDoubles, walked. -/
import Derived.Test.YtemmnojcickcpabBeL
namespace Go.Proofs.Ytemmnojcickcpab
open Go.RowKit
attribute [local go_sem ↓] Go.wp_at_zero Go.wp_at_succ

/-- One timer: the seventh. -/
def F7 (s : Int) : Ft := upd (fun _ => none) 7 (some (s, s))
theorem F7_at (s : Int) : F7 s 7 = some (s, s) := by simp [F7, upd]
theorem F7_upd (s t : Int) : upd (F7 s) 7 (some (0 + t, t)) = F7 t := by
  funext n
  by_cases h : n = 7 <;> simp [F7, upd, h]
theorem F7_late (s : Int) (h : 1 ≤ s) : late (F7 s) (0 + 0) = F7 s := by
  funext n
  by_cases hn : n = 7
  · subst hn
    simp [late, F7, upd]; omega
  · simp [late, F7, upd, hn]
/-- The bell of one timer. -/
def One (B : Nat) (w : World) (s : Int) : Prop := ∃ v, BelSt B w B v (F7 s) 0
theorem One.double {B : Nat} {w : World} {s : Int} (h : One B w s) : Calls Try.prog 11 #[.pointer (some ⟨B, 0, none⟩), .int .i64 7] w fun e W' => e = .returned (.tuple #[.int .i64 (twice s), .int .i64 0]) ∧ One B W' (twice s) ∧ Below B w W' := by
  obtain ⟨v, h⟩ := h
  refine (Double_ok h 7 s s (by decide) (F7_at s) (by decide) (by decide)).mono ?_
  rintro e W' ⟨he, v', h2, hm⟩
  rw [F7_upd] at h2
  exact ⟨he, ⟨v', h2⟩, h.bel hm (Nat.le_refl _)⟩
theorem One.due {B : Nat} {w : World} {s : Int} (h : One B w s) : Calls Try.prog 13 #[.pointer (some ⟨B, 0, none⟩), .int .i64 7] w fun e W' => e = .returned (.tuple #[.int .i64 s, .bool true]) ∧ W' = w := by
  obtain ⟨v, h⟩ := h
  have := Due_any h 7
  rw [F7_at] at this
  exact this
theorem One.now {B : Nat} {w : World} {s : Int} (h : One B w s) : Calls Try.prog 9 #[.pointer (some ⟨B, 0, none⟩)] w fun e W' => e = .returned (.int .i64 0) ∧ W' = w := by
  obtain ⟨v, h⟩ := h
  exact Now_any h
theorem One.tick {B : Nat} {w : World} {s : Int} (h : One B w s) (hs : 1 ≤ s) : Calls Try.prog 12 #[.pointer (some ⟨B, 0, none⟩), .int .i64 0] w fun e W' => ∃ u, e = .returned (.tuple #[u, .int .i64 0]) ∧ One B W' s ∧ Below B w W' := by
  obtain ⟨v, h⟩ := h
  refine (Tick_ok h 0 (by decide) (by decide) (by decide) (by decide)).mono ?_
  rintro e W' ⟨u, P, v', he, _, _, h2, hm⟩
  rw [F7_late s hs] at h2
  exact ⟨u, he, ⟨v', h2⟩, h.bel hm (Nat.le_refl _)⟩
theorem twice_in (s : Int) (h1 : 1 ≤ s) (h2 : s ≤ 4096) : 1 ≤ twice s ∧ twice s ≤ 4096 := by unfold twice; split <;> omega
set_option maxRecDepth 20000 in
set_option maxHeartbeats 4000000 in
theorem doubles_any (span times : Int) (w : World) : Calls Try.prog 4 #[.int .i64 span, .int .i64 times] w fun e W' => e = .returned (.bool true) ∧ Below w.heap.size w W' := by
  have hN := New_any w
  have h0 := BelSt.new w w.heap.size (Nat.le_refl _)
  have hB0 : Below w.heap.size w (w.alloc (.cells #[.slice none 0 0, .int .i64 0] 47)) := (Below.refl _ w).alloc (Nat.le_refl _) _
  obtain ⟨W1, hW1⟩ : ∃ W, w.alloc (.cells #[.slice none 0 0, .int .i64 0] 47) = W := ⟨_, rfl⟩
  rw [hW1] at h0 hB0 hN
  obtain ⟨B, hB⟩ : ∃ B, w.heap.size = B := ⟨_, rfl⟩
  have HB : Hid (w.heap.size = B) := hB
  rw [hB] at h0 hB0 hN
  rw [hB]
  clear hW1 hB
  have hsz : B ≤ W1.heap.size := Nat.le_of_lt h0.lt
  by_cases hm : times < 0 ∨ 100 < times
  · have hc : times < 0 ∨ 0 ≤ times ∧ 100 < times := by omega
    clear hm
    rcases hc with hc | ⟨hc, hc2⟩
    all_goals
      go_enter Try.func4, Try.ntmps4
      go_wp2_with (first
        | (go_at_call 6; refine hN.mono ?_; rintro e w1 ⟨rfl, hz⟩; subst hz)
        | (go_at_call 7; refine (three_any _).mono ?_; rintro e wz ⟨rfl, h9⟩))
      go_ret
      exact ⟨rfl, hB0.trans (h9.mono hsz)⟩
  have hm0 : 0 ≤ times := by omega
  have hm1 : times ≤ 100 := by omega
  clear hm
  by_cases hs : span < 1 ∨ 4096 < span
  · have hc : span < 1 ∨ 1 ≤ span ∧ 4096 < span := by omega
    clear hs
    rcases hc with hc | ⟨hc, hc2⟩
    all_goals
      have hS := Set_bad (some ⟨B, 0, none⟩) 7 span W1 (.inr ⟨by decide, by omega⟩)
      go_enter Try.func4, Try.ntmps4
      go_wp2_with (first
        | (go_at_call 6; refine hN.mono ?_; rintro e w1 ⟨rfl, hz⟩; subst hz)
        | (go_at_call 8; refine hS.mono ?_; rintro e w1 ⟨rfl, hz⟩; subst hz)
        | (go_at_call 7; refine (three_any _).mono ?_; rintro e wz ⟨rfl, h9⟩))
      go_ret
      exact ⟨rfl, hB0.trans (h9.mono hsz)⟩
  have hs0 : 1 ≤ span := by omega
  have hs1 : span ≤ 4096 := by omega
  clear hs
  have hS := Set_ok h0 7 span (by decide) hs0 hs1 (by decide) (by decide)
  go_enter Try.func4, Try.ntmps4
  go_upto_region 8 with (first
    | (go_at_call 6; refine hN.mono ?_; rintro e w1 ⟨rfl, hz⟩; subst hz)
    | (go_at_call 8; refine hS.mono ?_; rintro e w2 ⟨rfl, v2, h2, hm2⟩))
  have hB2 := hB0.trans (h0.bel hm2 (Nat.le_refl _))
  have hO : One B w2 span := ⟨v2, by have e : F7 span = upd (fun _ => none) 7 (some (0 + span, span)) := by rw [Int.zero_add]; rfl
                                     rw [e]; exact h2⟩
  clear hN hS h0 hB0 hsz hm2 h2
  go_loopg [6, 7] times.toNat (fun gk x i wr => ∃ (k : Nat) (s : Int), k + gk = times.toNat ∧ x = .int .i64 s ∧ i = .int .i64 k ∧ 1 ≤ s ∧ s ≤ 4096 ∧ One B wr s ∧ Below B w wr)
  case atStart => exact ⟨0, span, by omega, rfl, rfl, hs0, hs1, hO, hB2⟩
  case round =>
    obtain ⟨k, s, hk, rfl, rfl, s1, s2, h, hB⟩ := hrel
    clear hs0 hs1 hO hB2
    by_cases hlt : k < times.toNat
    · have k1 : (k : Int) < times := by omega
      have k0 : (0 : Int) ≤ (k : Int) := by omega
      have hD := h.double
      obtain ⟨T, hT⟩ : ∃ T, twice s = T := ⟨_, rfl⟩
      have ht := twice_in s s1 s2
      rw [hT] at hD ht
      have hself : (T == T) = true := by simp
      by_cases h2 : 2 * s ≤ 4096
      · have e : 2 * s = T := by rw [← hT]; unfold twice; rw [if_pos h2]
        have hq : decide (4096 < T) = false := decide_eq_false (by omega)
        clear h2 hT
        go_wp2_with (first
          | (go_at_call 11; refine hD.mono ?_; rintro e w2 ⟨rfl, h2, hb2⟩)
          | (go_at_call 13; refine h2.due.mono ?_; rintro e w3 ⟨rfl, hz⟩; subst hz)
          | (go_at_call 9; refine h2.now.mono ?_; rintro e w3 ⟨rfl, hz⟩; subst hz)
          | (go_at_call 12; refine (h2.tick ht.1).mono ?_; rintro e w3 ⟨u, rfl, h3, hb3⟩))
        go_roundg (times.toNat - (k + 1))
        case measure => omega
        case rel => exact ⟨k + 1, T, by omega, rfl, by go_num, ht.1, ht.2, h3, (hB.trans hb2).trans hb3⟩
      · have e : (4096 : Int) = T := by rw [← hT]; unfold twice; rw [if_neg h2]
        subst e
        have hq : decide (4096 < 2 * s) = true := decide_eq_true (by omega)
        clear h2 hT
        go_wp2_with (first
          | (go_at_call 11; refine hD.mono ?_; rintro e w2 ⟨rfl, h2, hb2⟩)
          | (go_at_call 13; refine h2.due.mono ?_; rintro e w3 ⟨rfl, hz⟩; subst hz)
          | (go_at_call 9; refine h2.now.mono ?_; rintro e w3 ⟨rfl, hz⟩; subst hz)
          | (go_at_call 12; refine (h2.tick ht.1).mono ?_; rintro e w3 ⟨u, rfl, h3, hb3⟩))
        go_roundg (times.toNat - (k + 1))
        case measure => omega
        case rel => exact ⟨k + 1, 4096, by omega, rfl, by go_num, ht.1, ht.2, h3, (hB.trans hb2).trans hb3⟩
    · have hk2 : times ≤ (k : Int) := by omega
      have hle : B ≤ _ := Nat.le_of_lt (h.choose_spec.lt)
      go_wp2_with (go_at_call 7; refine (three_any _).mono ?_; rintro e wz ⟨rfl, h9⟩)
      go_ret
      exact ⟨rfl, hB.trans (h9.mono hle)⟩
end Go.Proofs.Ytemmnojcickcpab
