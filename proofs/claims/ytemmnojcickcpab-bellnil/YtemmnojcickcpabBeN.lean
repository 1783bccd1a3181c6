/- The law BellNil, walked. -/
import Derived.Test.YtemmnojcickcpabBeL
namespace Go.Proofs.Ytemmnojcickcpab
open Go.RowKit
attribute [local go_sem ↓] Go.wp_at_zero Go.wp_at_succ

/-- What a nil bell answers to a name: Off's and Double's. -/
def NilName (n e f : Int) : Prop := ∀ w, (Calls Try.prog 10 #[.pointer none, .int .i64 n] w fun r W' => r = .returned (.tuple #[.bool false, .int .i64 e]) ∧ W' = w) ∧ Calls Try.prog 11 #[.pointer none, .int .i64 n] w fun r W' => r = .returned (.tuple #[.int .i64 0, .int .i64 f]) ∧ W' = w
def NilTick (n g : Int) : Prop := ∀ w, Calls Try.prog 12 #[.pointer none, .int .i64 n] w fun r W' => r = .returned (.tuple #[.slice none 0 0, .int .i64 g]) ∧ W' = w
def NilSet (n s g : Int) : Prop := ∀ w, Calls Try.prog 8 #[.pointer none, .int .i64 n, .int .i64 s] w fun r W' => r = .returned (.int .i64 g) ∧ W' = w
theorem nilName_bad (n : Int) (h : nameB n = false) : NilName n 1 1 := fun w => ⟨Off_bad _ n w h, Double_bad _ n w h⟩
theorem nilName_ok (n : Int) (h : nameB n = true) : NilName n 0 6 := fun w => ⟨Off_nil n w h, Double_nil n w h⟩
set_option maxRecDepth 20000 in
set_option maxHeartbeats 8000000 in
theorem nil_no1 (name n : Int) (w : World) (h1 : name < 0) : Calls Try.prog 5 #[.int .i64 name, .int .i64 n] w fun e W' => e = .returned (.bool true) ∧ Below w.heap.size w W' := by
  have hb : nameB name = false := by simp [nameB]; omega
  have hO := nilName_bad name hb
  have hS : NilSet name n 1 := fun w => Set_bad _ _ _ w (.inl hb)
  clear hb
  have hc : n < 0 ∨ (0 ≤ n ∧ n < 1) ∨ (1 ≤ n ∧ n ≤ 4096) ∨ 4096 < n := by omega
  rcases hc with h | ⟨h, h3⟩ | ⟨h, h3⟩ | h
  · have hT : NilTick n 1 := fun w => Tick_bad _ n w (.inl h)
    go_enter Try.func5, Try.ntmps5
    go_wp2_with (first
      | (go_at_call 10; refine (hO _).1.mono ?_; rintro e w1 ⟨rfl, hz⟩; subst hz)
      | (go_at_call 11; refine (hO _).2.mono ?_; rintro e w1 ⟨rfl, hz⟩; subst hz)
      | (go_at_call 12; refine (hT _).mono ?_; rintro e w1 ⟨rfl, hz⟩; subst hz)
      | (go_at_call 14; refine (Next_nil _).mono ?_; rintro e w1 ⟨rfl, hz⟩; subst hz)
      | (go_at_call 13; refine (Due_nil _ _).mono ?_; rintro e w1 ⟨rfl, hz⟩; subst hz)
      | (go_at_call 9; refine (Now_nil _).mono ?_; rintro e w1 ⟨rfl, hz⟩; subst hz)
      | (go_at_call 8; refine (hS _).mono ?_; rintro e w1 ⟨rfl, hz⟩; subst hz)
      | (go_at_call 7; refine (three_any _).mono ?_; rintro e wz ⟨rfl, h9⟩))
    go_ret
    exact ⟨rfl, h9⟩
  · have hT : NilTick n 7 := fun w => Tick_nil n w (by omega) (by omega)
    go_enter Try.func5, Try.ntmps5
    go_wp2_with (first
      | (go_at_call 10; refine (hO _).1.mono ?_; rintro e w1 ⟨rfl, hz⟩; subst hz)
      | (go_at_call 11; refine (hO _).2.mono ?_; rintro e w1 ⟨rfl, hz⟩; subst hz)
      | (go_at_call 12; refine (hT _).mono ?_; rintro e w1 ⟨rfl, hz⟩; subst hz)
      | (go_at_call 14; refine (Next_nil _).mono ?_; rintro e w1 ⟨rfl, hz⟩; subst hz)
      | (go_at_call 13; refine (Due_nil _ _).mono ?_; rintro e w1 ⟨rfl, hz⟩; subst hz)
      | (go_at_call 9; refine (Now_nil _).mono ?_; rintro e w1 ⟨rfl, hz⟩; subst hz)
      | (go_at_call 8; refine (hS _).mono ?_; rintro e w1 ⟨rfl, hz⟩; subst hz)
      | (go_at_call 7; refine (three_any _).mono ?_; rintro e wz ⟨rfl, h9⟩))
    go_ret
    exact ⟨rfl, h9⟩
  · have hT : NilTick n 7 := fun w => Tick_nil n w (by omega) (by omega)
    go_enter Try.func5, Try.ntmps5
    go_wp2_with (first
      | (go_at_call 10; refine (hO _).1.mono ?_; rintro e w1 ⟨rfl, hz⟩; subst hz)
      | (go_at_call 11; refine (hO _).2.mono ?_; rintro e w1 ⟨rfl, hz⟩; subst hz)
      | (go_at_call 12; refine (hT _).mono ?_; rintro e w1 ⟨rfl, hz⟩; subst hz)
      | (go_at_call 14; refine (Next_nil _).mono ?_; rintro e w1 ⟨rfl, hz⟩; subst hz)
      | (go_at_call 13; refine (Due_nil _ _).mono ?_; rintro e w1 ⟨rfl, hz⟩; subst hz)
      | (go_at_call 9; refine (Now_nil _).mono ?_; rintro e w1 ⟨rfl, hz⟩; subst hz)
      | (go_at_call 8; refine (hS _).mono ?_; rintro e w1 ⟨rfl, hz⟩; subst hz)
      | (go_at_call 7; refine (three_any _).mono ?_; rintro e wz ⟨rfl, h9⟩))
    go_ret
    exact ⟨rfl, h9⟩
  · have hT : NilTick n 1 := fun w => Tick_bad _ n w (.inr ⟨by omega, h⟩)
    have h0 : 0 ≤ n := by omega
    have h01 : 1 ≤ n := by omega
    have hq : decide (n ≤ 4096) = false := decide_eq_false (by omega)
    go_enter Try.func5, Try.ntmps5
    go_wp2_with (first
      | (go_at_call 10; refine (hO _).1.mono ?_; rintro e w1 ⟨rfl, hz⟩; subst hz)
      | (go_at_call 11; refine (hO _).2.mono ?_; rintro e w1 ⟨rfl, hz⟩; subst hz)
      | (go_at_call 12; refine (hT _).mono ?_; rintro e w1 ⟨rfl, hz⟩; subst hz)
      | (go_at_call 14; refine (Next_nil _).mono ?_; rintro e w1 ⟨rfl, hz⟩; subst hz)
      | (go_at_call 13; refine (Due_nil _ _).mono ?_; rintro e w1 ⟨rfl, hz⟩; subst hz)
      | (go_at_call 9; refine (Now_nil _).mono ?_; rintro e w1 ⟨rfl, hz⟩; subst hz)
      | (go_at_call 8; refine (hS _).mono ?_; rintro e w1 ⟨rfl, hz⟩; subst hz)
      | (go_at_call 7; refine (three_any _).mono ?_; rintro e wz ⟨rfl, h9⟩))
    go_ret
    exact ⟨rfl, h9⟩
set_option maxRecDepth 20000 in
set_option maxHeartbeats 8000000 in
theorem nil_no2 (name n : Int) (w : World) (h1 : 15 < name) : Calls Try.prog 5 #[.int .i64 name, .int .i64 n] w fun e W' => e = .returned (.bool true) ∧ Below w.heap.size w W' := by
  have hb : nameB name = false := by simp [nameB]; omega
  have hO := nilName_bad name hb
  have hS : NilSet name n 1 := fun w => Set_bad _ _ _ w (.inl hb)
  have h2 : 0 ≤ name := by omega
  clear hb
  have hc : n < 0 ∨ (0 ≤ n ∧ n < 1) ∨ (1 ≤ n ∧ n ≤ 4096) ∨ 4096 < n := by omega
  rcases hc with h | ⟨h, h3⟩ | ⟨h, h3⟩ | h
  · have hT : NilTick n 1 := fun w => Tick_bad _ n w (.inl h)
    go_enter Try.func5, Try.ntmps5
    go_wp2_with (first
      | (go_at_call 10; refine (hO _).1.mono ?_; rintro e w1 ⟨rfl, hz⟩; subst hz)
      | (go_at_call 11; refine (hO _).2.mono ?_; rintro e w1 ⟨rfl, hz⟩; subst hz)
      | (go_at_call 12; refine (hT _).mono ?_; rintro e w1 ⟨rfl, hz⟩; subst hz)
      | (go_at_call 14; refine (Next_nil _).mono ?_; rintro e w1 ⟨rfl, hz⟩; subst hz)
      | (go_at_call 13; refine (Due_nil _ _).mono ?_; rintro e w1 ⟨rfl, hz⟩; subst hz)
      | (go_at_call 9; refine (Now_nil _).mono ?_; rintro e w1 ⟨rfl, hz⟩; subst hz)
      | (go_at_call 8; refine (hS _).mono ?_; rintro e w1 ⟨rfl, hz⟩; subst hz)
      | (go_at_call 7; refine (three_any _).mono ?_; rintro e wz ⟨rfl, h9⟩))
    go_ret
    exact ⟨rfl, h9⟩
  · have hT : NilTick n 7 := fun w => Tick_nil n w (by omega) (by omega)
    go_enter Try.func5, Try.ntmps5
    go_wp2_with (first
      | (go_at_call 10; refine (hO _).1.mono ?_; rintro e w1 ⟨rfl, hz⟩; subst hz)
      | (go_at_call 11; refine (hO _).2.mono ?_; rintro e w1 ⟨rfl, hz⟩; subst hz)
      | (go_at_call 12; refine (hT _).mono ?_; rintro e w1 ⟨rfl, hz⟩; subst hz)
      | (go_at_call 14; refine (Next_nil _).mono ?_; rintro e w1 ⟨rfl, hz⟩; subst hz)
      | (go_at_call 13; refine (Due_nil _ _).mono ?_; rintro e w1 ⟨rfl, hz⟩; subst hz)
      | (go_at_call 9; refine (Now_nil _).mono ?_; rintro e w1 ⟨rfl, hz⟩; subst hz)
      | (go_at_call 8; refine (hS _).mono ?_; rintro e w1 ⟨rfl, hz⟩; subst hz)
      | (go_at_call 7; refine (three_any _).mono ?_; rintro e wz ⟨rfl, h9⟩))
    go_ret
    exact ⟨rfl, h9⟩
  · have hT : NilTick n 7 := fun w => Tick_nil n w (by omega) (by omega)
    go_enter Try.func5, Try.ntmps5
    go_wp2_with (first
      | (go_at_call 10; refine (hO _).1.mono ?_; rintro e w1 ⟨rfl, hz⟩; subst hz)
      | (go_at_call 11; refine (hO _).2.mono ?_; rintro e w1 ⟨rfl, hz⟩; subst hz)
      | (go_at_call 12; refine (hT _).mono ?_; rintro e w1 ⟨rfl, hz⟩; subst hz)
      | (go_at_call 14; refine (Next_nil _).mono ?_; rintro e w1 ⟨rfl, hz⟩; subst hz)
      | (go_at_call 13; refine (Due_nil _ _).mono ?_; rintro e w1 ⟨rfl, hz⟩; subst hz)
      | (go_at_call 9; refine (Now_nil _).mono ?_; rintro e w1 ⟨rfl, hz⟩; subst hz)
      | (go_at_call 8; refine (hS _).mono ?_; rintro e w1 ⟨rfl, hz⟩; subst hz)
      | (go_at_call 7; refine (three_any _).mono ?_; rintro e wz ⟨rfl, h9⟩))
    go_ret
    exact ⟨rfl, h9⟩
  · have hT : NilTick n 1 := fun w => Tick_bad _ n w (.inr ⟨by omega, h⟩)
    have h0 : 0 ≤ n := by omega
    have h01 : 1 ≤ n := by omega
    have hq : decide (n ≤ 4096) = false := decide_eq_false (by omega)
    go_enter Try.func5, Try.ntmps5
    go_wp2_with (first
      | (go_at_call 10; refine (hO _).1.mono ?_; rintro e w1 ⟨rfl, hz⟩; subst hz)
      | (go_at_call 11; refine (hO _).2.mono ?_; rintro e w1 ⟨rfl, hz⟩; subst hz)
      | (go_at_call 12; refine (hT _).mono ?_; rintro e w1 ⟨rfl, hz⟩; subst hz)
      | (go_at_call 14; refine (Next_nil _).mono ?_; rintro e w1 ⟨rfl, hz⟩; subst hz)
      | (go_at_call 13; refine (Due_nil _ _).mono ?_; rintro e w1 ⟨rfl, hz⟩; subst hz)
      | (go_at_call 9; refine (Now_nil _).mono ?_; rintro e w1 ⟨rfl, hz⟩; subst hz)
      | (go_at_call 8; refine (hS _).mono ?_; rintro e w1 ⟨rfl, hz⟩; subst hz)
      | (go_at_call 7; refine (three_any _).mono ?_; rintro e wz ⟨rfl, h9⟩))
    go_ret
    exact ⟨rfl, h9⟩
set_option maxRecDepth 20000 in
set_option maxHeartbeats 8000000 in
theorem nil_yes (name n : Int) (w : World) (h2 : 0 ≤ name) (h1 : name ≤ 15) : Calls Try.prog 5 #[.int .i64 name, .int .i64 n] w fun e W' => e = .returned (.bool true) ∧ Below w.heap.size w W' := by
  have hb : nameB name = true := by simp [nameB]; omega
  have HB : Hid (nameB name = true) := hb
  have hO := nilName_ok name hb
  clear hb
  have hc : n < 0 ∨ (0 ≤ n ∧ n < 1) ∨ (1 ≤ n ∧ n ≤ 4096) ∨ 4096 < n := by omega
  rcases hc with h | ⟨h, h3⟩ | ⟨h, h3⟩ | h
  · have hT : NilTick n 1 := fun w => Tick_bad _ n w (.inl h)
    have hS : NilSet name n 1 := fun w => Set_bad _ _ _ w (.inr ⟨HB.out, by omega⟩)
    go_enter Try.func5, Try.ntmps5
    go_wp2_with (first
      | (go_at_call 10; refine (hO _).1.mono ?_; rintro e w1 ⟨rfl, hz⟩; subst hz)
      | (go_at_call 11; refine (hO _).2.mono ?_; rintro e w1 ⟨rfl, hz⟩; subst hz)
      | (go_at_call 12; refine (hT _).mono ?_; rintro e w1 ⟨rfl, hz⟩; subst hz)
      | (go_at_call 14; refine (Next_nil _).mono ?_; rintro e w1 ⟨rfl, hz⟩; subst hz)
      | (go_at_call 13; refine (Due_nil _ _).mono ?_; rintro e w1 ⟨rfl, hz⟩; subst hz)
      | (go_at_call 9; refine (Now_nil _).mono ?_; rintro e w1 ⟨rfl, hz⟩; subst hz)
      | (go_at_call 8; refine (hS _).mono ?_; rintro e w1 ⟨rfl, hz⟩; subst hz)
      | (go_at_call 7; refine (three_any _).mono ?_; rintro e wz ⟨rfl, h9⟩))
    go_ret
    exact ⟨rfl, h9⟩
  · have hT : NilTick n 7 := fun w => Tick_nil n w (by omega) (by omega)
    have hS : NilSet name n 1 := fun w => Set_bad _ _ _ w (.inr ⟨HB.out, by omega⟩)
    go_enter Try.func5, Try.ntmps5
    go_wp2_with (first
      | (go_at_call 10; refine (hO _).1.mono ?_; rintro e w1 ⟨rfl, hz⟩; subst hz)
      | (go_at_call 11; refine (hO _).2.mono ?_; rintro e w1 ⟨rfl, hz⟩; subst hz)
      | (go_at_call 12; refine (hT _).mono ?_; rintro e w1 ⟨rfl, hz⟩; subst hz)
      | (go_at_call 14; refine (Next_nil _).mono ?_; rintro e w1 ⟨rfl, hz⟩; subst hz)
      | (go_at_call 13; refine (Due_nil _ _).mono ?_; rintro e w1 ⟨rfl, hz⟩; subst hz)
      | (go_at_call 9; refine (Now_nil _).mono ?_; rintro e w1 ⟨rfl, hz⟩; subst hz)
      | (go_at_call 8; refine (hS _).mono ?_; rintro e w1 ⟨rfl, hz⟩; subst hz)
      | (go_at_call 7; refine (three_any _).mono ?_; rintro e wz ⟨rfl, h9⟩))
    go_ret
    exact ⟨rfl, h9⟩
  · have hT : NilTick n 7 := fun w => Tick_nil n w (by omega) (by omega)
    have hS : NilSet name n 7 := fun w => Set_nil _ _ w HB.out h h3
    go_enter Try.func5, Try.ntmps5
    go_wp2_with (first
      | (go_at_call 10; refine (hO _).1.mono ?_; rintro e w1 ⟨rfl, hz⟩; subst hz)
      | (go_at_call 11; refine (hO _).2.mono ?_; rintro e w1 ⟨rfl, hz⟩; subst hz)
      | (go_at_call 12; refine (hT _).mono ?_; rintro e w1 ⟨rfl, hz⟩; subst hz)
      | (go_at_call 14; refine (Next_nil _).mono ?_; rintro e w1 ⟨rfl, hz⟩; subst hz)
      | (go_at_call 13; refine (Due_nil _ _).mono ?_; rintro e w1 ⟨rfl, hz⟩; subst hz)
      | (go_at_call 9; refine (Now_nil _).mono ?_; rintro e w1 ⟨rfl, hz⟩; subst hz)
      | (go_at_call 8; refine (hS _).mono ?_; rintro e w1 ⟨rfl, hz⟩; subst hz)
      | (go_at_call 7; refine (three_any _).mono ?_; rintro e wz ⟨rfl, h9⟩))
    go_ret
    exact ⟨rfl, h9⟩
  · have hT : NilTick n 1 := fun w => Tick_bad _ n w (.inr ⟨by omega, h⟩)
    have hS : NilSet name n 1 := fun w => Set_bad _ _ _ w (.inr ⟨HB.out, by omega⟩)
    have h0 : 0 ≤ n := by omega
    have h01 : 1 ≤ n := by omega
    have hq : decide (n ≤ 4096) = false := decide_eq_false (by omega)
    go_enter Try.func5, Try.ntmps5
    go_wp2_with (first
      | (go_at_call 10; refine (hO _).1.mono ?_; rintro e w1 ⟨rfl, hz⟩; subst hz)
      | (go_at_call 11; refine (hO _).2.mono ?_; rintro e w1 ⟨rfl, hz⟩; subst hz)
      | (go_at_call 12; refine (hT _).mono ?_; rintro e w1 ⟨rfl, hz⟩; subst hz)
      | (go_at_call 14; refine (Next_nil _).mono ?_; rintro e w1 ⟨rfl, hz⟩; subst hz)
      | (go_at_call 13; refine (Due_nil _ _).mono ?_; rintro e w1 ⟨rfl, hz⟩; subst hz)
      | (go_at_call 9; refine (Now_nil _).mono ?_; rintro e w1 ⟨rfl, hz⟩; subst hz)
      | (go_at_call 8; refine (hS _).mono ?_; rintro e w1 ⟨rfl, hz⟩; subst hz)
      | (go_at_call 7; refine (three_any _).mono ?_; rintro e wz ⟨rfl, h9⟩))
    go_ret
    exact ⟨rfl, h9⟩
theorem nil_any (name n : Int) (w : World) : Calls Try.prog 5 #[.int .i64 name, .int .i64 n] w fun e W' => e = .returned (.bool true) ∧ Below w.heap.size w W' := by
  have hc : name < 0 ∨ 15 < name ∨ (0 ≤ name ∧ name ≤ 15) := by omega
  rcases hc with h | h | ⟨h, h2⟩
  · exact nil_no1 name n w h
  · exact nil_no2 name n w h
  · exact nil_yes name n w h h2
end Go.Proofs.Ytemmnojcickcpab
