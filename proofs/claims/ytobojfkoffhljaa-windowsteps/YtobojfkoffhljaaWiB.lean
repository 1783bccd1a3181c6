/- The window's small functions, walked: within, New, Has, fault, Low, Slots, clone; a nil window. -/
import Derived.Test.YtobojfkoffhljaaWiA
namespace Go.Proofs.Ytobojfkoffhljaa
open Go.RowKit Go.Maps
attribute [local go_sem ↓] Go.wp_at_zero Go.wp_at_succ

theorem wwithin_any (n m : Int) (w : World) : Calls Try.prog 25 #[.int .i64 n, .int .i64 m] w fun e W' => e = .returned (.bool (inB n m)) ∧ W' = w := by
  by_cases h1 : 0 ≤ n
  · by_cases h2 : n ≤ m
    · rw [show inB n m = true by simp [inB, h1, h2]]
      go_enter Try.func25, Try.ntmps25
      go_wp2
      go_ret
      exact ⟨rfl, rfl⟩
    · rw [show inB n m = false by simp [inB, h2]]
      have h3 : m < n := by omega
      go_enter Try.func25, Try.ntmps25
      go_wp2
      go_ret
      exact ⟨rfl, rfl⟩
  · rw [show inB n m = false by simp [inB, h1]]
    go_enter Try.func25, Try.ntmps25
    go_wp2
    go_ret
    exact ⟨rfl, rfl⟩
theorem wNew_no {g f : Int} (h : (inB g 4 && inB f 3) = false) (w : World) : Calls Try.prog 8 #[.int .i64 g, .int .i64 f] w fun e W' => e = .returned (.tuple #[.pointer none, .int .i64 1]) ∧ W' = w := by
  cases h1 : inB g 4
  · clear h
    go_enter Try.func8, Try.ntmps8
    go_wp2_with (first | (go_at_call 25; refine (wwithin_any _ _ _).mono ?_; rintro e w1 ⟨rfl, h9⟩; subst h9))
    exact bodyPost_ret (v := .tuple #[.pointer none, .int .i64 1]) (by simp [results, Try.f8, go_sem]) rfl ⟨rfl, rfl⟩
  · rw [h1] at h
    simp at h
    go_enter Try.func8, Try.ntmps8
    go_wp2_with (first | (go_at_call 25; refine (wwithin_any _ _ _).mono ?_; rintro e w1 ⟨rfl, h9⟩; subst h9))
    exact bodyPost_ret (v := .tuple #[.pointer none, .int .i64 1]) (by simp [results, Try.f8, go_sem]) rfl ⟨rfl, rfl⟩
theorem wNew_ok {g : Int} {f : Nat} (h1 : inB g 4 = true) (hf : f ≤ 3) (base : Nat) (w : World) (hb : base ≤ w.heap.size) : Calls Try.prog 8 #[.int .i64 g, .int .i64 f] w fun e W' => e = .returned (.tuple #[.pointer (some ⟨w.heap.size, 0, none⟩), .int .i64 0]) ∧ WinAt base W' w.heap.size none none g f 0 [] [] ∧ Below w.heap.size w W' := by
  have h2 : inB (f : Int) 3 = true := by simp [inB]; omega
  go_enter Try.func8, Try.ntmps8
  go_wp2_with (first | (go_at_call 25; refine (wwithin_any _ _ _).mono ?_; rintro e w1 ⟨rfl, h9⟩; subst h9))
  exact bodyPost_ret (v := .tuple #[.pointer (some ⟨w1.heap.size, 0, none⟩), .int .i64 0]) (by simp [results, Try.f8, go_sem]) rfl ⟨rfl, ⟨heap_alloc_new _ _, .inl ⟨rfl, rfl⟩, .inl ⟨rfl, rfl⟩, hb, fun _ h => (by cases h), fun _ h => (by cases h), fun _ h => (by cases h), hf, h1, by decide, by decide, fun _ h => (by simp at h), fun _ h => (by simp at h), ⟨by decide, by decide⟩⟩, (Below.refl _ w1).alloc (Nat.le_refl _) _⟩
/-- Is it in the window? -/
def hasW (low n : Int) : Bool := decide (low < n) && decide (n ≤ low + 8)
theorem hasW_t {low n : Int} (h : hasW low n = true) : low < n ∧ n ≤ low + 8 := by simpa [hasW] using h
theorem Has_nil (n : Int) (w : World) : Calls Try.prog 15 #[.pointer none, .int .i64 n] w fun e W' => e = .returned (.bool false) ∧ W' = w := by
  go_enter Try.func15, Try.ntmps15
  go_wp2
  go_ret
  exact ⟨rfl, rfl⟩
theorem Has_any {base : Nat} {w : World} {B : Nat} {ms mb : Option Nat} {g : Int} {f : Nat} {low : Int} {S : List Sk} {T : List Bt} (h : WinAt base w B ms mb g f low S T) (n : Int) : Calls Try.prog 15 #[.pointer (some ⟨B, 0, none⟩), .int .i64 n] w fun e W' => e = .returned (.bool (hasW low n)) ∧ W' = w := by
  have c2 := h.c.2.2.1
  have l0 := h.low0
  have l1 := h.low1
  clear h
  by_cases h1 : low < n
  · by_cases h2 : n ≤ low + 8
    · rw [show hasW low n = true by simp [hasW, h1, h2]]
      go_enter Try.func15, Try.ntmps15
      go_wp2
      go_ret
      exact ⟨rfl, rfl⟩
    · rw [show hasW low n = false by simp [hasW, h2]]
      have h3 : low + 8 < n := by omega
      go_enter Try.func15, Try.ntmps15
      go_wp2
      go_ret
      exact ⟨rfl, rfl⟩
  · rw [show hasW low n = false by simp [hasW, h1]]
    have h3 : n ≤ low := by omega
    go_enter Try.func15, Try.ntmps15
    go_wp2
    go_ret
    exact ⟨rfl, rfl⟩
/-- Why there can be nothing of a view and a number. -/
def askE (low view n : Int) : Int := if inB view 1099511627776 = false then 1 else if hasW low n = false then 6 else 0
theorem askE_0 {low view n : Int} (h : askE low view n = 0) : 0 ≤ view ∧ view ≤ 1099511627776 ∧ low < n ∧ n ≤ low + 8 := by
  unfold askE at h
  split at h
  · cases h
  · split at h
    · cases h
    · rename_i h1 h2
      obtain ⟨a, b⟩ := inB_t (by simpa using h1)
      obtain ⟨c, d⟩ := hasW_t (by simpa using h2)
      exact ⟨a, b, c, d⟩
theorem wfault_nil (view n : Int) (w : World) : Calls Try.prog 31 #[.pointer none, .int .i64 view, .int .i64 n] w fun e W' => e = .returned (.int .i64 (if inB view 1099511627776 = false then 1 else 7)) ∧ W' = w := by
  cases h1 : inB view 1099511627776
  · rw [if_pos rfl]
    go_enter Try.func31, Try.ntmps31
    go_wp2_with (first | (go_at_call 25; refine (wwithin_any _ _ _).mono ?_; rintro e w1 ⟨rfl, h9⟩; subst h9))
    go_ret
    exact ⟨rfl, rfl⟩
  · rw [if_neg (by decide)]
    go_enter Try.func31, Try.ntmps31
    go_wp2_with (first | (go_at_call 25; refine (wwithin_any _ _ _).mono ?_; rintro e w1 ⟨rfl, h9⟩; subst h9))
    go_ret
    exact ⟨rfl, rfl⟩
theorem wfault_any {base : Nat} {w : World} {B : Nat} {ms mb : Option Nat} {g : Int} {f : Nat} {low : Int} {S : List Sk} {T : List Bt} (h : WinAt base w B ms mb g f low S T) (view n : Int) : Calls Try.prog 31 #[.pointer (some ⟨B, 0, none⟩), .int .i64 view, .int .i64 n] w fun e W' => e = .returned (.int .i64 (askE low view n)) ∧ W' = w := by
  have hH := Has_any h n
  unfold askE
  cases h1 : inB view 1099511627776
  · rw [if_pos rfl]
    clear hH
    go_enter Try.func31, Try.ntmps31
    go_wp2_with (first | (go_at_call 25; refine (wwithin_any _ _ _).mono ?_; rintro e w1 ⟨rfl, h9⟩; subst h9))
    go_ret
    exact ⟨rfl, rfl⟩
  · rw [if_neg (by decide)]
    cases h2 : hasW low n
    · rw [if_pos rfl]
      rw [h2] at hH
      clear h2 h
      go_enter Try.func31, Try.ntmps31
      go_wp2_with (first
        | (go_at_call 25; refine (wwithin_any _ _ _).mono ?_; rintro e w1 ⟨rfl, h9⟩; replace h9 := h9.symm; subst h9)
        | (go_at_call 15; refine hH.mono ?_; rintro e w1 ⟨rfl, h9⟩; replace h9 := h9.symm; subst h9))
      go_ret
      exact ⟨rfl, rfl⟩
    · rw [if_neg (by decide)]
      rw [h2] at hH
      clear h2 h
      go_enter Try.func31, Try.ntmps31
      go_wp2_with (first
        | (go_at_call 25; refine (wwithin_any _ _ _).mono ?_; rintro e w1 ⟨rfl, h9⟩; replace h9 := h9.symm; subst h9)
        | (go_at_call 15; refine hH.mono ?_; rintro e w1 ⟨rfl, h9⟩; replace h9 := h9.symm; subst h9))
      go_ret
      exact ⟨rfl, rfl⟩
theorem Low_nil (w : World) : Calls Try.prog 14 #[.pointer none] w fun e W' => e = .returned (.int .i64 0) ∧ W' = w := by
  go_enter Try.func14, Try.ntmps14
  go_wp2
  go_ret
  exact ⟨rfl, rfl⟩
theorem Low_any {base : Nat} {w : World} {B : Nat} {ms mb : Option Nat} {g : Int} {f : Nat} {low : Int} {S : List Sk} {T : List Bt} (h : WinAt base w B ms mb g f low S T) : Calls Try.prog 14 #[.pointer (some ⟨B, 0, none⟩)] w fun e W' => e = .returned (.int .i64 low) ∧ W' = w := by
  have c2 := h.c.2.2.1
  go_enter Try.func14, Try.ntmps14
  go_wp2
  go_ret
  exact ⟨rfl, rfl⟩
theorem Slots_nil (w : World) : Calls Try.prog 17 #[.pointer none] w fun e W' => e = .returned (.int .i64 0) ∧ W' = w := by
  go_enter Try.func17, Try.ntmps17
  go_wp2
  go_ret
  exact ⟨rfl, rfl⟩
theorem Slots_any {base : Nat} {w : World} {B : Nat} {ms mb : Option Nat} {g : Int} {f : Nat} {low : Int} {S : List Sk} {T : List Bt} (h : WinAt base w B ms mb g f low S T) : Calls Try.prog 17 #[.pointer (some ⟨B, 0, none⟩)] w fun e W' => e = .returned (.int .i64 S.length) ∧ W' = w := by
  have c3 := h.c.2.2.2.1
  rcases h.slots with ⟨rfl, h2⟩ | ⟨b, D, rfl, ho, hr⟩
  · have hS : S = [] := by simpa using h2
    subst hS
    have hl := fun ty => Maps.len_nil (w := w) Try.underlying62 ty
    clear h h2
    go_enter Try.func17, Try.ntmps17
    go_wp2
    go_ret
    exact ⟨rfl, rfl⟩
  · have hl := fun ty => ho.len Try.underlying62 ty
    rw [hr.size, List.length_map] at hl
    clear h ho hr
    go_enter Try.func17, Try.ntmps17
    go_wp2
    go_ret
    exact ⟨rfl, rfl⟩
end Go.Proofs.Ytobojfkoffhljaa
