/- The slot's small functions, walked: within, isKind, tag, is, New. -/
import Derived.Test.YtobojfkoffhljaaSoA
namespace Go.Proofs.Ytobojfkoffhljaa
open Go.RowKit
attribute [local go_sem ↓] Go.wp_at_zero Go.wp_at_succ

/-- From 0 to so many? -/
def inB (n m : Int) : Bool := decide (0 ≤ n) && decide (n ≤ m)
theorem inB_t {n m : Int} (h : inB n m = true) : 0 ≤ n ∧ n ≤ m := by simpa [inB] using h
theorem inB_f {n m : Int} (h : inB n m = false) : n < 0 ∨ (0 ≤ n ∧ m < n) := by simp [inB] at h; omega
theorem within_any (n m : Int) (w : World) : Calls Try.prog 42 #[.int .i64 n, .int .i64 m] w fun e W' => e = .returned (.bool (inB n m)) ∧ W' = w := by
  by_cases h1 : 0 ≤ n
  · by_cases h2 : n ≤ m
    · rw [show inB n m = true by simp [inB, h1, h2]]
      go_enter Try.func42, Try.ntmps42
      go_wp2
      go_ret
      exact ⟨rfl, rfl⟩
    · rw [show inB n m = false by simp [inB, h2]]
      have h3 : m < n := by omega
      go_enter Try.func42, Try.ntmps42
      go_wp2
      go_ret
      exact ⟨rfl, rfl⟩
  · rw [show inB n m = false by simp [inB, h1]]
    go_enter Try.func42, Try.ntmps42
    go_wp2
    go_ret
    exact ⟨rfl, rfl⟩
/-- Is it a kind? -/
def isK (n : Int) : Bool := decide (n = 1) || decide (n = 2)
theorem isK_t {n : Int} (h : isK n = true) : ∃ k : Nat, k < 2 ∧ n = (k : Int) + 1 := by
  simp [isK] at h
  rcases h with rfl | rfl
  · exact ⟨0, by omega, rfl⟩
  · exact ⟨1, by omega, rfl⟩
theorem isK_f {n : Int} (h : isK n = false) : n ≠ 1 ∧ n ≠ 2 := by simpa [isK] using h
theorem isKind_any (n : Int) (w : World) : Calls Try.prog 43 #[.int .i64 n] w fun e W' => e = .returned (.bool (isK n)) ∧ W' = w := by
  by_cases h1 : n = 1
  · subst h1
    go_enter Try.func43, Try.ntmps43
    go_wp2
    go_ret
    exact ⟨rfl, rfl⟩
  · by_cases h2 : n = 2
    · subst h2
      go_enter Try.func43, Try.ntmps43
      go_wp2
      go_ret
      exact ⟨rfl, rfl⟩
    · rw [show isK n = false by simp [isK, h1, h2]]
      have e1 : (n == 1) = false := by simp [h1]
      have e2 : (n == 2) = false := by simp [h2]
      go_enter Try.func43, Try.ntmps43
      go_wp2
      go_ret
      exact ⟨rfl, rfl⟩
def tag16 : List UInt8 := [48, 49, 50, 51, 52, 53, 54, 55, 56, 57, 97, 98, 99, 100, 101, 102]
theorem is_any (t g : List UInt8) (w : World) : Calls Try.prog 38 #[.agg #[.string (bs t), .string (bs g)]] w fun e W' => e = .returned (.bool (isV g)) ∧ Below w.heap.size w W' := by
  have hl := bs_list g
  by_cases h : g = []
  · subst h
    rw [show isV [] = false by rfl]
    go_enter Try.func38, Try.ntmps38
    go_wp2
    go_ret
    exact ⟨by first | rfl | simp_all, (Below.refl _ w).alloc (Nat.le_refl _) _⟩
  · rw [show isV g = true by simp [isV, h]]
    have HH : Hid (g ≠ []) := h
    clear h
    go_enter Try.func38, Try.ntmps38
    go_wp2
    go_ret
    exact ⟨by have := HH.out; simp_all, (Below.refl _ w).alloc (Nat.le_refl _) _⟩

/-- The zero slot's cells. -/
def Z43 : Array Value := #[.int .i64 0, .int .i64 0, .int .i64 0] ++ Array.replicate 40 (.string ⟨#[]⟩)
theorem Try.info89 : (Try.prog.info? 89).map (fun i => (i.zero, i.size, i.bytes)) = some (some (.agg Z43), 43, 664) := by kernel_rfl
theorem Try.zero89 (w : World) : (zeroValue 89).run Try.prog w = .ok (.agg Z43) w := by
  obtain ⟨i, hi, hz, _⟩ := info_parts Try.info89
  simp [zeroValue, typeInfo, hi, hz]
set_option maxHeartbeats 1000000 in
theorem New_no {g f p : Int} (h : (inB g 4 && (inB f 3 && inB p (3 * f))) = false) (w : World) : Calls Try.prog 32 #[.int .i64 g, .int .i64 f, .int .i64 p] w fun e W' => e = .returned (.tuple #[.pointer none, .int .i64 1]) ∧ W' = w := by
  cases h1 : inB g 4
  · clear h
    go_enter Try.func32, Try.ntmps32
    go_wp2_with (first | (go_at_call 42; refine (within_any _ _ _).mono ?_; rintro e w1 ⟨rfl, h9⟩; subst h9))
    exact bodyPost_ret (v := .tuple #[.pointer none, .int .i64 1]) (by simp [results, Try.f32, go_sem]) rfl ⟨rfl, rfl⟩
  · cases h2 : inB f 3
    · clear h
      go_enter Try.func32, Try.ntmps32
      go_wp2_with (first | (go_at_call 42; refine (within_any _ _ _).mono ?_; rintro e w1 ⟨rfl, h9⟩; subst h9))
      exact bodyPost_ret (v := .tuple #[.pointer none, .int .i64 1]) (by simp [results, Try.f32, go_sem]) rfl ⟨rfl, rfl⟩
    · obtain ⟨f0, f3⟩ := inB_t h2
      rw [h1, h2] at h
      simp at h
      go_enter Try.func32, Try.ntmps32
      go_wp2_with (first | (go_at_call 42; refine (within_any _ _ _).mono ?_; rintro e w1 ⟨rfl, h9⟩; subst h9))
      exact bodyPost_ret (v := .tuple #[.pointer none, .int .i64 1]) (by simp [results, Try.f32, go_sem]) rfl ⟨rfl, rfl⟩
theorem new_cells (g f p : Value) : let cs := ((Z43.setIfInBounds 0 g).setIfInBounds 1 f).setIfInBounds 2 p; cs[0]? = some g ∧ cs[1]? = some f ∧ cs[2]? = some p ∧ VCells cs (fun _ _ => ([], [])) := by
  refine ⟨rfl, rfl, rfl, fun k i hk hi => ?_⟩
  have hz : ∀ j, 3 ≤ j → j < 43 → Z43[j]? = some (.string (bs [])) := by
    intro j h1 h2
    unfold Z43
    rw [Array.getElem?_append_right (by simpa using h1)]
    rw [show (#[Value.int .i64 0, .int .i64 0, .int .i64 0] : Array Value).size = 3 from rfl, Array.getElem?_replicate, if_pos (by omega)]
    rfl
  constructor
  · rw [Array.getElem?_setIfInBounds_ne (by omega), Array.getElem?_setIfInBounds_ne (by omega), Array.getElem?_setIfInBounds_ne (by omega)]; exact hz _ (by omega) (by omega)
  · rw [Array.getElem?_setIfInBounds_ne (by omega), Array.getElem?_setIfInBounds_ne (by omega), Array.getElem?_setIfInBounds_ne (by omega)]; exact hz _ (by omega) (by omega)
set_option maxRecDepth 20000 in
set_option maxHeartbeats 2000000 in
theorem New_ok {g : Int} {f p : Nat} (h1 : inB g 4 = true) (hf : f ≤ 3) (hp : p ≤ 3 * f) (w : World) : Calls Try.prog 32 #[.int .i64 g, .int .i64 f, .int .i64 p] w fun e W' => e = .returned (.tuple #[.pointer (some ⟨w.heap.size, 0, none⟩), .int .i64 0]) ∧ SlotAt W' w.heap.size g f p (fun _ _ => ([], [])) ∧ Below w.heap.size w W' := by
  have h2 : inB (f : Int) 3 = true := by simp [inB]; omega
  have h3 : inB (p : Int) (3 * (f : Int)) = true := by simp [inB]; omega
  have f3 : (f : Int) ≤ 3 := by omega
  have hz := Try.zero89
  have HC := new_cells (.int .i64 g) (.int .i64 f) (.int .i64 p)
  obtain ⟨Z, hZ⟩ : ∃ Z, Z43 = Z := ⟨_, rfl⟩
  have hzs : Z.size = 43 := by rw [← hZ]; rfl
  have hne : ¬ Z = #[] := fun e => by rw [e] at hzs; cases hzs
  rw [hZ] at hz HC
  have HC' : Hid (_) := HC
  clear hZ HC
  go_enter Try.func32, Try.ntmps32
  go_wp2_with (first | (go_at_call 42; refine (within_any _ _ _).mono ?_; rintro e w1 ⟨rfl, h9⟩; subst h9))
  exact bodyPost_ret (v := .tuple #[.pointer (some ⟨w1.heap.size, 0, none⟩), .int .i64 0]) (by simp [results, Try.f32, go_sem]) rfl ⟨rfl, ⟨⟨_, heap_alloc_new _ _, HC'.out⟩, hf, hp⟩, (Below.refl _ w1).alloc (Nat.le_refl _) _⟩
theorem new_cases (g f p : Int) : ((inB g 4 && (inB f 3 && inB p (3 * f))) = false) ∨ (inB g 4 = true ∧ ∃ f' p' : Nat, f = f' ∧ p = p' ∧ f' ≤ 3 ∧ p' ≤ 3 * f') := by
  cases h : inB g 4 && (inB f 3 && inB p (3 * f))
  · exact .inl rfl
  · simp [inB] at h
    right
    refine ⟨by simp [inB]; omega, f.toNat, p.toNat, by omega, by omega, by omega, by omega⟩
end Go.Proofs.Ytobojfkoffhljaa
