/- The window's Leave, and the calls at nil, walked. -/
import Derived.Test.YtobojfkoffhljaaWiG
namespace Go.Proofs.Ytobojfkoffhljaa
open Go.RowKit Go.Maps
attribute [local go_sem ↓] Go.wp_at_zero Go.wp_at_succ

theorem drop_nil (c : Value) (w : World) : Calls Try.prog 36 #[.pointer none, c] w fun e W' => e = .returned (.int .i64 0) ∧ W' = w := by
  go_enter Try.func36, Try.ntmps36
  go_wp2
  go_ret
  exact ⟨rfl, rfl⟩
theorem Leave_nil (x : Int) (w : World) : Calls Try.prog 21 #[.pointer none, .int .i64 x] w fun e W' => e = .returned (.int .i64 0) ∧ Below w.heap.size w W' := by
  have hD := fun c W => drop_nil c W
  go_enter Try.func21, Try.ntmps21
  go_wp2_with (first | (go_at_call 36; refine (hD _ _).mono ?_; rintro e w1 ⟨rfl, h9⟩; replace h9 := h9.symm; subst h9))
  go_ret
  exact ⟨rfl, (Below.refl _ w).alloc (Nat.le_refl _) _⟩
theorem Leave_any {base : Nat} {w : World} {B : Nat} {ms mb : Option Nat} {g : Int} {f : Nat} {low : Int} {S : List Sk} {T : List Bt} (h : WinAt base w B ms mb g f low S T) (x : Int) : Calls Try.prog 21 #[.pointer (some ⟨B, 0, none⟩), .int .i64 x] w fun e W' => e = .returned (.int .i64 ((S.length : Int) - ((S.filter (fun a => !(decide (a.1 < x)))).length : Int))) ∧ WinAt base W' B ms mb g f low (S.filter (fun a => !(decide (a.1 < x)))) T ∧ Wv B ms mb ms mb w W' := by
  have hba := (Below.refl w.heap.size w).alloc (Nat.le_refl _) (.cells #[.int .i64 x] 3)
  have hD := drop37 (h.on hba) x w.heap.size (heap_alloc_new w _)
  have HX : Hid (_) := Wv.of_below hba B ms mb
  clear h hba
  go_enter Try.func21, Try.ntmps21
  go_wp2_with (first | (go_at_call 36; refine hD.mono ?_; rintro e w1 ⟨rfl, h1, h2⟩))
  go_ret
  exact ⟨rfl, h1, HX.out.trans h2⟩
theorem Raise_nil (x : Int) (w : World) : Calls Try.prog 24 #[.pointer none, .int .i64 x] w fun e W' => e = .returned (.tuple #[.bool false, .int .i64 (if inB x 1099511627768 = false then 1 else 7)]) ∧ Below w.heap.size w W' := by
  have hW := fun W => wwithin_any x 1099511627768 W
  have c0 : (w.alloc (.cells #[.int .i64 x] 3)).cell? ⟨w.heap.size, 0, none⟩ = some (.int .i64 x) := cellB (heap_alloc_new w _) 0 _ rfl
  cases hx : inB x 1099511627768
  · simp only [hx] at hW
    clear hx
    go_enter Try.func24, Try.ntmps24
    go_wp2_with (first | (go_at_call 25; refine (hW _).mono ?_; rintro e w1 ⟨rfl, h9⟩; replace h9 := h9.symm; subst h9))
    exact bodyPost_ret (v := .tuple #[.bool false, .int .i64 1]) (by simp [results, Try.f24, go_sem]) rfl ⟨by simp, (Below.refl _ w).alloc (Nat.le_refl _) _⟩
  · simp only [hx] at hW
    clear hx
    go_enter Try.func24, Try.ntmps24
    go_wp2_with (first | (go_at_call 25; refine (hW _).mono ?_; rintro e w1 ⟨rfl, h9⟩; replace h9 := h9.symm; subst h9))
    exact bodyPost_ret (v := .tuple #[.bool false, .int .i64 7]) (by simp [results, Try.f24, go_sem]) rfl ⟨by simp, (Below.refl _ w).alloc (Nat.le_refl _) _⟩
theorem Note_nil (view n : Int) (t : List UInt8) (g : Int) (w : World) : Calls Try.prog 23 #[.pointer none, .int .i64 view, .int .i64 n, .agg #[.string (bs t), .int .i64 g, .slice none 0 0]] w fun e W' => e = .returned (.tuple #[.bool false, .int .i64 (if inB view 1099511627776 = false then 1 else 7)]) ∧ Below w.heap.size w W' := by
  have hF := fun W => wfault_nil view n W
  obtain ⟨e0, he0⟩ : ∃ e0 : Int, (if inB view 1099511627776 = false then (1 : Int) else 7) = e0 := ⟨_, rfl⟩
  have hz : e0 = 1 ∨ e0 = 7 := by rw [← he0]; split <;> simp
  simp only [he0] at hF ⊢
  clear he0
  have hz0 : ¬ e0 = 0 := by omega
  have hz1 : (e0 == 0) = false := by simp; omega
  clear hz
  go_enter Try.func23, Try.ntmps23
  go_wp2_with (first | (go_at_call 31; refine (hF _).mono ?_; rintro e w1 ⟨rfl, h9⟩; replace h9 := h9.symm; subst h9))
  exact bodyPost_ret (v := .tuple #[.bool false, .int .i64 e0]) (by simp [results, Try.f23, go_sem]) rfl ⟨rfl, (Below.refl _ w).alloc (Nat.le_refl _) _⟩
theorem Best_nil (n : Int) (w : World) : Calls Try.prog 12 #[.pointer none, .int .i64 n] w fun e W' => e = .returned (.tuple #[.int .i64 0, .agg #[.string ⟨#[]⟩, .int .i64 0, .slice none 0 0], .bool false]) ∧ Below w.heap.size w W' := by
  go_enter Try.func12, Try.ntmps12
  go_wp2
  exact bodyPost_ret (v := .tuple #[.int .i64 0, .agg #[.string ⟨#[]⟩, .int .i64 0, .slice none 0 0], .bool false]) (by simp [results, Try.f12, go_sem]) rfl ⟨rfl, (Below.refl _ w).alloc (Nat.le_refl _) _⟩
end Go.Proofs.Ytobojfkoffhljaa
