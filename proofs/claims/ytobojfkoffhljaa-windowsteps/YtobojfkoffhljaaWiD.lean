/- The window's At, walked. -/
import Derived.Test.YtobojfkoffhljaaWiC
namespace Go.Proofs.Ytobojfkoffhljaa
open Go.RowKit Go.Maps
attribute [local go_sem ↓] Go.wp_at_zero Go.wp_at_succ

theorem Try.zero48 (w : World) : (zeroValue 48).run Try.prog w = .ok (.pointer none) w := by kernel_rfl
theorem At_bad {base : Nat} {w : World} {B : Nat} {ms mb : Option Nat} {g : Int} {f : Nat} {low : Int} {S : List Sk} {T : List Bt} (h : WinAt base w B ms mb g f low S T) {view n : Int} (hE : askE low view n ≠ 0) : Calls Try.prog 18 #[.pointer (some ⟨B, 0, none⟩), .int .i64 view, .int .i64 n] w fun e W' => e = .returned (.tuple #[.pointer none, .int .i64 (askE low view n)]) ∧ W' = w := by
  have hF := wfault_any h view n
  obtain ⟨E, hEe⟩ : ∃ E, askE low view n = E := ⟨_, rfl⟩
  rw [hEe] at hF hE ⊢
  have hE2 : (E == 0) = false := by simpa using hE
  clear h hEe
  go_enter Try.func18, Try.ntmps18
  go_wp2_with (first | (go_at_call 31; refine hF.mono ?_; rintro e w1 ⟨rfl, h9⟩; replace h9 := h9.symm; subst h9))
  exact bodyPost_ret (v := .tuple #[.pointer none, .int .i64 E]) (by simp [results, Try.f18, go_sem]) rfl ⟨rfl, rfl⟩
theorem At_nil (view n : Int) (w : World) : Calls Try.prog 18 #[.pointer none, .int .i64 view, .int .i64 n] w fun e W' => e = .returned (.tuple #[.pointer none, .int .i64 (if inB view 1099511627776 = false then 1 else 7)]) ∧ W' = w := by
  have hF := wfault_nil view n
  have hE2 : ((if inB view 1099511627776 = false then (1 : Int) else 7) == 0) = false := by split <;> rfl
  obtain ⟨E, hEe⟩ : ∃ E, (if inB view 1099511627776 = false then (1 : Int) else 7) = E := ⟨_, rfl⟩
  rw [hEe] at hF hE2 ⊢
  clear hEe
  go_enter Try.func18, Try.ntmps18
  go_wp2_with (first | (go_at_call 31; refine (hF _).mono ?_; rintro e w1 ⟨rfl, h9⟩; replace h9 := h9.symm; subst h9))
  exact bodyPost_ret (v := .tuple #[.pointer none, .int .i64 E]) (by simp [results, Try.f18, go_sem]) rfl ⟨rfl, rfl⟩
theorem MapAt.drewN {w : World} {K : TypeId} {m : Option Nat} {l : List (Lit × Value)} (h : MapAt w K m l) (n : Nat) : MapAt (w.drewN n) K m l := h.keep (fun _ _ => rfl)
set_option maxHeartbeats 2000000 in
theorem At_there {base : Nat} {w : World} {B : Nat} {ms mb : Option Nat} {g : Int} {f : Nat} {low : Int} {S : List Sk} {T : List Bt} (h : WinAt base w B ms mb g f low S T) {view n : Int} (hE : askE low view n = 0) {b : Nat} (hb : (view, n, b) ∈ S) : Calls Try.prog 18 #[.pointer (some ⟨B, 0, none⟩), .int .i64 view, .int .i64 n] w fun e W' => e = .returned (.tuple #[.pointer (some ⟨b, 0, none⟩), .int .i64 0]) ∧ Below w.heap.size w W' := by
  have hF := wfault_any h view n
  rw [hE] at hF
  obtain ⟨a1, a2, a3, a4⟩ := askE_0 hE
  have l0 := h.low0
  have l1 := h.low1
  have hba : Below w.heap.size w (w.alloc (.cells #[.int .i64 view, .int .i64 n] 76)) := (Below.refl _ w).alloc (Nat.le_refl _) _
  have h1 := h.on hba
  have c3 := h1.c.2.2.2.1
  have hlk : ∀ nq, (Instr.lookup 62 (.map ms) (.agg #[.int .i64 view, .int .i64 n]) true).run Try.prog ((w.alloc (.cells #[.int .i64 view, .int .i64 n] 76)).drewN nq) = .ok (.tuple #[.pointer (some ⟨b, 0, none⟩), .bool true]) ((w.alloc (.cells #[.int .i64 view, .int .i64 n] 76)).drewN nq) := fun nq =>
    ((h1.slots.drewN nq).look law76 Try.underlying62 (Try.zero48 _) (keyOf_place (wf64 (by omega) (by omega)) (wf64 (by omega) (by omega)))).1 _ (List.mem_map.2 ⟨_, hb, rfl⟩)
  have hbq := fun nq => below_drewN hba nq
  have HB : Hid (_) := hbq
  clear h h1 hba hb hE hbq
  go_enter Try.func18, Try.ntmps18
  go_upto_region 5 with (first | (go_at_call 31; refine hF.mono ?_; rintro e w1 ⟨rfl, h9⟩; replace h9 := h9.symm; subst h9))
  go_quiet (fail)
  go_wp2
  exact bodyPost_ret (v := .tuple #[.pointer (some ⟨b, 0, none⟩), .int .i64 0]) (by simp [results, Try.f18, go_sem]) rfl ⟨rfl, HB.out nq⟩
end Go.Proofs.Ytobojfkoffhljaa
