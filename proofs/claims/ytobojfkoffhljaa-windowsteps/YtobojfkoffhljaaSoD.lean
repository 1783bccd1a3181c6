/- The slot's fault, told and Own, walked at a slot. -/
import Derived.Test.YtobojfkoffhljaaSoC
namespace Go.Proofs.Ytobojfkoffhljaa
open Go.RowKit
attribute [local go_sem ↓] Go.wp_at_zero Go.wp_at_succ

/-- Are they a kind and a replica? -/
def okV (f : Nat) (kind no : Int) : Bool := isK kind && inB no (3 * (f : Int))
theorem okV_t {f : Nat} {kind no : Int} (h : okV f kind no = true) : ∃ k i : Nat, k < 2 ∧ kind = (k : Int) + 1 ∧ no = i ∧ i ≤ 3 * f := by
  simp [okV] at h
  obtain ⟨k, hk, rfl⟩ := isK_t h.1
  obtain ⟨h1, h2⟩ := inB_t h.2
  exact ⟨k, no.toNat, hk, rfl, by omega, by omega⟩
theorem okV_f {f : Nat} {kind no : Int} (h : okV f kind no = false) : isK kind = false ∨ (isK kind = true ∧ no < 0) ∨ (isK kind = true ∧ 0 ≤ no ∧ 3 * (f : Int) < no) := by
  unfold okV at h
  cases h1 : isK kind
  · exact .inl rfl
  · rw [h1] at h
    rcases inB_f (by simpa using h) with h2 | ⟨h2, h3⟩
    · exact .inr (.inl ⟨rfl, h2⟩)
    · exact .inr (.inr ⟨rfl, h2, h3⟩)
set_option maxHeartbeats 1000000 in
theorem fault_any {w : World} {B : Nat} {gr : Int} {f p : Nat} {V : Vs} (h : SlotAt w B gr f p V) (kind no : Int) (t g : List UInt8) : Calls Try.prog 33 #[.pointer (some ⟨B, 0, none⟩), .int .i64 kind, .int .i64 no, .string (bs t), .string (bs g)] w fun e W' => e = .returned (.int .i64 (faultE (okV f kind no) false t g)) ∧ W' = w := by
  have hsz : (bs t).size = t.length := bs_size t
  have hsg : (bs g).size = g.length := bs_size g
  have c1 := h.c0.2.1
  have f3 : (f : Int) ≤ 3 := by have := h.f3; omega
  cases hv : okV f kind no
  · rw [show faultE false false t g = 1 by rfl]
    rcases okV_f hv with h1 | ⟨h1, h2⟩ | ⟨h1, h2, h3⟩
    all_goals
      clear hv h
      go_enter Try.func33, Try.ntmps33
      go_wp2_with (first | (go_at_call 43; refine (isKind_any _ _).mono ?_; rintro e w1 ⟨rfl, h9⟩; subst h9))
      go_ret
      exact ⟨rfl, rfl⟩
  · obtain ⟨k, i, hk, rfl, rfl, hi⟩ := okV_t hv
    have h1 : isK ((k : Int) + 1) = true := by simp [okV] at hv; exact hv.1
    have h2 : (i : Int) ≤ 3 * (f : Int) := by omega
    clear hv h
    rcases faultE_cases false t g with ⟨e1, k1⟩ | ⟨e1, k1, k2⟩ | ⟨e1, k1, k2⟩
    all_goals
      rw [e1]
      clear e1
    · have k3 : (30000 : Int) < (t.length : Int) := by omega
      go_enter Try.func33, Try.ntmps33
      go_wp2_with (first | (go_at_call 43; refine (isKind_any _ _).mono ?_; rintro e w1 ⟨rfl, h9⟩; subst h9))
      go_ret
      exact ⟨rfl, rfl⟩
    · have k3 : (t.length : Int) ≤ 30000 := by omega
      have k4 : ((g.length : Int) == 16) = false := by simp; omega
      clear k2
      go_enter Try.func33, Try.ntmps33
      go_wp2_with (first | (go_at_call 43; refine (isKind_any _ _).mono ?_; rintro e w1 ⟨rfl, h9⟩; subst h9))
      go_ret
      exact ⟨rfl, rfl⟩
    · have k3 : (t.length : Int) ≤ 30000 := by omega
      rw [k2] at hsg
      go_enter Try.func33, Try.ntmps33
      go_wp2_with (first | (go_at_call 43; refine (isKind_any _ _).mono ?_; rintro e w1 ⟨rfl, h9⟩; subst h9))
      go_ret
      exact ⟨rfl, rfl⟩
theorem told_nil (kind : Int) (w : World) : Calls Try.prog 35 #[.pointer none, .int .i64 kind] w fun e W' => e = .returned (.slice none 0 0) ∧ W' = w := by
  go_enter Try.func35, Try.ntmps35
  go_wp2
  go_ret
  exact ⟨rfl, rfl⟩
theorem told_no (B : Nat) {kind : Int} (h : isK kind = false) (w : World) : Calls Try.prog 35 #[.pointer (some ⟨B, 0, none⟩), .int .i64 kind] w fun e W' => e = .returned (.slice none 0 0) ∧ W' = w := by
  go_enter Try.func35, Try.ntmps35
  go_wp2_with (first | (go_at_call 43; refine (isKind_any _ _).mono ?_; rintro e w1 ⟨rfl, h9⟩; subst h9))
  go_ret
  exact ⟨rfl, rfl⟩
theorem wrap_id {x : Int} (h1 : -1000000 ≤ x) (h2 : x ≤ 1000000) : IntKind.i64.wrap x = x := by
  simp only [IntKind.wrap, IntKind.bits, IntKind.signed]
  simp
  omega
set_option maxHeartbeats 1000000 in
theorem told_any {w : World} {B : Nat} {gr : Int} {f p : Nat} {V : Vs} (h : SlotAt w B gr f p V) {k : Nat} (hk : k < 2) : Calls Try.prog 35 #[.pointer (some ⟨B, 0, none⟩), .int .i64 ((k : Int) + 1)] w fun e W' => e = .returned (.slice (some ⟨B, 3 + k * 20, none⟩) (3 * f + 1) 10) ∧ Below w.heap.size w W' := by
  have c1 := h.c0.2.1
  have f3 : f ≤ 3 := h.f3
  have hbq := fun n => below_drewN (Below.refl w.heap.size w) n
  clear h
  have v0 : IntKind.i64.wrap 0 = 0 := by rfl
  have v1 : IntKind.i64.wrap 1 = 1 := by rfl
  obtain ⟨m, hm⟩ : ∃ m, 3 * (f : Int) = m := ⟨_, rfl⟩
  obtain ⟨n, hn⟩ : ∃ n, 3 * f + 1 = n := ⟨_, rfl⟩
  have v2 : IntKind.i64.wrap (3 * (f : Int)) = m := by rw [← hm]; exact wrap_id (by omega) (by omega)
  have v3 : IntKind.i64.wrap (m + 1) = (n : Int) := by rw [show m + 1 = (n : Int) by omega]; exact wrap_id (by omega) (by omega)
  have n0 : (n : Int) ≤ 10 := by omega
  rw [hn]
  clear hm hn f3
  have hcs : k = 0 ∨ k = 1 := by omega
  rcases hcs with rfl | rfl
  all_goals
    go_enter Try.func35, Try.ntmps35
    go_upto_region 3 with (first | (go_at_call 43; refine (isKind_any _ _).mono ?_; rintro e w1 ⟨rfl, h9⟩; subst h9))
    go_quiet (fail)
    go_wp2
    go_ret
    exact ⟨rfl, hbq _⟩
end Go.Proofs.Ytobojfkoffhljaa
