/- The slot's Own and Proposal, walked. -/
import Derived.Test.YtobojfkoffhljaaSoD
namespace Go.Proofs.Ytobojfkoffhljaa
open Go.RowKit
attribute [local go_sem ↓] Go.wp_at_zero Go.wp_at_succ

/-- A replica's vote. -/
def ownV (V : Vs) (f : Nat) (kind no : Int) : Vt := if okV f kind no = true then V (kind - 1).toNat no.toNat else ([], [])
theorem ownV_no {V : Vs} {f : Nat} {kind no : Int} (h : okV f kind no = false) : ownV V f kind no = ([], []) := by
  unfold ownV; rw [h]; rfl
theorem ownV_at {V : Vs} {f : Nat} {k i : Nat} (hk : k < 2) (hi : i ≤ 3 * f) : ownV V f ((k : Int) + 1) i = V k i := by
  have h : okV f ((k : Int) + 1) i = true := by
    have hcs : k = 0 ∨ k = 1 := by omega
    rcases hcs with rfl | rfl <;> simp [okV, isK, inB] <;> omega
  unfold ownV
  rw [if_pos h, show ((k : Int) + 1 - 1).toNat = k by omega, Int.toNat_natCast]
theorem Own_nil (kind no : Int) (w : World) : Calls Try.prog 34 #[.pointer none, .int .i64 kind, .int .i64 no] w fun e W' => e = .returned (.tuple #[.string (bs []), .string (bs []), .bool false]) ∧ W' = w := by
  by_cases h : no < 0
  · go_enter Try.func34, Try.ntmps34
    go_wp2_with (first | (go_at_call 35; refine (told_nil _ _).mono ?_; rintro e w1 ⟨rfl, h9⟩; subst h9))
    exact bodyPost_ret (v := .tuple #[.string (bs []), .string (bs []), .bool false]) (by simp [results, Try.f34, go_sem, bs]) rfl ⟨rfl, rfl⟩
  · have h2 : 0 ≤ no := by omega
    go_enter Try.func34, Try.ntmps34
    go_wp2_with (first | (go_at_call 35; refine (told_nil _ _).mono ?_; rintro e w1 ⟨rfl, h9⟩; subst h9))
    exact bodyPost_ret (v := .tuple #[.string (bs []), .string (bs []), .bool false]) (by simp [results, Try.f34, go_sem, bs]) rfl ⟨rfl, rfl⟩
set_option maxHeartbeats 2000000 in
theorem Own_any {w : World} {B : Nat} {gr : Int} {f p : Nat} {V : Vs} (h : SlotAt w B gr f p V) (kind no : Int) : Calls Try.prog 34 #[.pointer (some ⟨B, 0, none⟩), .int .i64 kind, .int .i64 no] w fun e W' => e = .returned (.tuple #[.string (bs (ownV V f kind no).1), .string (bs (ownV V f kind no).2), .bool (isV (ownV V f kind no).2)]) ∧ Below w.heap.size w W' := by
  cases hv : okV f kind no
  · rw [ownV_no hv, show isV [] = false by rfl]
    rcases okV_f hv with h1 | ⟨h1, h2⟩ | ⟨h1, h2, h3⟩
    · have hT := told_no B h1
      clear hv h
      by_cases h2 : no < 0
      · go_enter Try.func34, Try.ntmps34
        go_wp2_with (first | (go_at_call 35; refine (hT _).mono ?_; rintro e w1 ⟨rfl, h9⟩; subst h9))
        exact bodyPost_ret (v := .tuple #[.string (bs []), .string (bs []), .bool false]) (by simp [results, Try.f34, go_sem, bs]) rfl ⟨rfl, Below.refl _ _⟩
      · have h3 : 0 ≤ no := by omega
        go_enter Try.func34, Try.ntmps34
        go_wp2_with (first | (go_at_call 35; refine (hT _).mono ?_; rintro e w1 ⟨rfl, h9⟩; subst h9))
        exact bodyPost_ret (v := .tuple #[.string (bs []), .string (bs []), .bool false]) (by simp [results, Try.f34, go_sem, bs]) rfl ⟨rfl, Below.refl _ _⟩
    · obtain ⟨k, hk, rfl⟩ := isK_t h1
      have hT := told_any h hk
      clear hv h h1
      go_enter Try.func34, Try.ntmps34
      go_wp2_with (first | (go_at_call 35; refine hT.mono ?_; rintro e w1 ⟨rfl, hb⟩))
      exact bodyPost_ret (v := .tuple #[.string (bs []), .string (bs []), .bool false]) (by simp [results, Try.f34, go_sem, bs]) rfl ⟨rfl, hb⟩
    · obtain ⟨k, hk, rfl⟩ := isK_t h1
      have hT := told_any h hk
      obtain ⟨n, hn⟩ : ∃ n, 3 * f + 1 = n := ⟨_, rfl⟩
      have h4 : (n : Int) ≤ no := by omega
      rw [hn] at hT
      clear hv h h1 h3 hn
      go_enter Try.func34, Try.ntmps34
      go_wp2_with (first | (go_at_call 35; refine hT.mono ?_; rintro e w1 ⟨rfl, hb⟩))
      exact bodyPost_ret (v := .tuple #[.string (bs []), .string (bs []), .bool false]) (by simp [results, Try.f34, go_sem, bs]) rfl ⟨rfl, hb⟩
  · obtain ⟨k, i, hk, rfl, rfl, hi⟩ := okV_t hv
    rw [ownV_at hk hi]
    have hT := told_any h hk
    obtain ⟨n, hn⟩ : ∃ n, 3 * f + 1 = n := ⟨_, rfl⟩
    have f3 := h.f3
    have i9 : i < 10 := by omega
    have h4 : (i : Int) < (n : Int) := by omega
    have h0 : (0 : Int) ≤ (i : Int) := by omega
    have hne : Nonempty (Cw w) := ⟨⟨w, Below.refl _ _⟩⟩
    have g0 : ∀ x : Cw w, x.w.cell? ⟨B, 3 + k * 20 + i * 2, none⟩ = some (.string (bs (V k i).1)) := fun x => ((h.on x.h).cv hk i9).1
    have g1 : ∀ x : Cw w, x.w.cell? ⟨B, 3 + k * 20 + i * 2 + 1, none⟩ = some (.string (bs (V k i).2)) := fun x => ((h.on x.h).cv hk i9).2.1
    obtain ⟨⟨vt, vg⟩, hV⟩ : ∃ v, V k i = v := ⟨_, rfl⟩
    rw [hV] at g0 g1 ⊢
    simp only at g0 g1 ⊢
    clear hV
    have gI := growC (is_any vt vg) w
    rw [hn] at hT
    clear hv h hn f3
    obtain ⟨o, ho⟩ : ∃ o, 3 + k * 20 = o := ⟨_, rfl⟩
    rw [ho] at hT g0 g1
    clear ho
    go_enter Try.func34, Try.ntmps34
    go_upto_region 4 with (first | (go_at_call 35; refine hT.mono ?_; rintro e w1 ⟨rfl, hb⟩))
    refine wp_region_grow (W0 := w) (by kernel_rfl) (by kernel_rfl) hb ?_
    repeat (quiet_step (first | (go_at_call 38; exact gI _)))
    refine wpQuiet_nil ?_
    rintro _ ⟨xx, rfl⟩
    go_wp2
    exact bodyPost_ret (v := .tuple #[.string (bs vt), .string (bs vg), .bool (isV vg)]) (by simp [results, Try.f34, go_sem]) rfl ⟨rfl, xx.h⟩
theorem Proposal_nil (w : World) : Calls Try.prog 20 #[.pointer none] w fun e W' => e = .returned (.tuple #[.string (bs []), .bool false]) ∧ W' = w := by
  go_enter Try.func20, Try.ntmps20
  go_wp2
  exact bodyPost_ret (v := .tuple #[.string (bs []), .bool false]) (by simp [results, Try.f20, go_sem, bs]) rfl ⟨rfl, rfl⟩
set_option maxHeartbeats 1000000 in
theorem Proposal_any {w : World} {B : Nat} {gr : Int} {f p : Nat} {V : Vs} (h : SlotAt w B gr f p V) : Calls Try.prog 20 #[.pointer (some ⟨B, 0, none⟩)] w fun e W' => e = .returned (.tuple #[.string (bs (V 0 p).1), .bool (isV (V 0 p).2)]) ∧ Below w.heap.size w W' := by
  have c2 := h.c0.2.2
  have hO := Own_any h 1 p
  rw [show ownV V f 1 p = V 0 p from ownV_at (k := 0) (by decide) h.pf] at hO
  obtain ⟨⟨vt, vg⟩, hV⟩ : ∃ v, V 0 p = v := ⟨_, rfl⟩
  rw [hV] at hO ⊢
  simp only at hO ⊢
  clear hV
  obtain ⟨b, hb⟩ : ∃ b, isV vg = b := ⟨_, rfl⟩
  rw [hb] at hO ⊢
  clear h hb
  go_enter Try.func20, Try.ntmps20
  go_wp2_with (first | (go_at_call 34; refine hO.mono ?_; rintro e w1 ⟨rfl, hb⟩))
  exact bodyPost_ret (v := .tuple #[.string (bs vt), .bool b]) (by simp [results, Try.f20, go_sem]) rfl ⟨rfl, hb⟩
end Go.Proofs.Ytobojfkoffhljaa
