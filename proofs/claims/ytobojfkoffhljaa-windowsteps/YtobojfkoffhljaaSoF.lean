/- The slot's Vote and Votes, walked. -/
import Derived.Test.YtobojfkoffhljaaSoE
namespace Go.Proofs.Ytobojfkoffhljaa
open Go.RowKit
attribute [local go_sem ↓] Go.wp_at_zero Go.wp_at_succ

/-- What a vote gives: whether it counts, why not, the votes behind it. -/
def voteR (V : Vs) (f : Nat) (kind no : Int) (t g : List UInt8) : Bool × Int × Vs :=
  if faultE (okV f kind no) false t g ≠ 0 then (false, faultE (okV f kind no) false t g, V)
  else if isV (ownV V f kind no).2 = true then (false, 0, V) else (true, 0, updV V (kind - 1).toNat no.toNat (t, g))
theorem Vote_nil (kind no : Int) (t g : List UInt8) (w : World) : Calls Try.prog 19 #[.pointer none, .int .i64 kind, .int .i64 no, .string (bs t), .string (bs g)] w fun e W' => e = .returned (.tuple #[.bool false, .int .i64 (faultE (isK kind && decide (0 ≤ no)) true t g)]) ∧ W' = w := by
  have hF := fault_nil kind no t g
  have hE : (faultE (isK kind && decide (0 ≤ no)) true t g == 0) = false := by
    rw [beq_eq_false_iff_ne]
    intro h
    have := (faultE_0 h).2.2.2
    cases this
  obtain ⟨E, hEe⟩ : ∃ E, faultE (isK kind && decide (0 ≤ no)) true t g = E := ⟨_, rfl⟩
  rw [hEe] at hF hE ⊢
  clear hEe
  go_enter Try.func19, Try.ntmps19
  go_wp2_with (first | (go_at_call 33; refine (hF _).mono ?_; rintro e w1 ⟨rfl, h9⟩; subst h9))
  exact bodyPost_ret (v := .tuple #[.bool false, .int .i64 E]) (by simp [results, Try.f19, go_sem]) rfl ⟨rfl, rfl⟩
set_option maxHeartbeats 2000000 in
theorem Vote_any {w : World} {B : Nat} {gr : Int} {f p : Nat} {V : Vs} (h : SlotAt w B gr f p V) (kind no : Int) (t g : List UInt8) (b : Bool) (E : Int) (V' : Vs) (hR : voteR V f kind no t g = (b, E, V')) : Calls Try.prog 19 #[.pointer (some ⟨B, 0, none⟩), .int .i64 kind, .int .i64 no, .string (bs t), .string (bs g)] w fun e W' => e = .returned (.tuple #[.bool b, .int .i64 E]) ∧ SlotAt W' B gr f p V' ∧ Mv B w W' := by
  have hF := fault_any h kind no t g
  unfold voteR at hR
  split at hR
  · rename_i hE
    simp only [Prod.mk.injEq] at hR
    obtain ⟨rfl, hEe, rfl⟩ := hR
    rw [hEe] at hF hE
    have hE2 : (E == 0) = false := by simpa using hE
    have HX : Hid (_) := h
    clear hEe hE h
    go_enter Try.func19, Try.ntmps19
    go_wp2_with (first | (go_at_call 33; refine hF.mono ?_; rintro e w1 ⟨rfl, h9⟩; replace h9 := h9.symm; subst h9))
    exact bodyPost_ret (v := .tuple #[.bool false, .int .i64 E]) (by simp [results, Try.f19, go_sem]) rfl ⟨rfl, HX.out, Mv.refl _ _⟩
  · rename_i hE
    have hE : faultE (okV f kind no) false t g = 0 := by simpa using hE
    rw [hE] at hF
    obtain ⟨hok, _, _, _⟩ := faultE_0 hE
    have hO := Own_any h kind no
    obtain ⟨k, i, hk, rfl, rfl, hi⟩ := okV_t hok
    rw [ownV_at hk hi] at hR hO
    have f3 := h.f3
    split at hR
    · rename_i hv
      simp only [Prod.mk.injEq] at hR
      obtain ⟨rfl, rfl, rfl⟩ := hR
      rw [hv] at hO
      obtain ⟨⟨vt, vg⟩, hV⟩ : ∃ v, V k i = v := ⟨_, rfl⟩
      rw [hV] at hO
      simp only at hO
      have HX : Hid (_) := h
      clear hE h hok hV hv
      go_enter Try.func19, Try.ntmps19
      go_wp2_with (first | (go_at_call 33; refine hF.mono ?_; rintro e w1 ⟨rfl, h9⟩; replace h9 := h9.symm; subst h9) | (go_at_call 34; refine hO.mono ?_; rintro e w2 ⟨rfl, hb2⟩))
      exact bodyPost_ret (v := .tuple #[.bool false, .int .i64 0]) (by simp [results, Try.f19, go_sem]) rfl ⟨rfl, HX.out.on hb2, Mv.of_below hb2 _⟩
    · rename_i hv
      have hv : isV (V k i).2 = false := by simpa using hv
      simp only [Prod.mk.injEq] at hR
      obtain ⟨rfl, rfl, rfl⟩ := hR
      rw [show ((k : Int) + 1 - 1).toNat = k by omega, Int.toNat_natCast]
      rw [hv] at hO
      obtain ⟨⟨vt, vg⟩, hV⟩ : ∃ v, V k i = v := ⟨_, rfl⟩
      rw [hV] at hO
      simp only at hO
      have HX : Hid (_) := h
      have i9 : i < 10 := by omega
      obtain ⟨n, hn⟩ : ∃ n, 3 * f + 1 = n := ⟨_, rfl⟩
      have h4 : (i : Int) < (n : Int) := by omega
      have h0 : (0 : Int) ≤ (i : Int) := by omega
      have hT : ∀ W, Below w.heap.size w W → Calls Try.prog 35 #[.pointer (some ⟨B, 0, none⟩), .int .i64 ((k : Int) + 1)] W fun e W' => e = .returned (.slice (some ⟨B, 3 + k * 20, none⟩) n 10) ∧ Below w.heap.size w W' := by
        intro W hW
        have := told_any (h.on hW) hk
        rw [hn] at this
        refine this.mono ?_
        rintro e W' ⟨rfl, hb⟩
        exact ⟨rfl, hW.trans (hb.mono hW.size)⟩
      have hC : ∀ W, Below w.heap.size w W → _ := fun W hW => (h.on hW).cv hk i9
      have hS : ∀ W, Below w.heap.size w W → _ := fun W hW => (h.on hW).put hk i9 (t, g)
      have HS : Hid (_ ∧ _) := ⟨hC, hS⟩
      clear hE h hok hV hv hn hC hS
      go_enter Try.func19, Try.ntmps19
      go_upto_region 7 with (first | (go_at_call 33; refine hF.mono ?_; rintro e w1 ⟨rfl, h9⟩; replace h9 := h9.symm; subst h9) | (go_at_call 34; refine hO.mono ?_; rintro e w2 ⟨rfl, hb2⟩))
      obtain ⟨hC, hS⟩ := HS.out
      obtain ⟨o, ho⟩ : ∃ o, 3 + k * 20 = o := ⟨_, rfl⟩
      rw [ho] at hT hC hS
      clear ho HS hF hO HX
      go_wp2_with (first
        | (go_at_call 35; refine (hT _ hb2).mono ?_; rintro e w3 ⟨rfl, hb3⟩; obtain ⟨x0, x1, y0, y1⟩ := hC _ hb3; have HS := hS _ hb3; have HS2 : Hid (_) := HS; clear HS hS hC))
      exact bodyPost_ret (v := .tuple #[.bool true, .int .i64 0]) (by simp [results, Try.f19, go_sem]) rfl ⟨rfl, HS2.out, (Mv.of_below hb3 _).trans (Mv.set2 _ _ _ _ _ _)⟩
end Go.Proofs.Ytobojfkoffhljaa
