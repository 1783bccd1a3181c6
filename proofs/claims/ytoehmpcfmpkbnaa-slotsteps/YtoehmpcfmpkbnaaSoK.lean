/- A certificate of three votes, walked. -/
import Derived.Test.YtoehmpcfmpkbnaaSoJ
namespace Go.Proofs.Ytoehmpcfmpkbnaa
open Go.RowKit
attribute [local go_sem ↓] Go.wp_at_zero Go.wp_at_succ

/-- The first ones voted a. -/
def Vth (n : Nat) : Vs := fun k j => if k = 0 ∧ j < n then ([97], tag16) else ([], [])
theorem Vth_0 : Vth 0 = fun _ _ => ([], []) := by funext k j; simp [Vth]
theorem Vth_succ (n : Nat) : updV (Vth n) 0 n ([97], tag16) = Vth (n + 1) := by
  funext k j
  unfold updV Vth
  by_cases h : k = 0 ∧ j = n
  · rw [if_pos h, if_pos ⟨h.1, by omega⟩]
  · rw [if_neg h]
    by_cases h2 : k = 0 ∧ j < n
    · rw [if_pos h2, if_pos ⟨h2.1, by omega⟩]
    · rw [if_neg h2, if_neg (by omega)]
theorem Vth_vote (j : Nat) (hj : j < 3) : voteR (Vth j) 1 1 j [97] tag16 = (true, 0, Vth (j + 1)) := by
  rw [← Vth_succ]
  have hcs : j = 0 ∨ j = 1 ∨ j = 2 := by omega
  rcases hcs with rfl | rfl | rfl <;> rfl
theorem Vth_cert : certR (Vth 3) 1 0 1 = some ([97], [(0, tag16), (1, tag16), (2, tag16)]) := by rfl
theorem Vth_votes : votesN (Vth 3) 1 1 = 3 := by rfl
theorem hold3 {W0 : World} {B : Nat} {a b c : Value} {t : TypeId} (r : W0.heap[B]? = some (.cells #[a, b, c] t)) : ∀ W', Below W0.heap.size W0 W' → W'.cell? ⟨B, 0, none⟩ = some a ∧ W'.cell? ⟨B, 1, none⟩ = some b ∧ W'.cell? ⟨B, 2, none⟩ = some c := by
  intro W' h
  have r' := (h.block B (Array.getElem?_eq_some_iff.1 r).1).trans r
  exact ⟨cellB r' 0 _ rfl, cellB r' 1 _ rfl, cellB r' 2 _ rfl⟩
set_option maxRecDepth 20000 in
set_option maxHeartbeats 4000000 in
theorem three_any (w : World) : Calls Try.prog 10 #[] w fun e W' => e = .returned (.bool true) ∧ Below w.heap.size w W' := by
  have hN := New_ok (g := 2) (f := 1) (p := 0) (by rfl) (by decide) (by decide) w
  rw [show ((1 : Nat) : Int) = 1 by rfl, show ((0 : Nat) : Int) = 0 by rfl, ← Vth_0] at hN
  obtain ⟨B, hB⟩ : ∃ B, w.heap.size = B := ⟨_, rfl⟩
  have HB : Hid (w.heap.size = B) := hB
  rw [hB] at hN ⊢
  clear hB
  go_enter Try.func10, Try.ntmps10
  go_wp2_with (first | (go_at_call 8; refine hN.mono ?_; rintro e w1 ⟨rfl, h1, hb1⟩))
  go_loopg [3] 3 (fun gk i wr => ∃ j : Nat, j + gk = 3 ∧ i = .int .i64 j ∧ SlotAt wr B 2 1 0 (Vth j) ∧ Below B w wr)
  case atStart => exact ⟨0, by omega, rfl, h1, hb1⟩
  case round =>
    clear h1 hb1 hN
    obtain ⟨j, hj, rfl, hS, hBe⟩ := hrel
    by_cases hlt : j < 3
    · have hV := Vote_any hS 1 j [97] tag16 true 0 (Vth (j + 1)) (Vth_vote j hlt)
      have m0 : (j : Int) < 3 := by omega
      have ht := tag_any wr
      have HX : Hid (_ ∧ _) := ⟨hS, hBe⟩
      clear hS hBe
      go_wp2_with (first
        | (go_at_call 23; refine ht.mono ?_; rintro e w1 ⟨rfl, h9⟩; replace h9 := h9.symm; subst h9)
        | (go_at_call 11; refine hV.mono ?_; rintro e w2 ⟨rfl, h2, hm2⟩))
      go_roundg (3 - (j + 1))
      case measure => omega
      case rel => exact ⟨j + 1, by omega, by go_num, h2, HX.out.2.trans (hm2.below (Nat.le_refl _) (by rw [← HB.out]; exact HX.out.2.size))⟩
    · have hj3 : j = 3 := by omega
      subst hj3
      have hC : Calls Try.prog 15 #[.pointer (some ⟨B, 0, none⟩), .int .i64 1] wr fun e W' => (∃ v, e = .returned (.tuple #[.agg #[.string (bs [97]), .int .i64 2, v], .bool true]) ∧ W'.ownsRow wr.heap.size 70 2 v 3 (tcs [(0, tag16), (1, tag16), (2, tag16)])) ∧ Below wr.heap.size wr W' := by
        have := Cert_any hS 1
        rw [Vth_cert] at this
        exact this
      have HV : Hid (∀ W, Below wr.heap.size wr W → Calls Try.prog 19 #[.pointer (some ⟨B, 0, none⟩), .int .i64 1] W fun e W' => e = .returned (.int .i64 3) ∧ Below W.heap.size W W') := fun W hW => by
        have := Votes_any (hS.on hW) 1
        rw [Vth_votes] at this
        exact this
      have HX : Hid (_) := hBe
      have hl := bs_list [97]
      clear hS hBe
      go_upto_region 11 with (first
        | (go_at_call 15; refine hC.mono ?_; rintro e w2 ⟨⟨v, rfl, ho⟩, hb2⟩; obtain ⟨ua, uc, hu⟩ := owns_slice ho; subst hu))
      have hB3 := hb2.alloc hb2.size (.cells #[.string (bs [97]), .int .i64 2, .slice ua 3 uc] 49)
      have hV := HV.out _ hB3
      have rN := heap_alloc_new w2 (.cells #[.string (bs [97]), .int .i64 2, .slice ua 3 uc] 49)
      obtain ⟨W3, hW3⟩ : ∃ W, w2.alloc (.cells #[.string (bs [97]), .int .i64 2, .slice ua 3 uc] 49) = W := ⟨_, rfl⟩
      rw [hW3] at hB3 hV rN ⊢
      have u0 := cellB rN 0 _ rfl
      have u1 := cellB rN 1 _ rfl
      have u2 := cellB rN 2 _ rfl
      clear hC HV ho hW3 rN
      go_wp2_with (first
        | (go_at_call 19; refine hV.mono ?_; rintro e w4 ⟨rfl, hb4⟩))
      go_ret
      exact ⟨rfl, HX.out.trans ((hB3.trans (hb4.mono hB3.size)).mono (by rw [← HB.out]; exact HX.out.size))⟩
end Go.Proofs.Ytoehmpcfmpkbnaa
