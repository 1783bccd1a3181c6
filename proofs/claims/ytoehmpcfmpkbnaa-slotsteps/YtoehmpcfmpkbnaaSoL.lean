/- The law SlotNil, walked. -/
import Derived.Test.YtoehmpcfmpkbnaaSoK
namespace Go.Proofs.Ytoehmpcfmpkbnaa
open Go.RowKit
attribute [local go_sem ↓] Go.wp_at_zero Go.wp_at_succ

theorem hold4 {W0 : World} {B : Nat} {a b c d : Value} {t : TypeId} (r : W0.heap[B]? = some (.cells #[a, b, c, d] t)) : ∀ W', Below W0.heap.size W0 W' → W'.cell? ⟨B, 0, none⟩ = some a ∧ W'.cell? ⟨B, 1, none⟩ = some b ∧ W'.cell? ⟨B, 2, none⟩ = some c ∧ W'.cell? ⟨B, 3, none⟩ = some d := by
  intro W' h
  have r' := (h.block B (Array.getElem?_eq_some_iff.1 r).1).trans r
  exact ⟨cellB r' 0 _ rfl, cellB r' 1 _ rfl, cellB r' 2 _ rfl, cellB r' 3 _ rfl⟩
set_option maxRecDepth 20000 in
set_option maxHeartbeats 4000000 in
theorem nil_core (kind no : Int) (t g : List UInt8) (w : World) (E : Int) (hA : ∀ W, Calls Try.prog 11 #[.pointer none, .int .i64 kind, .int .i64 no, .string (bs t), .string (bs g)] W fun e W' => e = .returned (.tuple #[.bool false, .int .i64 E]) ∧ W' = W)
    (hcs : (E = 1 ∧ (kind < 1 ∨ (1 ≤ kind ∧ 2 < kind) ∨ (1 ≤ kind ∧ kind ≤ 2 ∧ no < 0))) ∨ (1 ≤ kind ∧ kind ≤ 2 ∧ 0 ≤ no ∧ ((E = 2 ∧ (30000 : Int) < t.length) ∨ (E = 4 ∧ (t.length : Int) ≤ 30000 ∧ ((g.length : Int) == 16) = false) ∨ (E = 7 ∧ (t.length : Int) ≤ 30000 ∧ g.length = 16)))) :
    Calls Try.prog 6 #[.agg #[.int .i64 kind, .int .i64 no, .string (bs t), .string (bs g)]] w fun e W' => e = .returned (.bool true) ∧ Below w.heap.size w W' := by
  have hb0 : Below w.heap.size w (w.alloc (.cells #[.int .i64 kind, .int .i64 no, .string (bs t), .string (bs g)] 34)) := (Below.refl _ w).alloc (Nat.le_refl _) _
  have hH := hold4 (heap_alloc_new w (.cells #[.int .i64 kind, .int .i64 no, .string (bs t), .string (bs g)] 34))
  have gA := keepC (sameB hA) hH
  have gP := keepC (sameB Proposal_nil) hH
  have gC := keepC (Cert_nil kind) hH
  have gO := keepC (sameB (Own_nil kind no)) hH
  have gV := keepC (sameB (Votes_nil kind)) hH
  have gT := keepC three_any hH
  have hsz : (bs t).size = t.length := bs_size t
  have hsg : (bs g).size = g.length := bs_size g
  have hS := Below.refl (w.alloc (.cells #[.int .i64 kind, .int .i64 no, .string (bs t), .string (bs g)] 34)).heap.size (w.alloc (.cells #[.int .i64 kind, .int .i64 no, .string (bs t), .string (bs g)] 34))
  have HH : Hid (_) := hH
  clear hA hH
  rcases hcs with ⟨rfl, k1 | ⟨k1, k2⟩ | ⟨k1, k2, k3⟩⟩ | ⟨k1, k2, k3, ⟨rfl, k4⟩ | ⟨rfl, k4, k5⟩ | ⟨rfl, k4, k5⟩⟩
  all_goals
    try rw [k5] at hsg
    go_enter Try.func6, Try.ntmps6
    go_upto_region 5 with (first
      | (go_at_call 11; refine (gA _ (by assumption)).mono ?_; rintro e w1 ⟨rfl, hb1, x0, x1, x2, x3⟩)
      | (go_at_call 13; refine (gP _ (by assumption)).mono ?_; rintro e w2 ⟨rfl, hb2, y0, y1, y2, y3⟩)
      | (go_at_call 15; refine (gC _ (by assumption)).mono ?_; rintro e w3 ⟨rfl, hb3, z0, z1, z2, z3⟩))
    have hb3a := hb3.alloc hb3.size (.cells #[.string ⟨#[]⟩, .int .i64 0, .slice none 0 0] 49)
    have hca := HH.out _ hb3a
    obtain ⟨W3, hW3⟩ : ∃ W, w3.alloc (.cells #[.string ⟨#[]⟩, .int .i64 0, .slice none 0 0] 49) = W := ⟨_, rfl⟩
    rw [hW3] at hb3a hca ⊢
    obtain ⟨c0, c1, c2, c3⟩ := hca
    clear hW3 hb1 hb2 x0 x1 x2 x3 y0 y1 y2 y3 z0 z1 z2 z3 hb3 gA gP gC
    go_wp2_with (first
      | (go_at_call 17; refine (gO _ (by assumption)).mono ?_; rintro e w4 ⟨rfl, hb4, u0, u1, u2, u3⟩)
      | (go_at_call 19; refine (gV _ (by assumption)).mono ?_; rintro e w6 ⟨rfl, hb6, s0, s1, s2, s3⟩)
      | (go_at_call 10; refine (gT _ (by assumption)).mono ?_; rintro e w8 ⟨rfl, hb8, r0, r1, r2, r3⟩))
    go_ret
    exact ⟨by first | rfl | (simp; omega), hb0.trans (hb8.mono hb0.size)⟩
theorem nil_any (kind no : Int) (t g : List UInt8) (w : World) : Calls Try.prog 6 #[.agg #[.int .i64 kind, .int .i64 no, .string (bs t), .string (bs g)]] w fun e W' => e = .returned (.bool true) ∧ Below w.heap.size w W' := by
  refine nil_core kind no t g w _ (Vote_nil kind no t g) ?_
  by_cases h : isK kind = true ∧ 0 ≤ no
  · obtain ⟨k, hk, rfl⟩ := isK_t h.1
    right
    rw [h.1, show decide (0 ≤ no) = true by simp [h.2], Bool.and_self]
    refine ⟨by omega, by omega, h.2, ?_⟩
    rcases faultE_cases true t g with ⟨e1, k1⟩ | ⟨e1, k1, k2⟩ | ⟨e1, k1, k2⟩
    · exact .inl ⟨e1, by omega⟩
    · exact .inr (.inl ⟨e1, by omega, by simp; omega⟩)
    · exact .inr (.inr ⟨e1, by omega, k2⟩)
  · left
    have hb : (isK kind && decide (0 ≤ no)) = false := by
      cases hk : isK kind
      · rfl
      · have : ¬ 0 ≤ no := fun h2 => h ⟨hk, h2⟩
        simp; omega
    refine ⟨by rw [hb]; rfl, ?_⟩
    cases hk : isK kind
    · have := isK_f hk
      omega
    · have : ¬ 0 ≤ no := fun h2 => h ⟨hk, h2⟩
      obtain ⟨k, hk2, rfl⟩ := isK_t hk
      omega
end Go.Proofs.Ytoehmpcfmpkbnaa
