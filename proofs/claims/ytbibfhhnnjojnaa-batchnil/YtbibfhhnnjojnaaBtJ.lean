/- The law BatchNil, walked. -/
import Derived.Test.YtbibfhhnnjojnaaBtI
namespace Go.Proofs.Ytbibfhhnnjojnaa
open Go.RowKit
attribute [local go_sem ↓] Go.wp_at_zero Go.wp_at_succ

/-- What a call leaves, beside what is held at all worlds behind W0. -/
theorem keepC {k : Nat} {args : Array Value} {v : Value} (hC : ∀ W, Calls Try.prog k args W fun e W' => e = .returned v ∧ Below W.heap.size W W') {W0 : World} {Z : World → Prop} (hZ : ∀ W', Below W0.heap.size W0 W' → Z W') :
    ∀ W, Below W0.heap.size W0 W → Calls Try.prog k args W fun e W' => e = .returned v ∧ Below W0.heap.size W0 W' ∧ Z W' := by
  intro W hW
  refine (hC W).mono ?_
  rintro e W' ⟨rfl, hb⟩
  have h2 := hW.trans (hb.mono hW.size)
  exact ⟨rfl, h2, hZ W' h2⟩
theorem sameB {k : Nat} {args : Array Value} {v : Value} (hC : ∀ W, Calls Try.prog k args W fun e W' => e = .returned v ∧ W' = W) (W : World) : Calls Try.prog k args W fun e W' => e = .returned v ∧ Below W.heap.size W W' :=
  (hC W).mono fun _ _ h => ⟨h.1, by rw [h.2]; exact Below.refl _ _⟩
theorem hold3 {W0 : World} {B : Nat} {a b c : Value} {t : TypeId} (r : W0.heap[B]? = some (.cells #[a, b, c] t)) : ∀ W', Below W0.heap.size W0 W' → W'.cell? ⟨B, 0, none⟩ = some a ∧ W'.cell? ⟨B, 1, none⟩ = some b ∧ W'.cell? ⟨B, 2, none⟩ = some c := by
  intro W' h
  have r' := (h.block B (Array.getElem?_eq_some_iff.1 r).1).trans r
  exact ⟨cellB r' 0 _ rfl, cellB r' 1 _ rfl, cellB r' 2 _ rfl⟩
theorem okB_f {c n : Int} (h : okB c n = false) : c < 0 ∨ (0 ≤ c ∧ 63 < c) ∨ (0 ≤ c ∧ c ≤ 63 ∧ n < 1) ∨ (0 ≤ c ∧ c ≤ 63 ∧ 1 ≤ n ∧ 1099511627776 < n) := by
  simp [okB, callB] at h; omega
set_option maxRecDepth 20000 in
set_option maxHeartbeats 4000000 in
theorem nil_core (c n : Int) (t : List UInt8) (w : World) (E F : Int) (hA : ∀ W, Calls Try.prog 9 #[.pointer none, .agg #[.int .i64 c, .int .i64 n, .string (bs t)]] W fun e W' => e = .returned (.tuple #[.bool false, .int .i64 E]) ∧ Below W.heap.size W W')
    (hD : ∀ W, Calls Try.prog 12 #[.pointer none, .int .i64 c, .int .i64 n] W fun e W' => e = .returned (.tuple #[.bool false, .int .i64 F]) ∧ Below W.heap.size W W') (hG : ∀ W, Calls Try.prog 14 #[.pointer none, .int .i64 c, .int .i64 n] W fun e W' => e = .returned (.tuple #[.bool false, .int .i64 F]) ∧ Below W.heap.size W W')
    (hcs : (F = 1 ∧ E = 1 ∧ (c < 0 ∨ (0 ≤ c ∧ 63 < c) ∨ (0 ≤ c ∧ c ≤ 63 ∧ n < 1) ∨ (0 ≤ c ∧ c ≤ 63 ∧ 1 ≤ n ∧ 1099511627776 < n))) ∨ (F = 0 ∧ 0 ≤ c ∧ c ≤ 63 ∧ 1 ≤ n ∧ n ≤ 1099511627776 ∧ ((E = 2 ∧ (4000 : Int) < t.length) ∨ (E = 5 ∧ (t.length : Int) ≤ 4000)))) :
    Calls Try.prog 5 #[.agg #[.int .i64 c, .int .i64 n, .string (bs t)]] w fun e W' => e = .returned (.bool true) ∧ Below w.heap.size w W' := by
  have hb0 : Below w.heap.size w (w.alloc (.cells #[.int .i64 c, .int .i64 n, .string (bs t)] 31)) := (Below.refl _ w).alloc (Nat.le_refl _) _
  have hH := hold3 (heap_alloc_new w (.cells #[.int .i64 c, .int .i64 n, .string (bs t)] 31))
  have gA := keepC hA hH
  have gD := keepC hD hH
  have gG := keepC hG hH
  have gT := keepC (sameB Take_nil) hH
  have gH := keepC (Has_nil c n) hH
  have gL := keepC (sameB (Last_nil c)) hH
  have gN := keepC (sameB Len_nil) hH
  have gO := keepC one_any hH
  have hsz : (bs t).size = t.length := bs_size t
  have hS := Below.refl (w.alloc (.cells #[.int .i64 c, .int .i64 n, .string (bs t)] 31)).heap.size (w.alloc (.cells #[.int .i64 c, .int .i64 n, .string (bs t)] 31))
  clear hA hD hG hH
  rcases hcs with ⟨rfl, rfl, k1 | ⟨k1, k2⟩ | ⟨k1, k2, k3⟩ | ⟨k1, k2, k3, k4⟩⟩ | ⟨rfl, k1, k2, k3, k4, ⟨rfl, k5⟩ | ⟨rfl, k5⟩⟩
  all_goals
    try have d4 : decide (n ≤ 1099511627776) = false := by simp; omega
    go_enter Try.func5, Try.ntmps5
    go_wp2_with (first
      | (go_at_call 9; refine (gA _ (by assumption)).mono ?_; rintro e w1 ⟨rfl, hb1, x0, x1, x2⟩)
      | (go_at_call 12; refine (gD _ (by assumption)).mono ?_; rintro e w2 ⟨rfl, hb2, y0, y1, y2⟩)
      | (go_at_call 14; refine (gG _ (by assumption)).mono ?_; rintro e w3 ⟨rfl, hb3, z0, z1, z2⟩)
      | (go_at_call 18; refine (gT _ (by assumption)).mono ?_; rintro e w4 ⟨rfl, hb4, u0, u1, u2⟩)
      | (go_at_call 20; refine (gH _ (by assumption)).mono ?_; rintro e w5 ⟨rfl, hb5, v0, v1, v2⟩)
      | (go_at_call 21; refine (gL _ (by assumption)).mono ?_; rintro e w6 ⟨rfl, hb6, s0, s1, s2⟩)
      | (go_at_call 16; refine (gN _ (by assumption)).mono ?_; rintro e w7 ⟨rfl, hb7, t0, t1, t2⟩)
      | (go_at_call 8; refine (gO _ (by assumption)).mono ?_; rintro e w8 ⟨rfl, hb8, r0, r1, r2⟩))
    go_ret
    exact ⟨by first | rfl | (simp; omega), hb0.trans (hb8.mono hb0.size)⟩
theorem nil_any (c n : Int) (t : List UInt8) (w : World) : Calls Try.prog 5 #[.agg #[.int .i64 c, .int .i64 n, .string (bs t)]] w fun e W' => e = .returned (.bool true) ∧ Below w.heap.size w W' := by
  cases h : okB c n
  · exact nil_core c n t w 1 1 (Add_no none c n t h) (sameB (Done_no none h)) (sameB (Forget_no none h)) (.inl ⟨rfl, rfl, okB_f h⟩)
  · obtain ⟨h1, h2, h3, h4⟩ := okB_t h
    by_cases ht : 4000 < t.length
    · exact nil_core c n t w 2 0 (Add_long none c n t h ht) (sameB (Done_nil h)) (Forget_nil h) (.inr ⟨rfl, h1, by omega, h3, h4, .inl ⟨rfl, by omega⟩⟩)
    · exact nil_core c n t w 5 0 (Add_nil c n t h (by omega)) (sameB (Done_nil h)) (Forget_nil h) (.inr ⟨rfl, h1, by omega, h3, h4, .inr ⟨rfl, by omega⟩⟩)
end Go.Proofs.Ytbibfhhnnjojnaa
