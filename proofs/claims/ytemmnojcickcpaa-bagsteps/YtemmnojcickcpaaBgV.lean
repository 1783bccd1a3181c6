/- The law's step of two bags, walked: a pick; all steps. -/
import Derived.Test.YtemmnojcickcpaaBgU
namespace Go.Proofs.Ytemmnojcickcpaa
open Go.RowKit
attribute [local go_sem ↓] Go.wp_at_zero Go.wp_at_succ

set_option maxRecDepth 20000 in
set_option maxHeartbeats 4000000 in
theorem does_pick {w0 : World} {base B B2 : Nat} {v v2 : Value} {l : List It} {w : World} (h : Tw w0 base B v B2 v2 l w) (hl : l.length < 4096) (i a0 a1 a2 : Int) (a3 : List UInt8) :
    Calls Try.prog 11 #[.pointer (some ⟨B, 0, none⟩), .pointer (some ⟨B2, 0, none⟩), .agg #[.int .i64 2, .int .i64 i, .int .i64 a0, .int .i64 a1, .int .i64 a2, .string (bs a3)]] w fun e W' => e = .returned (.bool true) ∧ ∃ v' v2' l', Tw w0 base B v' B2 v2' l' W' ∧ l'.length ≤ l.length + 1 ∧ Mv2 B v v' B2 v2 v2' w W' := by
  have hb0 : Below w.heap.size w (w.alloc (.cells #[.int .i64 2, .int .i64 i, .int .i64 a0, .int .i64 a1, .int .i64 a2, .string (bs a3)] 33)) := (Below.refl _ w).alloc (Nat.le_refl _) _
  have h0 := h.next hb0
  have hSB : w.heap.size ≠ B := by have := h.bag.lt; omega
  have hSo : v.ownBlock ≠ some w.heap.size := fun e => by have := (h.bag.own.lt _ e).2; omega
  -- what both tell, and what they leave
  obtain ⟨b0, b1, b2, b3, E, l', hl', hok', hA, hR⟩ : ∃ b0 b1 b2 b3 E l', l'.length ≤ l.length + 1 ∧ Hid (∀ x ∈ l', putE x 0 = 0) ∧
      (∀ W, BagAt 70 31 base W B v l 0 → Calls Try.prog 20 #[.pointer (some ⟨B, 0, none⟩), .int .i64 i] W fun e W' => e = .returned (.tuple #[.agg #[.int .i64 b0, .int .i64 b1, .int .i64 b2, .string (bs b3)], .int .i64 E]) ∧ ∃ v', BagAt 70 31 base W' B v' l' 0 ∧ Moved B v v' W W') ∧
      (∀ W, BagAt 29 38 base W B2 v2 l 0 → Calls Try.prog 31 #[.pointer (some ⟨B2, 0, none⟩), .int .i64 i] W fun e W' => e = .returned (.tuple #[.agg #[.int .i64 b0, .int .i64 b1, .int .i64 b2, .string (bs b3)], .int .i64 E]) ∧ ∃ v', BagAt 29 38 base W' B2 v' l' 0 ∧ Moved B2 v2 v' W W') := by
    by_cases hi : i < 0 ∨ (l.length : Int) ≤ i
    · refine ⟨0, 0, 0, [], 6, l, by omega, h.ok, fun W hW => (Pick_no hW i hi).mono ?_, fun W hW => (rPick_no hW i hi).mono ?_⟩
      · rintro e W' ⟨rfl, hb⟩; exact ⟨rfl, v, hW.next hb, Moved.of_below hb _ _⟩
      · rintro e W' ⟨rfl, hb⟩; exact ⟨rfl, v2, hW.next hb, Moved.of_below hb _ _⟩
    · obtain ⟨k, rfl⟩ := Int.eq_ofNat_of_zero_le (show 0 ≤ i by omega)
      obtain ⟨⟨b0, b1, b2, b3⟩, ha⟩ : ∃ a, l[k]? = some a := ⟨_, List.getElem?_eq_getElem (by omega)⟩
      exact ⟨b0, b1, b2, b3, 0, l.eraseIdx k, by have := List.length_eraseIdx_le l k; omega, ok_erase h.ok k, fun W hW => Pick_ok hW (by omega) k b0 b1 b2 b3 ha, fun W hW => rPick_ok hW (by omega) k b0 b1 b2 b3 ha⟩
  go_enter Try.func11, Try.ntmps11
  go_upto_region 6 with fail
  have y0 := heap_alloc_new w (.cells #[.int .i64 2, .int .i64 i, .int .i64 a0, .int .i64 a1, .int .i64 a2, .string (bs a3)] 33)
  obtain ⟨W0, hW0⟩ : ∃ W, w.alloc (.cells #[.int .i64 2, .int .i64 i, .int .i64 a0, .int .i64 a1, .int .i64 a2, .string (bs a3)] 33) = W := ⟨_, rfl⟩
  rw [hW0] at hb0 h0 y0 ⊢
  obtain ⟨S, hS⟩ : ∃ S, w.heap.size = S := ⟨_, rfl⟩
  rw [hS] at y0 hSB hSo ⊢
  have z1 := cellB y0 1 (.int .i64 i) rfl
  have hSl : S < W0.heap.size := (Array.getElem?_eq_some_iff.1 y0).1
  clear hW0 hS
  go_wp2_with fail
  refine (hA _ h0.bag).mono ?_
  rintro e w1 ⟨rfl, v1, hb1, hm1⟩
  have y1 := hm1.far hSl hSB hSo y0
  have hS1 : S < w1.heap.size := (Array.getElem?_eq_some_iff.1 y1).1
  have hr1 := h0.rbag.other hm1 h0.ap
  clear y0 hSl z1
  go_upto_region 7 with fail
  have hb2 : Below w1.heap.size w1 (w1.alloc (.cells #[.int .i64 b0, .int .i64 b1, .int .i64 b2, .string (bs b3)] 31)) := (Below.refl _ _).alloc (Nat.le_refl _) _
  have x2 := heap_alloc_new w1 (.cells #[.int .i64 b0, .int .i64 b1, .int .i64 b2, .string (bs b3)] 31)
  have y2 := (hb2.block S hS1).trans y1
  have hr2 := hr1.next hb2
  have hXB2 : w1.heap.size ≠ B2 := by have := hr1.lt; omega
  have hXo2 : v2.ownBlock ≠ some w1.heap.size := fun e => by have := (hr1.own.lt _ e).2; omega
  obtain ⟨W2, hW2⟩ : ∃ W, w1.alloc (.cells #[.int .i64 b0, .int .i64 b1, .int .i64 b2, .string (bs b3)] 31) = W := ⟨_, rfl⟩
  rw [hW2] at hb2 x2 y2 hr2 ⊢
  obtain ⟨X, hX⟩ : ∃ S, w1.heap.size = S := ⟨_, rfl⟩
  rw [hX] at x2 hXB2 hXo2 ⊢
  have z1 := cellB y2 1 (.int .i64 i) rfl
  have hXl : X < W2.heap.size := (Array.getElem?_eq_some_iff.1 x2).1
  clear hW2 hX y1
  go_wp2_with fail
  refine (hR _ hr2).mono ?_
  rintro e w3 ⟨rfl, v3, hr3, hm3⟩
  have x3 := hm3.far hXl hXB2 hXo2 x2
  have hX3 : X < w3.heap.size := (Array.getElem?_eq_some_iff.1 x3).1
  clear z1 hXl x2
  go_upto_region 8 with fail
  have hb4 : Below w3.heap.size w3 (w3.alloc (.cells #[.int .i64 b0, .int .i64 b1, .int .i64 b2, .string (bs b3)] 38)) := (Below.refl _ _).alloc (Nat.le_refl _) _
  have t4 := heap_alloc_new w3 (.cells #[.int .i64 b0, .int .i64 b1, .int .i64 b2, .string (bs b3)] 38)
  have x4 := (hb4.block X hX3).trans x3
  obtain ⟨W4, hW4⟩ : ∃ W, w3.alloc (.cells #[.int .i64 b0, .int .i64 b1, .int .i64 b2, .string (bs b3)] 38) = W := ⟨_, rfl⟩
  rw [hW4] at hb4 t4 x4 ⊢
  obtain ⟨T, hT⟩ : ∃ S, w3.heap.size = S := ⟨_, rfl⟩
  rw [hT] at t4 ⊢
  have p0 := cellB x4 0 (.int .i64 b0) rfl
  have p1 := cellB x4 1 (.int .i64 b1) rfl
  have p2 := cellB x4 2 (.int .i64 b2) rfl
  have p3 := cellB x4 3 (.string (bs b3)) rfl
  have q0 := cellB t4 0 (.int .i64 b0) rfl
  have q1 := cellB t4 1 (.int .i64 b1) rfl
  have q2 := cellB t4 2 (.int .i64 b2) rfl
  have q3 := cellB t4 3 (.string (bs b3)) rfl
  have hX4 : X < W4.heap.size := (Array.getElem?_eq_some_iff.1 x4).1
  have hT4 : T < W4.heap.size := (Array.getElem?_eq_some_iff.1 t4).1
  have hrf := ref_any b0 b1 b2 b3 W4.drew
  clear hW4 hT x3
  go_region_held3 (fun w' => w'.cell? ⟨X, 0, none⟩ = some (.int .i64 b0) ∧ w'.cell? ⟨X, 1, none⟩ = some (.int .i64 b1) ∧ w'.cell? ⟨X, 2, none⟩ = some (.int .i64 b2) ∧ w'.cell? ⟨X, 3, none⟩ = some (.string (bs b3)) ∧ w'.cell? ⟨T, 0, none⟩ = some (.int .i64 b0) ∧ w'.cell? ⟨T, 1, none⟩ = some (.int .i64 b1) ∧ w'.cell? ⟨T, 2, none⟩ = some (.int .i64 b2) ∧ w'.cell? ⟨T, 3, none⟩ = some (.string (bs b3))) (go_keep)
    (first
      | (go_at_call 15; refine hrf.mono ?_; rintro e w5 ⟨rfl, hb5⟩; have x5 := (hb5.block X hX4).trans x4; have t5 := (hb5.block T hT4).trans t4; have r0 := cellB x5 0 (.int .i64 b0) rfl; have r1 := cellB x5 1 (.int .i64 b1) rfl; have r2 := cellB x5 2 (.int .i64 b2) rfl; have r3 := cellB x5 3 (.string (bs b3)) rfl; have s0 := cellB t5 0 (.int .i64 b0) rfl; have s1 := cellB t5 1 (.int .i64 b1) rfl; have s2 := cellB t5 2 (.int .i64 b2) rfl; have s3 := cellB t5 3 (.string (bs b3)) rfl))
  go_wp2
  go_ret
  have hbZ := (below_drew hb4).trans (hb5.mono (below_drew hb4).size)
  have hmA := hm1.trans (Moved.of_below hb2 B v1)
  exact ⟨rfl, v1, v3, l', (h0.both hmA (hb1.next hb2) hm3 hr3 hok'.out).next hbZ, hl', Mv2.pre hb0 ((Mv2.of hmA hm3).post hbZ)⟩
theorem does_any {w0 : World} {base B B2 : Nat} {v v2 : Value} {l : List It} {w : World} (h : Tw w0 base B v B2 v2 l w) (hl : l.length < 4096) (what i a0 a1 a2 : Int) (a3 : List UInt8) :
    Calls Try.prog 11 #[.pointer (some ⟨B, 0, none⟩), .pointer (some ⟨B2, 0, none⟩), .agg #[.int .i64 what, .int .i64 i, .int .i64 a0, .int .i64 a1, .int .i64 a2, .string (bs a3)]] w fun e W' => e = .returned (.bool true) ∧ ∃ v' v2' l', Tw w0 base B v' B2 v2' l' W' ∧ l'.length ≤ l.length + 1 ∧ Mv2 B v v' B2 v2 v2' w W' := by
  by_cases h1 : what = 0 ∨ what = 1
  · exact does_put h hl what i a0 a1 a2 a3 h1
  by_cases h2 : what = 2
  · subst h2; exact does_pick h hl i a0 a1 a2 a3
  by_cases h3 : what = 3
  · subst h3; exact does_copy h hl i a0 a1 a2 a3
  exact does_other h what i a0 a1 a2 a3 (by omega)
end Go.Proofs.Ytemmnojcickcpaa
