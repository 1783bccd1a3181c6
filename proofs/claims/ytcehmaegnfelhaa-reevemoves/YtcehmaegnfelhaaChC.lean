/- Chains: fits, count, compare, MinFunc, MaxFunc, fewest, most, walked. -/
import Derived.Test.YtcehmaegnfelhaaChB
namespace Go.Proofs.Ytcehmaegnfelhaa
open Go.RowKit
attribute [local go_sem ↓] Go.wp_at_zero Go.wp_at_succ

/-- Can a command be done with that configuration? -/
def fitsB (k g s : Int) (ns os : List Int) : Bool :=
  if k = 1 then !isIn ns g else if k = 2 then isIn ns g && decide (1 < ns.length) else isIn ns g && !(os.getD s.toNat 0 == g)
set_option maxHeartbeats 2000000 in
theorem fits_any (num : Int) (gv : Value) (ns : List Int) (a b c d : Int) (k g s : Int) (w : World) (hu : Il w gv ns) (hl : ns.length ≤ 1000) (hs : k ≠ 1 → k ≠ 2 → 0 ≤ s ∧ s < 4) :
    Calls Try.prog 32 #[.agg (cf num gv a b c d), .agg #[.int .i64 k, .int .i64 g, .int .i64 s]] w fun e W' => e = .returned (.bool (fitsB k g s ns [a, b, c, d])) ∧ Below w.heap.size w W' := by
  have hb0 : Below w.heap.size w ((w.alloc (.cells (cf num gv a b c d) 50)).alloc (.cells #[.int .i64 k, .int .i64 g, .int .i64 s] 42)) := ((Below.refl _ w).alloc (Nat.le_refl _) _).alloc (by simp) _
  have r0 : ((w.alloc (.cells (cf num gv a b c d) 50)).alloc (.cells #[.int .i64 k, .int .i64 g, .int .i64 s] 42)).heap[w.heap.size]? = some (.cells (cf num gv a b c d) 50) := (Below.heap_alloc _ _ _ (by simp)).trans (heap_alloc_new _ _)
  have r1 : ((w.alloc (.cells (cf num gv a b c d) 50)).alloc (.cells #[.int .i64 k, .int .i64 g, .int .i64 s] 42)).heap[w.heap.size + 1]? = some (.cells #[.int .i64 k, .int .i64 g, .int .i64 s] 42) := by
    have := heap_alloc_new (w.alloc (.cells (cf num gv a b c d) 50)) (.cells #[.int .i64 k, .int .i64 g, .int .i64 s] 42)
    rw [show (w.alloc (.cells (cf num gv a b c d) 50)).heap.size = w.heap.size + 1 by simp] at this
    exact this
  have hI := Contains_any ns g gv _ (hu.next hb0) hl
  have HW : Hid (∃ W0, (w.alloc (.cells (cf num gv a b c d) 50)).alloc (.cells #[.int .i64 k, .int .i64 g, .int .i64 s] 42) = W0) := ⟨_, rfl⟩
  obtain ⟨W0, hW0⟩ := HW.out
  rw [hW0] at hb0 r0 r1 hI
  have c1 : W0.cell? ⟨w.heap.size, 1, none⟩ = some gv := cellB r0 1 _ rfl
  have d0 : W0.cell? ⟨w.heap.size + 1, 0, none⟩ = some (.int .i64 k) := cellB r1 0 _ rfl
  have d1 : W0.cell? ⟨w.heap.size + 1, 1, none⟩ = some (.int .i64 g) := cellB r1 1 _ rfl
  have d2 : W0.cell? ⟨w.heap.size + 1, 2, none⟩ = some (.int .i64 s) := cellB r1 2 _ rfl
  have HV : Hid ((w.alloc (.cells (cf num gv a b c d) 50)).alloc (.cells #[.int .i64 k, .int .i64 g, .int .i64 s] 42) = W0) := hW0
  have HR : Hid (W0.heap[w.heap.size]? = some (.cells (cf num gv a b c d) 50)) := r0
  obtain ⟨pa, pc, rfl⟩ := hu.slice
  clear hW0 r0 r1 HW hu
  by_cases k1 : k = 1
  · subst k1
    rw [show fitsB 1 g s ns [a, b, c, d] = !isIn ns g from rfl]
    go_enter Try.func32, Try.ntmps32
    go_upto_region 1 with fail
    rw [HV.out]
    clear HV
    go_wp2_with (go_at_call 40; refine hI.mono ?_; rintro e w1 ⟨rfl, h9⟩; subst w1)
    go_ret
    exact ⟨rfl, hb0⟩
  · by_cases k2 : k = 2
    · subst k2
      rw [show fitsB 2 g s ns [a, b, c, d] = (isIn ns g && decide (1 < ns.length)) from rfl]
      cases hj : isIn ns g
      · rw [hj] at hI
        rw [Bool.false_and]
        go_enter Try.func32, Try.ntmps32
        go_upto_region 1 with fail
        rw [HV.out]
        clear HV
        go_wp2_with (go_at_call 40; refine hI.mono ?_; rintro e w1 ⟨rfl, h9⟩; subst w1)
        go_ret
        exact ⟨rfl, hb0⟩
      · rw [hj] at hI
        rw [Bool.true_and]
        go_enter Try.func32, Try.ntmps32
        go_upto_region 1 with fail
        rw [HV.out]
        clear HV
        go_wp2_with (go_at_call 40; refine hI.mono ?_; rintro e w1 ⟨rfl, h9⟩; subst w1)
        go_ret
        exact ⟨by simp; omega, hb0⟩
    · obtain ⟨s0, s4⟩ := hs k1 k2
      obtain ⟨j, rfl⟩ : ∃ j : Nat, s = j := ⟨s.toNat, by omega⟩
      obtain ⟨t, ht⟩ : ∃ t, [a, b, c, d][j]? = some t := ⟨_, List.getElem?_eq_getElem (by simp; omega)⟩
      have x1 : W0.cell? ⟨w.heap.size, 2 + j, none⟩ = some (.int .i64 t) := cellB HR.out _ _ (cf_at num _ a b c d j t ht)
      have hf : fitsB k g j ns [a, b, c, d] = (isIn ns g && !(t == g)) := by
        unfold fitsB
        rw [if_neg k1, if_neg k2]
        have : [a, b, c, d].getD (j : Int).toNat 0 = t := by
          rw [Int.toNat_natCast, List.getD_eq_getElem?_getD, ht]; rfl
        rw [this]
      rw [hf]
      have q1 : (k == 1) = false := by simp [k1]
      have q2 : (k == 2) = false := by simp [k2]
      have j4 : j < 4 := by omega
      clear hf ht k1 k2 hs
      cases hj : isIn ns g
      · rw [hj] at hI
        rw [Bool.false_and]
        clear hj
        go_enter Try.func32, Try.ntmps32
        go_upto_region 1 with fail
        rw [HV.out]
        clear HV
        go_upto_region 7 with (go_at_call 40; refine hI.mono ?_; rintro e w1 ⟨rfl, h9⟩; subst w1)
        go_quiet (fail)
        go_wp2
        go_ret
        exact ⟨rfl, below_drewN hb0 _⟩
      · rw [hj] at hI
        rw [Bool.true_and]
        clear hj
        go_enter Try.func32, Try.ntmps32
        go_upto_region 1 with fail
        rw [HV.out]
        clear HV
        go_upto_region 7 with (go_at_call 40; refine hI.mono ?_; rintro e w1 ⟨rfl, h9⟩; subst w1)
        go_quiet (fail)
        go_wp2
        go_ret
        exact ⟨rfl, below_drewN hb0 _⟩

/-- As Compare answers. -/
def cmpN (x y : Nat) : Int := if x < y then -1 else if y < x then 1 else 0
theorem isNaN_any (x : Int) (w : World) : Calls Try.prog 74 #[.int .i64 x] w fun e W' => e = .returned (.bool false) ∧ W' = w := by
  go_enter Try.func74, Try.ntmps74
  go_wp2
  go_ret
  exact ⟨by simp, rfl⟩
theorem Compare_any (x y : Nat) (w : World) : Calls Try.prog 75 #[.int .i64 x, .int .i64 y] w fun e W' => e = .returned (.int .i64 (cmpN x y)) ∧ W' = w := by
  by_cases h1 : x < y
  · rw [show cmpN x y = -1 by simp [cmpN, h1]]
    go_enter Try.func75, Try.ntmps75
    go_wp2_with (go_at_call 74; refine (isNaN_any _ _).mono ?_; rintro e w1 ⟨rfl, h9⟩; subst w1)
    go_ret
    exact ⟨rfl, rfl⟩
  · by_cases h2 : y < x
    · rw [show cmpN x y = 1 by simp [cmpN, h1, h2]]
      go_enter Try.func75, Try.ntmps75
      go_wp2_with (go_at_call 74; refine (isNaN_any _ _).mono ?_; rintro e w1 ⟨rfl, h9⟩; subst w1)
      go_ret
      exact ⟨rfl, rfl⟩
    · obtain rfl : x = y := by omega
      rw [show cmpN x x = 0 by simp [cmpN]]
      clear h1 h2
      go_enter Try.func75, Try.ntmps75
      go_wp2_with (go_at_call 74; refine (isNaN_any _ _).mono ?_; rintro e w1 ⟨rfl, h9⟩; subst w1)
      go_ret
      exact ⟨rfl, rfl⟩
/-- Loads as cells. -/
abbrev lds (f : Nat → Nat) : Array Value := #[.int .i64 (f 0), .int .i64 (f 1), .int .i64 (f 2), .int .i64 (f 3), .int .i64 (f 4)]
theorem lds_at (f : Nat → Nat) (k : Nat) (h : k ≤ 4) : (lds f)[k]? = some (.int .i64 (f k)) := by
  rcases k with _ | _ | _ | _ | _ | k
  all_goals first | rfl | omega
set_option maxHeartbeats 1000000 in
theorem compare_any (f : Nat → Nat) (x y : Nat) (hx : x ≤ 4) (hy : y ≤ 4) (w : World) : Calls Try.prog 67 #[.agg (lds f), .int .i64 x, .int .i64 y] w fun e W' => e = .returned (.int .i64 (cmpN (f x) (f y))) ∧ Below w.heap.size w W' := by
  have hb0 : Below w.heap.size w (w.alloc (.cells (lds f) 91)) := (Below.refl _ w).alloc (Nat.le_refl _) _
  have r0 := heap_alloc_new w (.cells (lds f) 91)
  obtain ⟨W0, hW0⟩ : ∃ W, w.alloc (.cells (lds f) 91) = W := ⟨_, rfl⟩
  rw [hW0] at hb0 r0
  have c0 : W0.cell? ⟨w.heap.size, x, none⟩ = some (.int .i64 (f x)) := cellB r0 x _ (lds_at f x hx)
  have c1 : W0.cell? ⟨w.heap.size, y, none⟩ = some (.int .i64 (f y)) := cellB r0 y _ (lds_at f y hy)
  have HW : Hid (w.alloc (.cells (lds f) 91) = W0) := hW0
  have hC := fun n => Compare_any (f x) (f y) (W0.drewN n)
  have x5 : x < 5 := by omega
  have y5 : y < 5 := by omega
  clear r0 hW0 hx hy
  go_enter Try.func67, Try.ntmps67
  go_upto_region 1 with fail
  rw [HW.out]
  clear HW
  go_quiet (first | (go_at_call 75; refine Calls.quiet_of_same (hC _)))
  go_wp2
  go_ret
  exact ⟨rfl, below_drewN hb0 _⟩
end Go.Proofs.Ytcehmaegnfelhaa
