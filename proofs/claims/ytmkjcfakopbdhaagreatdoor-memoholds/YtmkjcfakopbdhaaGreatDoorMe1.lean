import Derived.Test.YtmkjcfakopbdhaaGreatDoorPtA
namespace Go.Proofs.YtmkjcfakopbdhaaGreatDoor
section
open Go.RowKit
attribute [local go_sem ↓] Go.wp_at_zero Go.wp_at_succ

theorem Is_any (g n : Int) (w : World) : Calls Tryz.prog 57 #[.agg #[.int .i64 g, .int .i64 n]] w fun e W' => e = .returned (.bool (decide (isP g n))) ∧ Below w.heap.size w W' := by
  have hb0 : Below w.heap.size w (w.alloc (.cells #[.int .i64 g, .int .i64 n] 23)) := (Below.refl _ w).alloc (Nat.le_refl _) _
  by_cases c1 : -1 ≤ g
  · by_cases c2 : g ≤ 4
    · by_cases c3 : 0 ≤ n
      · by_cases c4 : n ≤ 15
        · rw [decide_eq_true (show isP g n from ⟨c1, c2, c3, c4⟩)]
          go_enter Tryz.func57, Tryz.ntmps57
          go_wp2
          go_ret
          exact ⟨rfl, hb0⟩
        · rw [decide_eq_false (show ¬ isP g n from fun h => c4 h.2.2.2)]
          go_enter Tryz.func57, Tryz.ntmps57
          go_wp2
          go_ret
          exact ⟨rfl, hb0⟩
      · rw [decide_eq_false (show ¬ isP g n from fun h => c3 h.2.2.1)]
        go_enter Tryz.func57, Tryz.ntmps57
        go_wp2
        go_ret
        exact ⟨rfl, hb0⟩
    · rw [decide_eq_false (show ¬ isP g n from fun h => c2 h.2.1)]
      go_enter Tryz.func57, Tryz.ntmps57
      go_wp2
      go_ret
      exact ⟨rfl, hb0⟩
  · rw [decide_eq_false (show ¬ isP g n from fun h => c1 h.1)]
    go_enter Tryz.func57, Tryz.ntmps57
    go_wp2
    go_ret
    exact ⟨rfl, hb0⟩

end
section
open Go.RowKit
attribute [local go_sem ↓] Go.wp_at_zero Go.wp_at_succ

set_option maxRecDepth 20000 in
set_option maxHeartbeats 1000000 in
theorem rName_any (g n : Int) (w : World) :
    Calls Tryz.prog 59 #[.agg #[.int .i64 g, .int .i64 n]] w fun e W' => e = .returned (.tuple #[.string (bs (nameV g n)), .int .i64 (nameE g n)]) ∧ Below w.heap.size w W' := by
  have hb0 : Below w.heap.size w (w.alloc (.cells #[.int .i64 g, .int .i64 n] 23)) := (Below.refl _ w).alloc (Nat.le_refl _) _
  have p0 : (w.alloc (.cells #[.int .i64 g, .int .i64 n] 23)).heap[w.heap.size]? = some (.cells #[.int .i64 g, .int .i64 n] 23) := heap_alloc_new _ _
  have hI := Is_any g n (w.alloc (.cells #[.int .i64 g, .int .i64 n] 23))
  have hlp : w.heap.size < (w.alloc (.cells #[.int .i64 g, .int .i64 n] 23)).heap.size := by simp
  by_cases hp : isP g n
  · rw [show nameE g n = 0 from if_pos hp, show nameV g n = nameL g n from if_pos hp, nameL]
    rw [decide_eq_true hp] at hI
    have ht := name_tot hp
    obtain ⟨h1, h2, h3, h4⟩ := hp
    go_enter Tryz.func59, Tryz.ntmps59
    go_wp2_with fail
    refine hI.mono ?_
    clear hI
    rintro e w1 ⟨rfl, hb1⟩
    have hB1 := hb0.trans (hb1.mono hb0.size)
    have p1 := (hb1.block w.heap.size hlp).trans p0
    have hl1 : w.heap.size < w1.heap.size := (Array.getElem?_eq_some_iff.1 p1).1
    have x0 := cellB p1 0 (.int .i64 g) rfl
    have x1 := cellB p1 1 (.int .i64 n) rfl
    have hB1d : Below w.heap.size w w1.drew := ⟨hB1.os, hB1.tape, hB1.output, hB1.size, hB1.block⟩
    go_wp2_with fail
    go_region_with (first
      | (go_at_call 45; have hg := hB2; refine (rNum_any n _ (by omega) (by omega)).mono ?_; rintro e w3 ⟨rfl, hb3⟩; have hB3 := hB2.trans (hb3.mono hB2.size); have hB4 := hB3.alloc hB3.size (.cells #[.string (bs (Lib.itoa g)), .string (bs (Lib.itoa n))] 9))
      | (go_at_call 45; refine (rNum_any g _ (by omega) (by omega)).mono ?_; rintro e w2 ⟨rfl, hb2⟩; have y1 := (hb2.cell (p := ⟨w.heap.size, 1, none⟩) hl1).trans x1; have hB2 := hB1d.trans (hb2.mono hB1d.size))
      | (go_at_call 44; refine (rPack_any [Lib.itoa g, Lib.itoa n] _ _ (Nat.le_trans ht (by decide)) (by simp) (Sl_built w3 _ _)).mono ?_; rintro e w5 ⟨rfl, hb5⟩; have hB5 := hB4.trans (hb5.mono hB4.size)))
    all_goals (go_wp2; go_ret2; exact ⟨rfl, hB5⟩)
  · rw [show nameE g n = 1 from if_neg hp, show nameV g n = [] from if_neg hp]
    rw [decide_eq_false hp] at hI
    go_enter Tryz.func59, Tryz.ntmps59
    go_wp2_with fail
    refine hI.mono ?_
    rintro e w1 ⟨rfl, hb1⟩
    go_wp2
    go_ret2
    exact ⟨rfl, hb0.trans (hb1.mono hb0.size)⟩
end
end Go.Proofs.YtmkjcfakopbdhaaGreatDoor
