/- plea's small functions, walked. -/
import Derived.Test.YtihilkdokfdoeaaDoorPa3
namespace Go.Proofs.YtihilkdokfdoeaaDoor
open Go.RowKit Go.Maps
attribute [local go_sem ↓] Go.wp_at_zero Go.wp_at_succ

set_option maxRecDepth 20000 in
theorem isOpen_any (cl no kind : Int) (k v o : List UInt8) (fr tt E : Int) (T : List UInt8) (w : World) : Calls Tryd.prog 30 #[cV cl no kind k v o fr tt E T] w fun e W' => e = .returned (.bool (decide (tt = -1))) ∧ Below w.heap.size w W' := by
  by_cases h : tt = -1
  · subst h
    go_enter Tryd.func30, Tryd.ntmps30
    go_wp2
    go_ret
    exact ⟨rfl, (Below.refl _ w).alloc (Nat.le_refl _) _⟩
  · have hq : (tt == -1) = false := by simpa using h
    rw [decide_eq_false h]
    go_enter Tryd.func30, Tryd.ntmps30
    go_wp2
    go_ret
    exact ⟨by simp, (Below.refl _ w).alloc (Nat.le_refl _) _⟩
set_option maxRecDepth 20000 in
theorem took_o0 (cl no kind : Int) (k v o : List UInt8) (fr tt E : Int) (T : List UInt8) (now : Int) (w : World) (h1 : tt = -1) (h2 : fr < 0) : Calls Tryd.prog 29 #[.agg #[.int .i64 cl, .int .i64 no, .int .i64 kind, .string (bs k), .string (bs v), .string (bs o), .int .i64 fr, .int .i64 tt, .int .i64 E, .string (bs T)], .int .i64 now] w fun e W' => e = .returned (.int .i64 (0)) ∧ Below w.heap.size w W' := by
  obtain ⟨W2, hW2⟩ : ∃ W, w.alloc (.cells #[.int .i64 cl, .int .i64 no, .int .i64 kind, .string (bs k), .string (bs v), .string (bs o), .int .i64 fr, .int .i64 tt, .int .i64 E, .string (bs T)] 51) = W := ⟨_, rfl⟩
  have z := heap_alloc_new w (.cells #[.int .i64 cl, .int .i64 no, .int .i64 kind, .string (bs k), .string (bs v), .string (bs o), .int .i64 fr, .int .i64 tt, .int .i64 E, .string (bs T)] 51)
  have hb := (Below.refl w.heap.size w).alloc (Nat.le_refl _) (.cells #[.int .i64 cl, .int .i64 no, .int .i64 kind, .string (bs k), .string (bs v), .string (bs o), .int .i64 fr, .int .i64 tt, .int .i64 E, .string (bs T)] 51)
  rw [hW2] at z hb
  have hs : w.heap.size < W2.heap.size := by rw [← hW2, World.size_alloc]; omega
  obtain ⟨N, hN⟩ : ∃ N, w.heap.size = N := ⟨_, rfl⟩
  rw [hN] at z hb hs
  have hO := isOpen_any cl no kind k v o fr tt E T W2
  rw [show decide (tt = -1) = true by simp [h1]] at hO
  have HO : Hid (Calls Tryd.prog 30 #[.agg #[.int .i64 cl, .int .i64 no, .int .i64 kind, .string (bs k), .string (bs v), .string (bs o), .int .i64 fr, .int .i64 tt, .int .i64 E, .string (bs T)]] W2 fun e W' => e = .returned (.bool true) ∧ Below N w W' ∧ W'.heap[N]? = some (.cells #[.int .i64 cl, .int .i64 no, .int .i64 kind, .string (bs k), .string (bs v), .string (bs o), .int .i64 fr, .int .i64 tt, .int .i64 E, .string (bs T)] 51)) := hO.mono fun e W' hh => ⟨hh.1, hb.trans (hh.2.mono (by omega)), (hh.2.block N hs).trans z⟩
  have HN : Hid (w.heap.size = N) := hN
  have HW : Hid (w.alloc (.cells #[.int .i64 cl, .int .i64 no, .int .i64 kind, .string (bs k), .string (bs v), .string (bs o), .int .i64 fr, .int .i64 tt, .int .i64 E, .string (bs T)] 51) = W2) := hW2
  have g0 := cellB z 0 _ rfl
  have g1 := cellB z 1 _ rfl
  have g2 := cellB z 2 _ rfl
  have g3 := cellB z 3 _ rfl
  have g4 := cellB z 4 _ rfl
  have g5 := cellB z 5 _ rfl
  have g6 := cellB z 6 _ rfl
  have g7 := cellB z 7 _ rfl
  have g8 := cellB z 8 _ rfl
  have g9 := cellB z 9 _ rfl
  clear hO hN hW2 z hb hs h1
  go_enter Tryd.func29, Tryd.ntmps29
  go_upto_region 1 with fail
  rw [HW.out]
  try rw [HN.out]
  go_upto_region 3 with (first | (go_at_call 30; refine HO.out.mono ?_; clear HO g0 g1 g2 g3 g4 g5 g6 g7 g8 g9; rintro e w1 ⟨rfl, hb1, z1⟩; have y6 := cellB z1 6 _ rfl))
  have HB : Hid (Below N w w1) := hb1
  clear hb1 z1
  go_wp2
  go_ret
  exact ⟨rfl, by rw [HN.out]; exact HB.out⟩
set_option maxRecDepth 20000 in
theorem took_o1 (cl no kind : Int) (k v o : List UInt8) (fr tt E : Int) (T : List UInt8) (now : Int) (w : World) (h1 : tt = -1) (h2 : ¬ fr < 0) (h3 : now < fr) : Calls Tryd.prog 29 #[.agg #[.int .i64 cl, .int .i64 no, .int .i64 kind, .string (bs k), .string (bs v), .string (bs o), .int .i64 fr, .int .i64 tt, .int .i64 E, .string (bs T)], .int .i64 now] w fun e W' => e = .returned (.int .i64 (0)) ∧ Below w.heap.size w W' := by
  obtain ⟨W2, hW2⟩ : ∃ W, w.alloc (.cells #[.int .i64 cl, .int .i64 no, .int .i64 kind, .string (bs k), .string (bs v), .string (bs o), .int .i64 fr, .int .i64 tt, .int .i64 E, .string (bs T)] 51) = W := ⟨_, rfl⟩
  have z := heap_alloc_new w (.cells #[.int .i64 cl, .int .i64 no, .int .i64 kind, .string (bs k), .string (bs v), .string (bs o), .int .i64 fr, .int .i64 tt, .int .i64 E, .string (bs T)] 51)
  have hb := (Below.refl w.heap.size w).alloc (Nat.le_refl _) (.cells #[.int .i64 cl, .int .i64 no, .int .i64 kind, .string (bs k), .string (bs v), .string (bs o), .int .i64 fr, .int .i64 tt, .int .i64 E, .string (bs T)] 51)
  rw [hW2] at z hb
  have hs : w.heap.size < W2.heap.size := by rw [← hW2, World.size_alloc]; omega
  obtain ⟨N, hN⟩ : ∃ N, w.heap.size = N := ⟨_, rfl⟩
  rw [hN] at z hb hs
  have hO := isOpen_any cl no kind k v o fr tt E T W2
  rw [show decide (tt = -1) = true by simp [h1]] at hO
  have HO : Hid (Calls Tryd.prog 30 #[.agg #[.int .i64 cl, .int .i64 no, .int .i64 kind, .string (bs k), .string (bs v), .string (bs o), .int .i64 fr, .int .i64 tt, .int .i64 E, .string (bs T)]] W2 fun e W' => e = .returned (.bool true) ∧ Below N w W' ∧ W'.heap[N]? = some (.cells #[.int .i64 cl, .int .i64 no, .int .i64 kind, .string (bs k), .string (bs v), .string (bs o), .int .i64 fr, .int .i64 tt, .int .i64 E, .string (bs T)] 51)) := hO.mono fun e W' hh => ⟨hh.1, hb.trans (hh.2.mono (by omega)), (hh.2.block N hs).trans z⟩
  have HN : Hid (w.heap.size = N) := hN
  have HW : Hid (w.alloc (.cells #[.int .i64 cl, .int .i64 no, .int .i64 kind, .string (bs k), .string (bs v), .string (bs o), .int .i64 fr, .int .i64 tt, .int .i64 E, .string (bs T)] 51) = W2) := hW2
  have g0 := cellB z 0 _ rfl
  have g1 := cellB z 1 _ rfl
  have g2 := cellB z 2 _ rfl
  have g3 := cellB z 3 _ rfl
  have g4 := cellB z 4 _ rfl
  have g5 := cellB z 5 _ rfl
  have g6 := cellB z 6 _ rfl
  have g7 := cellB z 7 _ rfl
  have g8 := cellB z 8 _ rfl
  have g9 := cellB z 9 _ rfl
  clear hO hN hW2 z hb hs h1
  go_enter Tryd.func29, Tryd.ntmps29
  go_upto_region 1 with fail
  rw [HW.out]
  try rw [HN.out]
  go_upto_region 3 with (first | (go_at_call 30; refine HO.out.mono ?_; clear HO g0 g1 g2 g3 g4 g5 g6 g7 g8 g9; rintro e w1 ⟨rfl, hb1, z1⟩; have y6 := cellB z1 6 _ rfl))
  have HB : Hid (Below N w w1) := hb1
  clear hb1 z1
  go_wp2
  go_ret
  exact ⟨rfl, by rw [HN.out]; exact HB.out⟩
set_option maxRecDepth 20000 in
theorem took_o2 (cl no kind : Int) (k v o : List UInt8) (fr tt E : Int) (T : List UInt8) (now : Int) (w : World) (h1 : tt = -1) (h2 : ¬ fr < 0) (h3 : ¬ now < fr) : Calls Tryd.prog 29 #[.agg #[.int .i64 cl, .int .i64 no, .int .i64 kind, .string (bs k), .string (bs v), .string (bs o), .int .i64 fr, .int .i64 tt, .int .i64 E, .string (bs T)], .int .i64 now] w fun e W' => e = .returned (.int .i64 (wrap64 (now - fr))) ∧ Below w.heap.size w W' := by
  obtain ⟨W2, hW2⟩ : ∃ W, w.alloc (.cells #[.int .i64 cl, .int .i64 no, .int .i64 kind, .string (bs k), .string (bs v), .string (bs o), .int .i64 fr, .int .i64 tt, .int .i64 E, .string (bs T)] 51) = W := ⟨_, rfl⟩
  have z := heap_alloc_new w (.cells #[.int .i64 cl, .int .i64 no, .int .i64 kind, .string (bs k), .string (bs v), .string (bs o), .int .i64 fr, .int .i64 tt, .int .i64 E, .string (bs T)] 51)
  have hb := (Below.refl w.heap.size w).alloc (Nat.le_refl _) (.cells #[.int .i64 cl, .int .i64 no, .int .i64 kind, .string (bs k), .string (bs v), .string (bs o), .int .i64 fr, .int .i64 tt, .int .i64 E, .string (bs T)] 51)
  rw [hW2] at z hb
  have hs : w.heap.size < W2.heap.size := by rw [← hW2, World.size_alloc]; omega
  obtain ⟨N, hN⟩ : ∃ N, w.heap.size = N := ⟨_, rfl⟩
  rw [hN] at z hb hs
  have hO := isOpen_any cl no kind k v o fr tt E T W2
  rw [show decide (tt = -1) = true by simp [h1]] at hO
  have HO : Hid (Calls Tryd.prog 30 #[.agg #[.int .i64 cl, .int .i64 no, .int .i64 kind, .string (bs k), .string (bs v), .string (bs o), .int .i64 fr, .int .i64 tt, .int .i64 E, .string (bs T)]] W2 fun e W' => e = .returned (.bool true) ∧ Below N w W' ∧ W'.heap[N]? = some (.cells #[.int .i64 cl, .int .i64 no, .int .i64 kind, .string (bs k), .string (bs v), .string (bs o), .int .i64 fr, .int .i64 tt, .int .i64 E, .string (bs T)] 51)) := hO.mono fun e W' hh => ⟨hh.1, hb.trans (hh.2.mono (by omega)), (hh.2.block N hs).trans z⟩
  have HN : Hid (w.heap.size = N) := hN
  have HW : Hid (w.alloc (.cells #[.int .i64 cl, .int .i64 no, .int .i64 kind, .string (bs k), .string (bs v), .string (bs o), .int .i64 fr, .int .i64 tt, .int .i64 E, .string (bs T)] 51) = W2) := hW2
  have g0 := cellB z 0 _ rfl
  have g1 := cellB z 1 _ rfl
  have g2 := cellB z 2 _ rfl
  have g3 := cellB z 3 _ rfl
  have g4 := cellB z 4 _ rfl
  have g5 := cellB z 5 _ rfl
  have g6 := cellB z 6 _ rfl
  have g7 := cellB z 7 _ rfl
  have g8 := cellB z 8 _ rfl
  have g9 := cellB z 9 _ rfl
  clear hO hN hW2 z hb hs h1
  go_enter Tryd.func29, Tryd.ntmps29
  go_upto_region 1 with fail
  rw [HW.out]
  try rw [HN.out]
  go_upto_region 3 with (first | (go_at_call 30; refine HO.out.mono ?_; clear HO g0 g1 g2 g3 g4 g5 g6 g7 g8 g9; rintro e w1 ⟨rfl, hb1, z1⟩; have y6 := cellB z1 6 _ rfl))
  have HB : Hid (Below N w w1) := hb1
  clear hb1 z1
  go_wp2
  go_ret
  exact ⟨rfl, by rw [HN.out]; exact HB.out⟩
set_option maxRecDepth 20000 in
theorem took_a0 (cl no kind : Int) (k v o : List UInt8) (fr tt E : Int) (T : List UInt8) (now : Int) (w : World) (h1 : ¬ tt = -1) (h2 : fr < 0) : Calls Tryd.prog 29 #[.agg #[.int .i64 cl, .int .i64 no, .int .i64 kind, .string (bs k), .string (bs v), .string (bs o), .int .i64 fr, .int .i64 tt, .int .i64 E, .string (bs T)], .int .i64 now] w fun e W' => e = .returned (.int .i64 (0)) ∧ Below w.heap.size w W' := by
  obtain ⟨W2, hW2⟩ : ∃ W, w.alloc (.cells #[.int .i64 cl, .int .i64 no, .int .i64 kind, .string (bs k), .string (bs v), .string (bs o), .int .i64 fr, .int .i64 tt, .int .i64 E, .string (bs T)] 51) = W := ⟨_, rfl⟩
  have z := heap_alloc_new w (.cells #[.int .i64 cl, .int .i64 no, .int .i64 kind, .string (bs k), .string (bs v), .string (bs o), .int .i64 fr, .int .i64 tt, .int .i64 E, .string (bs T)] 51)
  have hb := (Below.refl w.heap.size w).alloc (Nat.le_refl _) (.cells #[.int .i64 cl, .int .i64 no, .int .i64 kind, .string (bs k), .string (bs v), .string (bs o), .int .i64 fr, .int .i64 tt, .int .i64 E, .string (bs T)] 51)
  rw [hW2] at z hb
  have hs : w.heap.size < W2.heap.size := by rw [← hW2, World.size_alloc]; omega
  obtain ⟨N, hN⟩ : ∃ N, w.heap.size = N := ⟨_, rfl⟩
  rw [hN] at z hb hs
  have hO := isOpen_any cl no kind k v o fr tt E T W2
  rw [show decide (tt = -1) = false by simp [h1]] at hO
  have HO : Hid (Calls Tryd.prog 30 #[.agg #[.int .i64 cl, .int .i64 no, .int .i64 kind, .string (bs k), .string (bs v), .string (bs o), .int .i64 fr, .int .i64 tt, .int .i64 E, .string (bs T)]] W2 fun e W' => e = .returned (.bool false) ∧ Below N w W' ∧ W'.heap[N]? = some (.cells #[.int .i64 cl, .int .i64 no, .int .i64 kind, .string (bs k), .string (bs v), .string (bs o), .int .i64 fr, .int .i64 tt, .int .i64 E, .string (bs T)] 51)) := hO.mono fun e W' hh => ⟨hh.1, hb.trans (hh.2.mono (by omega)), (hh.2.block N hs).trans z⟩
  have HN : Hid (w.heap.size = N) := hN
  have HW : Hid (w.alloc (.cells #[.int .i64 cl, .int .i64 no, .int .i64 kind, .string (bs k), .string (bs v), .string (bs o), .int .i64 fr, .int .i64 tt, .int .i64 E, .string (bs T)] 51) = W2) := hW2
  have g0 := cellB z 0 _ rfl
  have g1 := cellB z 1 _ rfl
  have g2 := cellB z 2 _ rfl
  have g3 := cellB z 3 _ rfl
  have g4 := cellB z 4 _ rfl
  have g5 := cellB z 5 _ rfl
  have g6 := cellB z 6 _ rfl
  have g7 := cellB z 7 _ rfl
  have g8 := cellB z 8 _ rfl
  have g9 := cellB z 9 _ rfl
  clear hO hN hW2 z hb hs h1
  go_enter Tryd.func29, Tryd.ntmps29
  go_upto_region 1 with fail
  rw [HW.out]
  try rw [HN.out]
  go_upto_region 4 with (first | (go_at_call 30; refine HO.out.mono ?_; clear HO g0 g1 g2 g3 g4 g5 g6 g7 g8 g9; rintro e w1 ⟨rfl, hb1, z1⟩; have y6 := cellB z1 6 _ rfl))
  have HB : Hid (Below N w w1) := hb1
  clear hb1 z1
  go_wp2
  go_ret
  exact ⟨rfl, by rw [HN.out]; exact HB.out⟩
set_option maxRecDepth 20000 in
theorem took_a1 (cl no kind : Int) (k v o : List UInt8) (fr tt E : Int) (T : List UInt8) (now : Int) (w : World) (h1 : ¬ tt = -1) (h2 : ¬ fr < 0) (h3 : tt < fr) : Calls Tryd.prog 29 #[.agg #[.int .i64 cl, .int .i64 no, .int .i64 kind, .string (bs k), .string (bs v), .string (bs o), .int .i64 fr, .int .i64 tt, .int .i64 E, .string (bs T)], .int .i64 now] w fun e W' => e = .returned (.int .i64 (0)) ∧ Below w.heap.size w W' := by
  obtain ⟨W2, hW2⟩ : ∃ W, w.alloc (.cells #[.int .i64 cl, .int .i64 no, .int .i64 kind, .string (bs k), .string (bs v), .string (bs o), .int .i64 fr, .int .i64 tt, .int .i64 E, .string (bs T)] 51) = W := ⟨_, rfl⟩
  have z := heap_alloc_new w (.cells #[.int .i64 cl, .int .i64 no, .int .i64 kind, .string (bs k), .string (bs v), .string (bs o), .int .i64 fr, .int .i64 tt, .int .i64 E, .string (bs T)] 51)
  have hb := (Below.refl w.heap.size w).alloc (Nat.le_refl _) (.cells #[.int .i64 cl, .int .i64 no, .int .i64 kind, .string (bs k), .string (bs v), .string (bs o), .int .i64 fr, .int .i64 tt, .int .i64 E, .string (bs T)] 51)
  rw [hW2] at z hb
  have hs : w.heap.size < W2.heap.size := by rw [← hW2, World.size_alloc]; omega
  obtain ⟨N, hN⟩ : ∃ N, w.heap.size = N := ⟨_, rfl⟩
  rw [hN] at z hb hs
  have hO := isOpen_any cl no kind k v o fr tt E T W2
  rw [show decide (tt = -1) = false by simp [h1]] at hO
  have HO : Hid (Calls Tryd.prog 30 #[.agg #[.int .i64 cl, .int .i64 no, .int .i64 kind, .string (bs k), .string (bs v), .string (bs o), .int .i64 fr, .int .i64 tt, .int .i64 E, .string (bs T)]] W2 fun e W' => e = .returned (.bool false) ∧ Below N w W' ∧ W'.heap[N]? = some (.cells #[.int .i64 cl, .int .i64 no, .int .i64 kind, .string (bs k), .string (bs v), .string (bs o), .int .i64 fr, .int .i64 tt, .int .i64 E, .string (bs T)] 51)) := hO.mono fun e W' hh => ⟨hh.1, hb.trans (hh.2.mono (by omega)), (hh.2.block N hs).trans z⟩
  have HN : Hid (w.heap.size = N) := hN
  have HW : Hid (w.alloc (.cells #[.int .i64 cl, .int .i64 no, .int .i64 kind, .string (bs k), .string (bs v), .string (bs o), .int .i64 fr, .int .i64 tt, .int .i64 E, .string (bs T)] 51) = W2) := hW2
  have g0 := cellB z 0 _ rfl
  have g1 := cellB z 1 _ rfl
  have g2 := cellB z 2 _ rfl
  have g3 := cellB z 3 _ rfl
  have g4 := cellB z 4 _ rfl
  have g5 := cellB z 5 _ rfl
  have g6 := cellB z 6 _ rfl
  have g7 := cellB z 7 _ rfl
  have g8 := cellB z 8 _ rfl
  have g9 := cellB z 9 _ rfl
  clear hO hN hW2 z hb hs h1
  go_enter Tryd.func29, Tryd.ntmps29
  go_upto_region 1 with fail
  rw [HW.out]
  try rw [HN.out]
  go_upto_region 4 with (first | (go_at_call 30; refine HO.out.mono ?_; clear HO g0 g1 g2 g3 g4 g5 g6 g7 g8 g9; rintro e w1 ⟨rfl, hb1, z1⟩; have y6 := cellB z1 6 _ rfl))
  have HB : Hid (Below N w w1) := hb1
  clear hb1 z1
  go_wp2
  go_ret
  exact ⟨rfl, by rw [HN.out]; exact HB.out⟩
set_option maxRecDepth 20000 in
theorem took_a2 (cl no kind : Int) (k v o : List UInt8) (fr tt E : Int) (T : List UInt8) (now : Int) (w : World) (h1 : ¬ tt = -1) (h2 : ¬ fr < 0) (h3 : ¬ tt < fr) : Calls Tryd.prog 29 #[.agg #[.int .i64 cl, .int .i64 no, .int .i64 kind, .string (bs k), .string (bs v), .string (bs o), .int .i64 fr, .int .i64 tt, .int .i64 E, .string (bs T)], .int .i64 now] w fun e W' => e = .returned (.int .i64 (wrap64 (tt - fr))) ∧ Below w.heap.size w W' := by
  obtain ⟨W2, hW2⟩ : ∃ W, w.alloc (.cells #[.int .i64 cl, .int .i64 no, .int .i64 kind, .string (bs k), .string (bs v), .string (bs o), .int .i64 fr, .int .i64 tt, .int .i64 E, .string (bs T)] 51) = W := ⟨_, rfl⟩
  have z := heap_alloc_new w (.cells #[.int .i64 cl, .int .i64 no, .int .i64 kind, .string (bs k), .string (bs v), .string (bs o), .int .i64 fr, .int .i64 tt, .int .i64 E, .string (bs T)] 51)
  have hb := (Below.refl w.heap.size w).alloc (Nat.le_refl _) (.cells #[.int .i64 cl, .int .i64 no, .int .i64 kind, .string (bs k), .string (bs v), .string (bs o), .int .i64 fr, .int .i64 tt, .int .i64 E, .string (bs T)] 51)
  rw [hW2] at z hb
  have hs : w.heap.size < W2.heap.size := by rw [← hW2, World.size_alloc]; omega
  obtain ⟨N, hN⟩ : ∃ N, w.heap.size = N := ⟨_, rfl⟩
  rw [hN] at z hb hs
  have hO := isOpen_any cl no kind k v o fr tt E T W2
  rw [show decide (tt = -1) = false by simp [h1]] at hO
  have HO : Hid (Calls Tryd.prog 30 #[.agg #[.int .i64 cl, .int .i64 no, .int .i64 kind, .string (bs k), .string (bs v), .string (bs o), .int .i64 fr, .int .i64 tt, .int .i64 E, .string (bs T)]] W2 fun e W' => e = .returned (.bool false) ∧ Below N w W' ∧ W'.heap[N]? = some (.cells #[.int .i64 cl, .int .i64 no, .int .i64 kind, .string (bs k), .string (bs v), .string (bs o), .int .i64 fr, .int .i64 tt, .int .i64 E, .string (bs T)] 51)) := hO.mono fun e W' hh => ⟨hh.1, hb.trans (hh.2.mono (by omega)), (hh.2.block N hs).trans z⟩
  have HN : Hid (w.heap.size = N) := hN
  have HW : Hid (w.alloc (.cells #[.int .i64 cl, .int .i64 no, .int .i64 kind, .string (bs k), .string (bs v), .string (bs o), .int .i64 fr, .int .i64 tt, .int .i64 E, .string (bs T)] 51) = W2) := hW2
  have g0 := cellB z 0 _ rfl
  have g1 := cellB z 1 _ rfl
  have g2 := cellB z 2 _ rfl
  have g3 := cellB z 3 _ rfl
  have g4 := cellB z 4 _ rfl
  have g5 := cellB z 5 _ rfl
  have g6 := cellB z 6 _ rfl
  have g7 := cellB z 7 _ rfl
  have g8 := cellB z 8 _ rfl
  have g9 := cellB z 9 _ rfl
  clear hO hN hW2 z hb hs h1
  go_enter Tryd.func29, Tryd.ntmps29
  go_upto_region 1 with fail
  rw [HW.out]
  try rw [HN.out]
  go_upto_region 4 with (first | (go_at_call 30; refine HO.out.mono ?_; clear HO g0 g1 g2 g3 g4 g5 g6 g7 g8 g9; rintro e w1 ⟨rfl, hb1, z1⟩; have y6 := cellB z1 6 _ rfl))
  have HB : Hid (Below N w w1) := hb1
  clear hb1 z1
  go_wp2
  go_ret
  exact ⟨rfl, by rw [HN.out]; exact HB.out⟩
/-- How long a call took. -/
def tookF (now fr tt : Int) : Int := if fr < 0 ∨ (if tt = -1 then now else tt) < fr then 0 else wrap64 ((if tt = -1 then now else tt) - fr)
theorem tookF_o0 {now fr tt : Int} (h2 : fr < 0) : tookF now fr tt = 0 := by rw [tookF, if_pos (.inl h2)]
theorem tookF_o1 {now fr tt en : Int} (h1 : (if tt = -1 then now else tt) = en) (h3 : en < fr) : tookF now fr tt = 0 := by rw [tookF, h1, if_pos (.inr h3)]
theorem tookF_o2 {now fr tt en : Int} (h1 : (if tt = -1 then now else tt) = en) (h2 : ¬ fr < 0) (h3 : ¬ en < fr) : tookF now fr tt = wrap64 (en - fr) := by rw [tookF, h1, if_neg (by rintro (h | h); exact h2 h; exact h3 h)]
theorem took_any (cl no kind : Int) (k v o : List UInt8) (fr tt E : Int) (T : List UInt8) (now : Int) (w : World) : Calls Tryd.prog 29 #[.agg #[.int .i64 cl, .int .i64 no, .int .i64 kind, .string (bs k), .string (bs v), .string (bs o), .int .i64 fr, .int .i64 tt, .int .i64 E, .string (bs T)], .int .i64 now] w fun e W' => e = .returned (.int .i64 (tookF now fr tt)) ∧ Below w.heap.size w W' := by
  by_cases h1 : tt = -1
  · have e1 : (if tt = -1 then now else tt) = now := if_pos h1
    by_cases h2 : fr < 0
    · rw [tookF_o0 h2]; exact took_o0 _ _ _ _ _ _ _ _ _ _ _ _ h1 h2
    · by_cases h3 : now < fr
      · rw [tookF_o1 e1 h3]; exact took_o1 _ _ _ _ _ _ _ _ _ _ _ _ h1 h2 h3
      · rw [tookF_o2 e1 h2 h3]; exact took_o2 _ _ _ _ _ _ _ _ _ _ _ _ h1 h2 h3
  · have e1 : (if tt = -1 then now else tt) = tt := if_neg h1
    by_cases h2 : fr < 0
    · rw [tookF_o0 h2]; exact took_a0 _ _ _ _ _ _ _ _ _ _ _ _ h1 h2
    · by_cases h3 : tt < fr
      · rw [tookF_o1 e1 h3]; exact took_a1 _ _ _ _ _ _ _ _ _ _ _ _ h1 h2 h3
      · rw [tookF_o2 e1 h2 h3]; exact took_a2 _ _ _ _ _ _ _ _ _ _ _ _ h1 h2 h3
set_option maxRecDepth 20000 in
theorem shardOf_any (cl no kind : Int) (k v o : List UInt8) (fr tt E : Int) (T : List UInt8) (w : World) (hk : k.length ≤ 140737488351232) (he : EnvK w) : Calls Tryd.prog 24 #[.agg #[.int .i64 cl, .int .i64 no, .int .i64 kind, .string (bs k), .string (bs v), .string (bs o), .int .i64 fr, .int .i64 tt, .int .i64 E, .string (bs T)]] w fun e W' => e = .returned (.int .i64 (plcK k)) ∧ Below w.heap.size w W' := by
  have hb := (Below.refl w.heap.size w).alloc (Nat.le_refl _) (.cells #[.int .i64 cl, .int .i64 no, .int .i64 kind, .string (bs k), .string (bs v), .string (bs o), .int .i64 fr, .int .i64 tt, .int .i64 E, .string (bs T)] 51)
  have hP : Calls Tryd.prog 36 #[.string (bs k)] (w.alloc (.cells #[.int .i64 cl, .int .i64 no, .int .i64 kind, .string (bs k), .string (bs v), .string (bs o), .int .i64 fr, .int .i64 tt, .int .i64 E, .string (bs T)] 51)) fun e W' => e = .returned (.int .i64 (plcK k)) ∧ Below w.heap.size w W' := (Place_any k _ hk (he.next hb)).mono fun e W' hh => ⟨hh.1, hb.trans (hh.2.mono (by rw [World.size_alloc]; omega))⟩
  clear hb he
  go_enter Tryd.func24, Tryd.ntmps24
  go_wp2_with (go_at_call 36; refine hP.mono ?_; clear hP; rintro e w1 ⟨rfl, hb1⟩)
  go_ret
  exact ⟨rfl, hb1⟩
theorem set10 {w : World} {B : Nat} {t : TypeId} {fr : Nat × Nat} {x0 x1 x2 x3 x4 x5 x6 x7 x8 x9 : Value} (h : w.heap[B]? = some (.cells #[x0, x1, x2, x3, x4, x5, x6, x7, x8, x9] t fr)) (a0 a1 a2 a3 a4 a5 a6 a7 a8 a9 : Value) :
    ((((((((((w.setCell ⟨B, 0, none⟩ (a0)).setCell ⟨B, 1, none⟩ (a1)).setCell ⟨B, 2, none⟩ (a2)).setCell ⟨B, 3, none⟩ (a3)).setCell ⟨B, 4, none⟩ (a4)).setCell ⟨B, 5, none⟩ (a5)).setCell ⟨B, 6, none⟩ (a6)).setCell ⟨B, 7, none⟩ (a7)).setCell ⟨B, 8, none⟩ (a8)).setCell ⟨B, 9, none⟩ (a9)).heap[B]? = some (.cells #[a0, a1, a2, a3, a4, a5, a6, a7, a8, a9] t fr) := set10h h a0 a1 a2 a3 a4 a5 a6 a7 a8 a9
end Go.Proofs.YtihilkdokfdoeaaDoor
