import Derived.Test.YtoniohmceaflnaaDoorOnA
namespace Go.Proofs.YtoniohmceaflnaaDoor
open Go.RowKit
attribute [local go_sem ↓] Go.wp_at_zero Go.wp_at_succ

theorem Is_any (g n : Int) (w : World) : Calls Tryd.prog 24 #[.agg #[.int .i64 g, .int .i64 n]] w fun e W' => e = .returned (.bool (decide (isP g n))) ∧ Below w.heap.size w W' := by
  have hb0 : Below w.heap.size w (w.alloc (.cells #[.int .i64 g, .int .i64 n] 23)) := (Below.refl _ w).alloc (Nat.le_refl _) _
  by_cases c1 : -1 ≤ g
  · by_cases c2 : g ≤ 4
    · by_cases c3 : 0 ≤ n
      · by_cases c4 : n ≤ 15
        · rw [decide_eq_true (show isP g n from ⟨c1, c2, c3, c4⟩)]
          go_enter Tryd.func24, Tryd.ntmps24
          go_wp2
          go_ret
          exact ⟨rfl, hb0⟩
        · rw [decide_eq_false (show ¬ isP g n from fun h => c4 h.2.2.2)]
          go_enter Tryd.func24, Tryd.ntmps24
          go_wp2
          go_ret
          exact ⟨rfl, hb0⟩
      · rw [decide_eq_false (show ¬ isP g n from fun h => c3 h.2.2.1)]
        go_enter Tryd.func24, Tryd.ntmps24
        go_wp2
        go_ret
        exact ⟨rfl, hb0⟩
    · rw [decide_eq_false (show ¬ isP g n from fun h => c2 h.2.1)]
      go_enter Tryd.func24, Tryd.ntmps24
      go_wp2
      go_ret
      exact ⟨rfl, hb0⟩
  · rw [decide_eq_false (show ¬ isP g n from fun h => c1 h.1)]
    go_enter Tryd.func24, Tryd.ntmps24
    go_wp2
    go_ret
    exact ⟨rfl, hb0⟩

set_option maxRecDepth 20000 in
set_option maxHeartbeats 4000000 in
theorem nil_any (g n : Int) (t tg : List UInt8) (w : World) (he : EnvP w) (hb : EnvB w) :
    Calls Tryd.prog 7 #[.agg #[.int .i64 g, .int .i64 n, .string (bs t), .string (bs tg)]] w fun e W' => e = .returned (.bool true) ∧ Below w.heap.size w W' := by
  have hb1 : Below w.heap.size w (w.alloc (.cells #[.int .i64 g, .int .i64 n, .string (bs t), .string (bs tg)] 36)) := (Below.refl _ w).alloc (Nat.le_refl _) _
  have p0 : (w.alloc (.cells #[.int .i64 g, .int .i64 n, .string (bs t), .string (bs tg)] 36)).heap[w.heap.size]? = some (.cells #[.int .i64 g, .int .i64 n, .string (bs t), .string (bs tg)] 36) := heap_alloc_new _ _
  have hlp : w.heap.size < (w.alloc (.cells #[.int .i64 g, .int .i64 n, .string (bs t), .string (bs tg)] 36)).heap.size := by simp
  have hI := Is_any g n (w.alloc (.cells #[.int .i64 g, .int .i64 n, .string (bs t), .string (bs tg)] 36))
  obtain ⟨E, hE⟩ : ∃ E, tagErr none g n = E := ⟨_, rfl⟩
  have hEw : E = if isP g n then 7 else 1 := by
    rw [← hE, tagErr]
    by_cases h : isP g n
    · rw [if_neg (fun h2 => h2 h), if_pos rfl, if_pos h]
    · rw [if_pos h, if_neg h]
  have hE0 : E ≠ 0 := by rw [hEw]; split <;> decide
  have hTag : ∀ W, Below w.heap.size w W → Calls Tryd.prog 15 #[.pointer none, .agg #[.int .i64 g, .int .i64 n], .string (bs t)] W fun e W' => e = .returned (.tuple #[.string (bs []), .int .i64 E]) ∧ Below W.heap.size W W' := by
    intro W hW
    have h := Tag_any none none g n t W (he.next hW) (hb.next hW) (.inl ⟨rfl, rfl⟩) (fun h => absurd rfl h)
    rw [show sigV none g n t = [] from if_neg (by rw [hE]; exact hE0), hE] at h
    exact h
  have hSig : ∀ W, Below w.heap.size w W → Calls Tryd.prog 17 #[.pointer none, .agg #[.int .i64 g, .int .i64 n], .string (bs t)] W fun e W' => e = .returned (.tuple #[.agg #[.int .i64 0, .int .i64 0, .string (bs []), .string (bs [])], .int .i64 E]) ∧ Below W.heap.size W W' := by
    intro W hW
    have h := Sign_any none none g n t W (he.next hW) (hb.next hW) (.inl ⟨rfl, rfl⟩) (fun h => absurd rfl h)
    rw [show signV none g n t = .agg #[.int .i64 0, .int .i64 0, .string (bs []), .string (bs [])] from if_neg (by rw [hE]; exact hE0), hE] at h
    exact h
  have hChk : ∀ W, Below w.heap.size w W → Calls Tryd.prog 18 #[.pointer none, .agg #[.int .i64 g, .int .i64 n, .string (bs t), .string (bs tg)]] W fun e W' => e = .returned (.int .i64 E) ∧ Below W.heap.size W W' := by
    intro W hW
    have h := Check_any none none g n t tg W (he.next hW) (hb.next hW) (.inl ⟨rfl, rfl⟩) (fun h => absurd rfl h)
    rw [show checkE none g n t tg = E from by rw [checkE, if_pos (by rw [hE]; exact hE0), hE]] at h
    exact h
  have hOne : ∀ W, Below w.heap.size w W → Calls Tryd.prog 13 #[] W fun e W' => e = .returned (.bool true) ∧ Below W.heap.size W W' := fun W hW => one3_any W (he.next hW) (hb.next hW)
  obtain ⟨D, hD⟩ : ∃ D, decide (isP g n) = D := ⟨_, rfl⟩
  rw [hD] at hI
  have hDE : E = if D = true then 7 else 1 := by rw [hEw, ← hD]; simp
  clear hE hEw hE0 hD
  go_enter Tryd.func7, Tryd.ntmps7
  go_wp2_with fail
  refine hI.mono ?_
  clear hI
  rintro e w1 ⟨rfl, hb2⟩
  have hB1 := hb1.trans (hb2.mono hb1.size)
  have p1 := (hb2.block w.heap.size hlp).trans p0
  have hl1 : w.heap.size < w1.heap.size := (Array.getElem?_eq_some_iff.1 p1).1
  have x0 := cellB p1 0 (.int .i64 g) rfl
  have x1 := cellB p1 1 (.int .i64 n) rfl
  have x2 := cellB p1 2 (.string (bs t)) rfl
  have x3 := cellB p1 3 (.string (bs tg)) rfl
  clear hb2 p0 hlp
  have hDE' : E = 7 ∧ D = true ∨ E = 1 ∧ D = false := by cases D <;> simp_all
  rcases hDE' with ⟨rfl, rfl⟩ | ⟨rfl, rfl⟩
  all_goals
    clear hDE
    go_wp2_with (first
      | (go_at_call 15; refine (hTag w1 hB1).mono ?_; rintro e w2 ⟨rfl, hb3⟩; have hB2 := hB1.trans (hb3.mono hB1.size); have p2 := (hb3.block w.heap.size hl1).trans p1; have y0 := cellB p2 0 (.int .i64 g) rfl; have y1 := cellB p2 1 (.int .i64 n) rfl; have y2 := cellB p2 2 (.string (bs t)) rfl; have y3 := cellB p2 3 (.string (bs tg)) rfl; have hl2 : w.heap.size < w2.heap.size := (Array.getElem?_eq_some_iff.1 p2).1)
      | (go_at_call 17; refine (hSig w2 hB2).mono ?_; rintro e w3 ⟨rfl, hb4⟩; have hB3 := hB2.trans (hb4.mono hB2.size); have p3 := (hb4.block w.heap.size hl2).trans p2; have z0 := cellB p3 0 (.int .i64 g) rfl; have z1 := cellB p3 1 (.int .i64 n) rfl; have z2 := cellB p3 2 (.string (bs t)) rfl; have z3 := cellB p3 3 (.string (bs tg)) rfl; have hl3 : w.heap.size < w3.heap.size := (Array.getElem?_eq_some_iff.1 p3).1; have hB3a := hB3.alloc hB3.size (.cells #[.int .i64 0, .int .i64 0, .string (bs []), .string (bs [])] 36))
      | (go_at_call 18; refine (hChk w3 hB3).mono ?_; rintro e w4 ⟨rfl, hb5⟩; have hB4 := hB3.trans (hb5.mono hB3.size))
      | (go_at_call 18; refine (hChk (w3.alloc (.cells #[.int .i64 0, .int .i64 0, .string (bs []), .string (bs [])] 36)) hB3a).mono ?_; rintro e w4 ⟨rfl, hb5⟩; have hB4 := hB3a.trans (hb5.mono hB3a.size))
      | (go_at_call 13; refine (hOne w4 hB4).mono ?_; rintro e w5 ⟨rfl, hb6⟩))
    go_ret
    exact ⟨rfl, hB4.trans (hb6.mono hB4.size)⟩
end Go.Proofs.YtoniohmceaflnaaDoor
