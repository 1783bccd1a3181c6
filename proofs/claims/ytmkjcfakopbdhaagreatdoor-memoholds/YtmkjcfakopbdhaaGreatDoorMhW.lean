/- Verify by the plain text: walked. -/
import Derived.Test.YtmkjcfakopbdhaaGreatDoorMh1
import Derived.Test.YtmkjcfakopbdhaaGreatDoorMhV
import Derived.Test.YtmkjcfakopbdhaaGreatDoorBk9
namespace Go.Proofs.YtmkjcfakopbdhaaGreatDoor
open Go.RowKit
attribute [local go_sem ↓] Go.wp_at_zero Go.wp_at_succ

theorem saidE_6 (W : List UInt8) (g v m : Int) (t : List UInt8) : saidE W g v m t ≠ 6 := by
  unfold saidE
  split
  · decide
  · split <;> decide
theorem textE_6 (g m : Int) (t : List UInt8) : textE g m t ≠ 6 := by
  unfold textE
  split
  · decide
  · split <;> decide
theorem sdE_6 (k g v m : Int) (t : List UInt8) : sdE k g v m t ≠ 6 := by
  unfold sdE
  split
  · exact saidE_6 _ _ _ _ _
  split
  · exact saidE_6 _ _ _ _ _
  split
  · exact textE_6 _ _ _
  · decide
theorem saE_6 {k g n v m : Int} {t tg : List UInt8} (hu : utB k = false) (hf : fE k g n v m t.length = 0) : saE k g n v m t tg ≠ 6 := by
  rw [saE, if_neg (by rw [hu]; decide), if_pos hf]
  split
  · decide
  · exact sdE_6 _ _ _ _ _

set_option maxRecDepth 20000 in
set_option maxHeartbeats 4000000 in
theorem rVerify_any (s : List UInt8) (k g n v m : Int) (t tg : List UInt8) (w : World) (hs : s.length ≤ 32) (ht : t.length ≤ 40000) :
    Calls Tryz.prog 10 #[.string (bs s), .agg #[.int .i64 k, .int .i64 g, .int .i64 n, .int .i64 v, .int .i64 m, .string (bs t), .string (bs tg)]] w fun e W' => e = .returned (.int .i64 (vfE s k g n v m t tg)) ∧ Below w.heap.size w W' := by
  have hb0 : Below w.heap.size w (w.alloc (.cells #[.int .i64 k, .int .i64 g, .int .i64 n, .int .i64 v, .int .i64 m, .string (bs t), .string (bs tg)] 38)) := (Below.refl _ w).alloc (Nat.le_refl _) _
  have p0 : (w.alloc (.cells #[.int .i64 k, .int .i64 g, .int .i64 n, .int .i64 v, .int .i64 m, .string (bs t), .string (bs tg)] 38)).heap[w.heap.size]? = some (.cells #[.int .i64 k, .int .i64 g, .int .i64 n, .int .i64 v, .int .i64 m, .string (bs t), .string (bs tg)] 38) := heap_alloc_new _ _
  have hlp : w.heap.size < (w.alloc (.cells #[.int .i64 k, .int .i64 g, .int .i64 n, .int .i64 v, .int .i64 m, .string (bs t), .string (bs tg)] 38)).heap.size := by simp
  have hC := rCheck_any k g n v m t tg (w.alloc (.cells #[.int .i64 k, .int .i64 g, .int .i64 n, .int .i64 v, .int .i64 m, .string (bs t), .string (bs tg)] 38))
  by_cases hc : cE k g n v m t.length tg.length = 0
  case neg =>
    rw [vfE, if_neg hc]
    obtain ⟨F, hF2⟩ : ∃ F, cE k g n v m t.length tg.length = F := ⟨_, rfl⟩
    rw [hF2] at hC hc ⊢
    have hq : (F != 0) = true := by simpa using hc
    clear hc hF2 p0 hlp
    go_enter Tryz.func10, Tryz.ntmps10
    go_wp2_with (first | (go_at_call 23; refine hC.mono ?_; rintro e w1 ⟨rfl, hb1⟩))
    go_ret
    exact ⟨rfl, hb0.trans (hb1.mono hb0.size)⟩
  rw [vfE, if_pos hc]
  rw [hc] at hC
  have hS0 := fun W => rSaid_any k g n v m t tg W ht hc
  have hK0 := fun W => skCheck_any s g n (saX k g n v m t tg) tg W hs (by have := sax_len (k := k) (g := g) (n := n) (v := v) (m := m) (t := t) (tg := tg) ht; omega)
  have hf := (cE_ok hc).1
  cases hu : utB k
  case true =>
    rw [if_pos rfl]
    rw [show saX k g n v m t tg = [] by rw [saX, if_pos hu], show saE k g n v m t tg = 6 by rw [saE, if_pos hu]] at hS0
    clear hK0 hu hf hc
    go_enter Tryz.func10, Tryz.ntmps10
    go_wp2_with (first | (go_at_call 23; refine hC.mono ?_; clear hC; rintro e w1 ⟨rfl, hb1⟩; have hB1 := hb0.trans (hb1.mono hb0.size); have p1 := (hb1.block w.heap.size hlp).trans p0; have x0 := cellB p1 0 (.int .i64 k) rfl; have x1 := cellB p1 1 (.int .i64 g) rfl; have x2 := cellB p1 2 (.int .i64 n) rfl; have x3 := cellB p1 3 (.int .i64 v) rfl; have x4 := cellB p1 4 (.int .i64 m) rfl; have x5 := cellB p1 5 (.string (bs t)) rfl; have x6 := cellB p1 6 (.string (bs tg)) rfl; clear hb1 p0 hlp p1) | (go_at_call 24; refine (hS0 _).mono ?_; rintro e w3 ⟨rfl, hb3⟩))
    go_ret
    exact ⟨rfl, hB1.trans (hb3.mono hB1.size)⟩
  rw [if_neg (by decide)]
  have h6 := saE_6 (g := g) (n := n) (v := v) (m := m) (t := t) (tg := tg) hu hf
  obtain ⟨SX, hSX⟩ : ∃ x, saX k g n v m t tg = x := ⟨_, rfl⟩
  obtain ⟨SE, hSE⟩ : ∃ x, saE k g n v m t tg = x := ⟨_, rfl⟩
  obtain ⟨KE, hKE⟩ : ∃ x, checkE (some s) g n SX tg = x := ⟨_, rfl⟩
  rw [hSX, hSE] at hS0
  rw [hSX, hKE] at hK0
  rw [hSX, hSE, hKE]
  rw [hSE] at h6
  have hq6 : (SE == 6) = false := by simpa using h6
  clear hSX hSE hKE hu hf hc h6
  by_cases hse : SE = 0
  · rw [if_pos hse]
    subst hse
    clear hq6
    go_enter Tryz.func10, Tryz.ntmps10
    go_wp2_with (first | (go_at_call 23; refine hC.mono ?_; clear hC; rintro e w1 ⟨rfl, hb1⟩; have hB1 := hb0.trans (hb1.mono hb0.size); have p1 := (hb1.block w.heap.size hlp).trans p0; have hl1 : w.heap.size < w1.heap.size := (Array.getElem?_eq_some_iff.1 p1).1; have x0 := cellB p1 0 (.int .i64 k) rfl; have x1 := cellB p1 1 (.int .i64 g) rfl; have x2 := cellB p1 2 (.int .i64 n) rfl; have x3 := cellB p1 3 (.int .i64 v) rfl; have x4 := cellB p1 4 (.int .i64 m) rfl; have x5 := cellB p1 5 (.string (bs t)) rfl; have x6 := cellB p1 6 (.string (bs tg)) rfl; clear hb1 p0 hlp) | (go_at_call 24; refine (hS0 _).mono ?_; clear hS0; rintro e w3 ⟨rfl, hb3⟩; have hB3 := hB1.trans (hb3.mono hB1.size); have p3 := (hb3.block w.heap.size hl1).trans p1; have y1 := cellB p3 1 (.int .i64 g) rfl; have y2 := cellB p3 2 (.int .i64 n) rfl; have y6 := cellB p3 6 (.string (bs tg)) rfl; have hK3 := hK0 w3; clear hb3 p1) | (go_at_call 25; refine hK3.mono ?_; clear hK3; rintro e w4 ⟨rfl, hb4⟩))
    go_ret
    exact ⟨rfl, hB3.trans (hb4.mono hB3.size)⟩
  · rw [if_neg hse]
    have hq : (SE != 0) = true := by simpa using hse
    clear hse hK0
    go_enter Tryz.func10, Tryz.ntmps10
    go_wp2_with (first | (go_at_call 23; refine hC.mono ?_; clear hC; rintro e w1 ⟨rfl, hb1⟩; have hB1 := hb0.trans (hb1.mono hb0.size); have p1 := (hb1.block w.heap.size hlp).trans p0; have x0 := cellB p1 0 (.int .i64 k) rfl; have x1 := cellB p1 1 (.int .i64 g) rfl; have x2 := cellB p1 2 (.int .i64 n) rfl; have x3 := cellB p1 3 (.int .i64 v) rfl; have x4 := cellB p1 4 (.int .i64 m) rfl; have x5 := cellB p1 5 (.string (bs t)) rfl; have x6 := cellB p1 6 (.string (bs tg)) rfl; clear hb1 p0 hlp p1) | (go_at_call 24; refine (hS0 _).mono ?_; clear hS0; rintro e w3 ⟨rfl, hb3⟩))
    go_ret
    exact ⟨rfl, hB1.trans (hb3.mono hB1.size)⟩
end Go.Proofs.YtmkjcfakopbdhaaGreatDoor
