/- What is wrong with a memo, by the plain text: for every memo. -/
import Derived.Test.YtielknegifbmpaaDoorMfD
namespace Go.Proofs.YtielknegifbmpaaDoor
open Go.RowKit
attribute [local go_sem ↓] Go.wp_at_zero Go.wp_at_succ

set_option maxRecDepth 20000 in
set_option maxHeartbeats 2000000 in
theorem rRight_any (k g n v m : Int) (t tg : List UInt8) (w : World) :
    Calls Tryd.prog 36 #[.agg #[.int .i64 k, .int .i64 g, .int .i64 n, .int .i64 v, .int .i64 m, .string (bs t), .string (bs tg)]] w fun e W' => e = .returned (.int .i64 (fE k g n v m t.length)) ∧ Below w.heap.size w W' := by
  have hb0 : Below w.heap.size w (w.alloc (.cells #[.int .i64 k, .int .i64 g, .int .i64 n, .int .i64 v, .int .i64 m, .string (bs t), .string (bs tg)] 32)) := (Below.refl _ w).alloc (Nat.le_refl _) _
  by_cases h1 : 1 ≤ k
  · by_cases h2 : k ≤ 12
    · by_cases hp : isP g n
      · obtain ⟨j, rfl⟩ : ∃ j : Nat, k = (j : Int) := ⟨k.toNat, by omega⟩
        have h := rRight_k j (by omega) (by omega) g n v m hp t tg w
        rw [fE, if_neg (fun c => c ⟨h1, h2⟩), if_neg (fun c => c hp)]
        exact h
      · rw [fE, if_neg (fun c => c ⟨h1, h2⟩), if_pos hp]
        have hI := fun W => Is_any g n W
        rw [decide_eq_false hp] at hI
        clear hp
        go_enter Tryd.func36, Tryd.ntmps36
        go_wp2_with (first | (go_at_call 38; refine (hI _).mono ?_; rintro e w1 ⟨rfl, hb1⟩))
        go_ret
        exact ⟨rfl, hb0.trans (hb1.mono hb0.size)⟩
    · rw [fE, if_pos (fun c => h2 c.2)]
      go_enter Tryd.func36, Tryd.ntmps36
      go_wp2
      go_ret
      exact ⟨rfl, hb0⟩
  · rw [fE, if_pos (fun c => h1 c.1)]
    go_enter Tryd.func36, Tryd.ntmps36
    go_wp2
    go_ret
    exact ⟨rfl, hb0⟩

set_option maxRecDepth 20000 in
set_option maxHeartbeats 4000000 in
theorem rCheck_any (k g n v m : Int) (t tg : List UInt8) (w : World) :
    Calls Tryd.prog 16 #[.agg #[.int .i64 k, .int .i64 g, .int .i64 n, .int .i64 v, .int .i64 m, .string (bs t), .string (bs tg)]] w fun e W' => e = .returned (.int .i64 (cE k g n v m t.length tg.length)) ∧ Below w.heap.size w W' := by
  have hb0 : Below w.heap.size w (w.alloc (.cells #[.int .i64 k, .int .i64 g, .int .i64 n, .int .i64 v, .int .i64 m, .string (bs t), .string (bs tg)] 32)) := (Below.refl _ w).alloc (Nat.le_refl _) _
  have p0 : (w.alloc (.cells #[.int .i64 k, .int .i64 g, .int .i64 n, .int .i64 v, .int .i64 m, .string (bs t), .string (bs tg)] 32)).heap[w.heap.size]? = some (.cells #[.int .i64 k, .int .i64 g, .int .i64 n, .int .i64 v, .int .i64 m, .string (bs t), .string (bs tg)] 32) := heap_alloc_new _ _
  have hlp : w.heap.size < (w.alloc (.cells #[.int .i64 k, .int .i64 g, .int .i64 n, .int .i64 v, .int .i64 m, .string (bs t), .string (bs tg)] 32)).heap.size := by simp
  have hF := rRight_any k g n v m t tg (w.alloc (.cells #[.int .i64 k, .int .i64 g, .int .i64 n, .int .i64 v, .int .i64 m, .string (bs t), .string (bs tg)] 32))
  by_cases hf : fE k g n v m t.length = 0
  · have hk := (fE_ok hf).1
    have hk0 := hk.1
    have hk1 := hk.2
    rw [cE, if_pos hf]
    rw [hf] at hF
    clear hf hk
    obtain ⟨j, rfl⟩ : ∃ j : Nat, k = (j : Int) := ⟨k.toNat, by omega⟩
    have hRow := fun W => row_any j (by omega) W
    obtain ⟨c0, c1, c2, c3, hrow, -, -, -, -, -, hc3⟩ := row_is j (by omega) (by omega)
    rw [hrow] at hRow
    rw [Int.toNat_natCast]
    obtain ⟨T, hT⟩ : ∃ T, tgK j = T := ⟨_, rfl⟩
    rw [hT] at hc3 ⊢
    have hlen : (bs tg).size = tg.length := bs_size tg
    clear hT hk0 hk1 hrow
    rcases hc3 with ⟨rfl, rfl⟩ | ⟨rfl, rfl⟩
    · by_cases c : tg.length = 16
      · rw [if_pos (by omega)]
        have hq : (((bs tg).size : Int) != 16) = false := by rw [hlen, c]; rfl
        clear c hlen
        have i3 : ∀ W : World, (Instr.index 9 (.string (bs [c0, c1, c2, 103])) (.int .i64 3)).run Tryd.prog W = .ok (.int .u8 103) W := fun W => rfl
        go_enter Tryd.func16, Tryd.ntmps16
        go_wp2_with fail
        refine hF.mono ?_
        clear hF
        rintro e w1 ⟨rfl, hb1⟩
        have hB1 := hb0.trans (hb1.mono hb0.size)
        have p1 := (hb1.block w.heap.size hlp).trans p0
        have hl1 : w.heap.size < w1.heap.size := (Array.getElem?_eq_some_iff.1 p1).1
        have x0 := cellB p1 0 (.int .i64 (j : Int)) rfl
        have x6 := cellB p1 6 (.string (bs tg)) rfl
        clear hb1 p0 hlp hb0
        go_wp2_with (first | (have hg := hB2; go_at_call 37; refine (hRow _).mono ?_; rintro e w3 ⟨rfl, hb3⟩; have hB3 := hB2.trans (hb3.mono hB2.size); have p3 := (hb3.block w.heap.size hl2).trans p2; have z6 := cellB p3 6 (.string (bs tg)) rfl) | (go_at_call 37; refine (hRow _).mono ?_; rintro e w2 ⟨rfl, hb2⟩; have hB2 := hB1.trans (hb2.mono hB1.size); have p2 := (hb2.block w.heap.size hl1).trans p1; have hl2 : w.heap.size < w2.heap.size := (Array.getElem?_eq_some_iff.1 p2).1; have y0 := cellB p2 0 (.int .i64 (j : Int)) rfl; have y6 := cellB p2 6 (.string (bs tg)) rfl))
        go_ret
        exact ⟨rfl, hB3⟩
      · rw [if_neg (by omega)]
        have hq : (((bs tg).size : Int) != 16) = true := by rw [hlen]; simp; omega
        clear c hlen
        have i3 : ∀ W : World, (Instr.index 9 (.string (bs [c0, c1, c2, 103])) (.int .i64 3)).run Tryd.prog W = .ok (.int .u8 103) W := fun W => rfl
        go_enter Tryd.func16, Tryd.ntmps16
        go_wp2_with fail
        refine hF.mono ?_
        clear hF
        rintro e w1 ⟨rfl, hb1⟩
        have hB1 := hb0.trans (hb1.mono hb0.size)
        have p1 := (hb1.block w.heap.size hlp).trans p0
        have hl1 : w.heap.size < w1.heap.size := (Array.getElem?_eq_some_iff.1 p1).1
        have x0 := cellB p1 0 (.int .i64 (j : Int)) rfl
        have x6 := cellB p1 6 (.string (bs tg)) rfl
        clear hb1 p0 hlp hb0
        go_wp2_with (first | (have hg := hB2; go_at_call 37; refine (hRow _).mono ?_; rintro e w3 ⟨rfl, hb3⟩; have hB3 := hB2.trans (hb3.mono hB2.size); have p3 := (hb3.block w.heap.size hl2).trans p2; have z6 := cellB p3 6 (.string (bs tg)) rfl) | (go_at_call 37; refine (hRow _).mono ?_; rintro e w2 ⟨rfl, hb2⟩; have hB2 := hB1.trans (hb2.mono hB1.size); have p2 := (hb2.block w.heap.size hl1).trans p1; have hl2 : w.heap.size < w2.heap.size := (Array.getElem?_eq_some_iff.1 p2).1; have y0 := cellB p2 0 (.int .i64 (j : Int)) rfl; have y6 := cellB p2 6 (.string (bs tg)) rfl))
        go_ret
        exact ⟨rfl, hB2⟩
    · by_cases c : tg = []
      · rw [if_pos (by rw [c]; rfl)]
        have hte : (bs tg).toList.isEmpty = true := by rw [bs_toList, c]; rfl
        clear c hlen
        have i3 : ∀ W : World, (Instr.index 9 (.string (bs [c0, c1, c2, 46])) (.int .i64 3)).run Tryd.prog W = .ok (.int .u8 46) W := fun W => rfl
        go_enter Tryd.func16, Tryd.ntmps16
        go_wp2_with fail
        refine hF.mono ?_
        clear hF
        rintro e w1 ⟨rfl, hb1⟩
        have hB1 := hb0.trans (hb1.mono hb0.size)
        have p1 := (hb1.block w.heap.size hlp).trans p0
        have hl1 : w.heap.size < w1.heap.size := (Array.getElem?_eq_some_iff.1 p1).1
        have x0 := cellB p1 0 (.int .i64 (j : Int)) rfl
        have x6 := cellB p1 6 (.string (bs tg)) rfl
        clear hb1 p0 hlp hb0
        go_wp2_with (first | (have hg := hB2; go_at_call 37; refine (hRow _).mono ?_; rintro e w3 ⟨rfl, hb3⟩; have hB3 := hB2.trans (hb3.mono hB2.size); have p3 := (hb3.block w.heap.size hl2).trans p2; have z6 := cellB p3 6 (.string (bs tg)) rfl) | (go_at_call 37; refine (hRow _).mono ?_; rintro e w2 ⟨rfl, hb2⟩; have hB2 := hB1.trans (hb2.mono hB1.size); have p2 := (hb2.block w.heap.size hl1).trans p1; have hl2 : w.heap.size < w2.heap.size := (Array.getElem?_eq_some_iff.1 p2).1; have y0 := cellB p2 0 (.int .i64 (j : Int)) rfl; have y6 := cellB p2 6 (.string (bs tg)) rfl))
        go_ret
        exact ⟨rfl, hB3⟩
      · rw [if_neg (by have := List.length_pos_iff.2 c; omega)]
        have hte : (bs tg).toList.isEmpty = false := by rw [bs_toList]; simpa using c
        clear c hlen
        have i3 : ∀ W : World, (Instr.index 9 (.string (bs [c0, c1, c2, 46])) (.int .i64 3)).run Tryd.prog W = .ok (.int .u8 46) W := fun W => rfl
        go_enter Tryd.func16, Tryd.ntmps16
        go_wp2_with fail
        refine hF.mono ?_
        clear hF
        rintro e w1 ⟨rfl, hb1⟩
        have hB1 := hb0.trans (hb1.mono hb0.size)
        have p1 := (hb1.block w.heap.size hlp).trans p0
        have hl1 : w.heap.size < w1.heap.size := (Array.getElem?_eq_some_iff.1 p1).1
        have x0 := cellB p1 0 (.int .i64 (j : Int)) rfl
        have x6 := cellB p1 6 (.string (bs tg)) rfl
        clear hb1 p0 hlp hb0
        go_wp2_with (first | (have hg := hB2; go_at_call 37; refine (hRow _).mono ?_; rintro e w3 ⟨rfl, hb3⟩; have hB3 := hB2.trans (hb3.mono hB2.size); have p3 := (hb3.block w.heap.size hl2).trans p2; have z6 := cellB p3 6 (.string (bs tg)) rfl) | (go_at_call 37; refine (hRow _).mono ?_; rintro e w2 ⟨rfl, hb2⟩; have hB2 := hB1.trans (hb2.mono hB1.size); have p2 := (hb2.block w.heap.size hl1).trans p1; have hl2 : w.heap.size < w2.heap.size := (Array.getElem?_eq_some_iff.1 p2).1; have y0 := cellB p2 0 (.int .i64 (j : Int)) rfl; have y6 := cellB p2 6 (.string (bs tg)) rfl))
        go_ret
        exact ⟨rfl, hB3⟩
  · rw [cE, if_neg hf]
    obtain ⟨F, hF2⟩ : ∃ F, fE k g n v m t.length = F := ⟨_, rfl⟩
    rw [hF2] at hF hf ⊢
    have hq : (F != 0) = true := by simpa using hf
    clear hf hF2
    go_enter Tryd.func16, Tryd.ntmps16
    go_wp2_with fail
    refine hF.mono ?_
    clear hF
    rintro e w1 ⟨rfl, hb1⟩
    go_wp2
    go_ret
    exact ⟨rfl, hb0.trans (hb1.mono hb0.size)⟩
end Go.Proofs.YtielknegifbmpaaDoor
