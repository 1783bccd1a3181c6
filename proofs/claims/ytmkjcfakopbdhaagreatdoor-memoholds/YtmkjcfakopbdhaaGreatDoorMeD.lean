/- What is wrong with a memo, by the program: walked for every kind. -/
import Derived.Test.YtmkjcfakopbdhaaGreatDoorMeC
import Derived.Test.YtmkjcfakopbdhaaGreatDoorPtB
namespace Go.Proofs.YtmkjcfakopbdhaaGreatDoor
open Go.RowKit
attribute [local go_sem ↓] Go.wp_at_zero Go.wp_at_succ

theorem below_drewN {n : Nat} {w w' : World} (h : Below n w w') (k : Nat) : Below n w (w'.drewN k) := ⟨h.os, h.tape, h.output, h.size, h.block⟩
set_option maxRecDepth 20000 in
set_option maxHeartbeats 2000000 in
theorem fault_any (k g n v m : Int) (t tg : List UInt8) (w : World) (he : EnvM w) :
    Calls Tryz.prog 27 #[.agg #[.int .i64 k, .int .i64 g, .int .i64 n, .int .i64 v, .int .i64 m, .string (bs t), .string (bs tg)]] w fun e W' => e = .returned (.int .i64 (fE k g n v m t.length)) ∧ Below w.heap.size w W' := by
  by_cases hk : isK k
  · by_cases hp : isP g n
    · have hk0 := hk.1
      have hk1 := hk.2
      obtain ⟨j, rfl⟩ : ∃ j : Nat, k = (j : Int) := ⟨k.toNat, by omega⟩
      have h := fault_gen j (by omega) (by omega) g n v m hp t tg w he.env.p _ _ _ _ _ _ _ (he.shapes.row j (by omega))
      rw [fE, if_neg (fun c => c hk), if_neg (fun c => c hp)]
      exact h
    · rw [fE, if_neg (fun c => c hk), if_pos hp]
      have hb0 : Below w.heap.size w (w.alloc (.cells #[.int .i64 k, .int .i64 g, .int .i64 n, .int .i64 v, .int .i64 m, .string (bs t), .string (bs tg)] 25)) := (Below.refl _ w).alloc (Nat.le_refl _) _
      have hK := isKind_any k
      rw [decide_eq_true hk] at hK
      have hN := fun W (h : EnvP W) => Name_any g n W h
      rw [show nameE g n = 1 from if_neg hp] at hN
      clear hk hp
      go_enter Tryz.func27, Tryz.ntmps27
      go_wp2_with (first | (go_at_call 26; refine (hK _).mono ?_; rintro e w1 ⟨rfl, rfl⟩))
      refine (hN _ (he.env.p.next hb0)).mono ?_
      rintro e w1 ⟨rfl, hb1⟩
      go_wp2
      go_ret
      exact ⟨rfl, hb0.trans (hb1.mono hb0.size)⟩
  · rw [fE, if_pos hk]
    have hb0 : Below w.heap.size w (w.alloc (.cells #[.int .i64 k, .int .i64 g, .int .i64 n, .int .i64 v, .int .i64 m, .string (bs t), .string (bs tg)] 25)) := (Below.refl _ w).alloc (Nat.le_refl _) _
    have hK := isKind_any k
    rw [decide_eq_false hk] at hK
    clear hk
    go_enter Tryz.func27, Tryz.ntmps27
    go_wp2_with (first | (go_at_call 26; refine (hK _).mono ?_; rintro e w1 ⟨rfl, rfl⟩))
    go_ret
    exact ⟨rfl, hb0⟩

set_option maxRecDepth 20000 in
set_option maxHeartbeats 2000000 in
theorem Check_any (k g n v m : Int) (t tg : List UInt8) (w : World) (he : EnvM w) :
    Calls Tryz.prog 13 #[.agg #[.int .i64 k, .int .i64 g, .int .i64 n, .int .i64 v, .int .i64 m, .string (bs t), .string (bs tg)]] w fun e W' => e = .returned (.int .i64 (cE k g n v m t.length tg.length)) ∧ Below w.heap.size w W' := by
  have hb0 : Below w.heap.size w (w.alloc (.cells #[.int .i64 k, .int .i64 g, .int .i64 n, .int .i64 v, .int .i64 m, .string (bs t), .string (bs tg)] 25)) := (Below.refl _ w).alloc (Nat.le_refl _) _
  have p0 : (w.alloc (.cells #[.int .i64 k, .int .i64 g, .int .i64 n, .int .i64 v, .int .i64 m, .string (bs t), .string (bs tg)] 25)).heap[w.heap.size]? = some (.cells #[.int .i64 k, .int .i64 g, .int .i64 n, .int .i64 v, .int .i64 m, .string (bs t), .string (bs tg)] 25) := heap_alloc_new _ _
  have hlp : w.heap.size < (w.alloc (.cells #[.int .i64 k, .int .i64 g, .int .i64 n, .int .i64 v, .int .i64 m, .string (bs t), .string (bs tg)] 25)).heap.size := by simp
  have hF := fault_any k g n v m t tg _ (he.next hb0)
  by_cases hf : fE k g n v m t.length = 0
  · have hk := (fE_ok hf).1
    have hk0 := hk.1
    have hk1 := hk.2
    rw [cE, if_pos hf]
    rw [hf] at hF
    clear hf hk
    obtain ⟨j, rfl⟩ : ∃ j : Nat, k = (j : Int) := ⟨k.toNat, by omega⟩
    have hr := (he.shapes.row j (by omega)).c6
    rw [Int.toNat_natCast]
    obtain ⟨T, hT⟩ : ∃ T, tgK j = T := ⟨_, rfl⟩
    rw [hT] at hr ⊢
    have k1 : (j : Int) < 13 := by omega
    have k0 : (0 : Int) ≤ (j : Int) := by omega
    have hlen : (bs tg).size = tg.length := bs_size tg
    clear hT hk0 hk1
    have hs := he.env.size
    by_cases c : (tg.length : Int) = T
    · rw [if_pos c]
      have hq : (((bs tg).size : Int) != T) = false := by rw [hlen, c]; simp
      clear c hlen
      go_enter Tryz.func13, Tryz.ntmps13
      go_wp2_with fail
      refine hF.mono ?_
      clear hF
      rintro e w1 ⟨rfl, hb1⟩
      have p1 := (hb1.block w.heap.size hlp).trans p0
      have x0 := cellB p1 0 _ rfl
      have x5 := cellB p1 6 _ rfl
      have hB1 := hb0.trans (hb1.mono hb0.size)
      have s6 := (hB1.cell (p := ⟨0, j * 7 + 6, none⟩) (by show 0 < w.heap.size; omega)).trans hr
      clear hb1 hb0 p0 hr p1
      go_wp2_with fail
      go_quiet (fail)
      go_wp2
      go_ret
      exact ⟨rfl, below_drewN hB1 _⟩
    · rw [if_neg c]
      have hq : (((bs tg).size : Int) != T) = true := by rw [hlen]; simpa using c
      clear c hlen
      go_enter Tryz.func13, Tryz.ntmps13
      go_wp2_with fail
      refine hF.mono ?_
      clear hF
      rintro e w1 ⟨rfl, hb1⟩
      have p1 := (hb1.block w.heap.size hlp).trans p0
      have x0 := cellB p1 0 _ rfl
      have x5 := cellB p1 6 _ rfl
      have hB1 := hb0.trans (hb1.mono hb0.size)
      have s6 := (hB1.cell (p := ⟨0, j * 7 + 6, none⟩) (by show 0 < w.heap.size; omega)).trans hr
      clear hb1 hb0 p0 hr p1
      go_wp2_with fail
      go_quiet (fail)
      go_wp2
      go_ret
      exact ⟨rfl, below_drewN hB1 _⟩
  · rw [cE, if_neg hf]
    obtain ⟨F, hF2⟩ : ∃ F, fE k g n v m t.length = F := ⟨_, rfl⟩
    rw [hF2] at hF hf ⊢
    have hq : (F != 0) = true := by simpa using hf
    clear hf hF2
    go_enter Tryz.func13, Tryz.ntmps13
    go_wp2_with fail
    refine hF.mono ?_
    clear hF
    rintro e w1 ⟨rfl, hb1⟩
    go_wp2
    go_ret
    exact ⟨rfl, hb0.trans (hb1.mono hb0.size)⟩
end Go.Proofs.YtmkjcfakopbdhaaGreatDoor
