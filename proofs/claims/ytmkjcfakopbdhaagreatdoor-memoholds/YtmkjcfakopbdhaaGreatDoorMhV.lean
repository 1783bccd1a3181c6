/- Verify, walked. -/
import Derived.Test.YtmkjcfakopbdhaaGreatDoorMhD
import Derived.Test.YtmkjcfakopbdhaaGreatDoorSl1
import Derived.Test.YtmkjcfakopbdhaaGreatDoorMeH
namespace Go.Proofs.YtmkjcfakopbdhaaGreatDoor
open Go.RowKit
attribute [local go_sem ↓] Go.wp_at_zero Go.wp_at_succ

structure EnvH (w : World) : Prop where
  m : EnvM w
  b : EnvB w
theorem EnvH.next {w w' : World} (h : EnvH w) (hb : Below w.heap.size w w') : EnvH w' := ⟨h.m.next hb, h.b.next hb⟩
theorem saidV_len (W : List UInt8) (g v m : Int) (t : List UInt8) : (saidV W g v m t).length ≤ 30000 := by
  unfold saidV
  split
  · rename_i h
    unfold saidE at h
    split at h
    · cases h
    · split at h
      · cases h
      · omega
  · exact Nat.zero_le _
theorem textV_len (g m : Int) (t : List UInt8) : (textV g m t).length ≤ 30000 := by
  unfold textV
  split
  · rename_i h
    unfold textE at h
    split at h
    · cases h
    · split at h
      · cases h
      · omega
  · exact Nat.zero_le _
theorem sax_len {k g n v m : Int} {t tg : List UInt8} (ht : t.length ≤ 40000) : (saX k g n v m t tg).length ≤ 1000000 := by
  unfold saX
  split
  · exact Nat.zero_le _
  split
  · rename_i hf
    split
    · exact Nat.zero_le _
    · obtain ⟨hk, hp, -, hok⟩ := fE_ok hf
      have hk0 := hk.1
      have hk1 := hk.2
      have hkn := kinds k.toNat (by omega)
      have hv0 : 0 ≤ v := by have := hok.1; omega
      have hv1 : v ≤ 1099511627776 := by have := hok.2.1; omega
      have hm0 : 0 ≤ m := by have := hok.2.2.1; omega
      have hm1 : m ≤ 1099511627776 := by have := hok.2.2.2.1; omega
      have b1 := itoa_le (z := k) (by omega) (by omega)
      have b2 := itoa_le (z := g) (by have := hp.1; omega) (by have := hp.2.1; omega)
      have b3 := itoa_le (z := v) (by omega) (by omega)
      have b4 := itoa_le (z := m) (by omega) (by omega)
      have c1 := saidV_len orderW g v m t
      have c2 := saidV_len settleW g v m t
      have c3 := textV_len g m t
      have w3 : memoW.length = 4 := rfl
      have ho : (ownT k g v m t).length ≤ 1000000 := by
        have h1 : tot [memoW, Lib.itoa k, Lib.itoa g, Lib.itoa v, Lib.itoa m, t] ≤ 50000 := by rw [tot6]; omega
        have h2 := pack_len [memoW, Lib.itoa k, Lib.itoa g, Lib.itoa v, Lib.itoa m, t] (by omega)
        simp only [List.length_cons, List.length_nil] at h2
        rw [ownT]; omega
      unfold sdX
      split
      · omega
      split
      · omega
      split
      · omega
      split
      · omega
      · exact ho
  · exact Nat.zero_le _
/-- What is wrong with a memo and its tag. -/
def vfE (s : List UInt8) (k g n v m : Int) (t tg : List UInt8) : Int :=
  if cE k g n v m t.length tg.length = 0 then (if utB k = true then 0 else if saE k g n v m t tg = 0 then checkE (some s) g n (saX k g n v m t tg) tg else saE k g n v m t tg) else cE k g n v m t.length tg.length

set_option maxRecDepth 20000 in
set_option maxHeartbeats 4000000 in
theorem Verify_any (R : Nat) (s : List UInt8) (k g n v m : Int) (t tg : List UInt8) (w : World) (ht : t.length ≤ 40000) (he : EnvH w) (hr : RingAt w (some ⟨R, 0, none⟩) (some s)) :
    Calls Tryz.prog 9 #[.pointer (some ⟨R, 0, none⟩), .agg #[.int .i64 k, .int .i64 g, .int .i64 n, .int .i64 v, .int .i64 m, .string (bs t), .string (bs tg)]] w fun e W' => e = .returned (.int .i64 (vfE s k g n v m t tg)) ∧ Below w.heap.size w W' := by
  have hb0 : Below w.heap.size w (w.alloc (.cells #[.int .i64 k, .int .i64 g, .int .i64 n, .int .i64 v, .int .i64 m, .string (bs t), .string (bs tg)] 25)) := (Below.refl _ w).alloc (Nat.le_refl _) _
  have p0 : (w.alloc (.cells #[.int .i64 k, .int .i64 g, .int .i64 n, .int .i64 v, .int .i64 m, .string (bs t), .string (bs tg)] 25)).heap[w.heap.size]? = some (.cells #[.int .i64 k, .int .i64 g, .int .i64 n, .int .i64 v, .int .i64 m, .string (bs t), .string (bs tg)] 25) := heap_alloc_new _ _
  have hlp : w.heap.size < (w.alloc (.cells #[.int .i64 k, .int .i64 g, .int .i64 n, .int .i64 v, .int .i64 m, .string (bs t), .string (bs tg)] 25)).heap.size := by simp
  have hC := Check_any k g n v m t tg _ (he.next hb0).m
  by_cases hc : cE k g n v m t.length tg.length = 0
  case neg =>
    rw [vfE, if_neg hc]
    obtain ⟨F, hF2⟩ : ∃ F, cE k g n v m t.length tg.length = F := ⟨_, rfl⟩
    rw [hF2] at hC hc ⊢
    have hq : (F != 0) = true := by simpa using hc
    clear hc hF2 p0 hlp
    go_enter Tryz.func9, Tryz.ntmps9
    go_wp2_with (first | (go_at_call 13; refine hC.mono ?_; rintro e w1 ⟨rfl, hb1⟩))
    go_ret
    exact ⟨rfl, hb0.trans (hb1.mono hb0.size)⟩
  rw [vfE, if_pos hc]
  rw [hc] at hC
  have hU0 : ∀ W, Below w.heap.size w W → Calls Tryz.prog 12 #[.int .i64 k] W fun e W' => e = .returned (.bool (utB k)) ∧ W' = W := fun W hW => isUntagged_any k W (he.next hW).m
  have hS0 : ∀ W, Below w.heap.size w W → Calls Tryz.prog 14 #[.agg #[.int .i64 k, .int .i64 g, .int .i64 n, .int .i64 v, .int .i64 m, .string (bs t), .string (bs tg)]] W fun e W' => e = .returned (.tuple #[.string (bs (saX k g n v m t tg)), .int .i64 (saE k g n v m t tg)]) ∧ Below W.heap.size W W' := fun W hW => Said_any k g n v m t tg W ht (he.next hW).m
  have hK0 : ∀ W, Below w.heap.size w W → Calls Tryz.prog 22 #[.pointer (some ⟨R, 0, none⟩), .agg #[.int .i64 g, .int .i64 n, .string (bs (saX k g n v m t tg)), .string (bs tg)]] W fun e W' => e = .returned (.int .i64 (checkE (some s) g n (saX k g n v m t tg) tg)) ∧ Below W.heap.size W W' := fun W hW => sCheck_any _ _ g n _ tg W (he.next hW).m.env.p (he.next hW).b (hr.below hW (Nat.le_refl _)) (fun _ => by have := sax_len (k := k) (g := g) (n := n) (v := v) (m := m) (t := t) (tg := tg) ht; omega)
  obtain ⟨SX, hSX⟩ : ∃ x, saX k g n v m t tg = x := ⟨_, rfl⟩
  obtain ⟨SE, hSE⟩ : ∃ x, saE k g n v m t tg = x := ⟨_, rfl⟩
  obtain ⟨KE, hKE⟩ : ∃ x, checkE (some s) g n SX tg = x := ⟨_, rfl⟩
  rw [hSX, hSE] at hS0
  rw [hSX, hKE] at hK0
  rw [hSX, hSE, hKE]
  obtain ⟨U, hU⟩ : ∃ U, utB k = U := ⟨_, rfl⟩
  rw [hU] at hU0 ⊢
  clear hSX hSE hKE hU hc hr he
  cases U
  case true =>
    rw [if_pos rfl]
    clear hS0 hK0
    go_enter Tryz.func9, Tryz.ntmps9
    go_wp2_with (first | (go_at_call 13; refine hC.mono ?_; rintro e w1 ⟨rfl, hb1⟩; have hB1 := hb0.trans (hb1.mono hb0.size); have p1 := (hb1.block w.heap.size hlp).trans p0; have x0 := cellB p1 0 (.int .i64 k) rfl; have hU1 := hU0 w1 hB1; clear hb1 p1) | (go_at_call 12; refine hU1.mono ?_; rintro e w2 ⟨rfl, h9⟩; subst w2))
    go_ret
    exact ⟨rfl, hB1⟩
  rw [if_neg (by decide)]
  by_cases hse : SE = 0
  · rw [if_pos hse]
    subst hse
    go_enter Tryz.func9, Tryz.ntmps9
    go_wp2_with (first | (go_at_call 13; refine hC.mono ?_; clear hC; rintro e w1 ⟨rfl, hb1⟩; have hB1 := hb0.trans (hb1.mono hb0.size); have p1 := (hb1.block w.heap.size hlp).trans p0; have hl1 : w.heap.size < w1.heap.size := (Array.getElem?_eq_some_iff.1 p1).1; have x0 := cellB p1 0 (.int .i64 k) rfl; have x1 := cellB p1 1 (.int .i64 g) rfl; have x2 := cellB p1 2 (.int .i64 n) rfl; have x3 := cellB p1 3 (.int .i64 v) rfl; have x4 := cellB p1 4 (.int .i64 m) rfl; have x5 := cellB p1 5 (.string (bs t)) rfl; have x6 := cellB p1 6 (.string (bs tg)) rfl; have hU1 := hU0 w1 hB1; have hS1 := hS0 w1 hB1; clear hb1 p0 hlp) | (go_at_call 12; refine hU1.mono ?_; rintro e w2 ⟨rfl, h9⟩; subst w2) | (go_at_call 14; refine hS1.mono ?_; clear hS1; rintro e w3 ⟨rfl, hb3⟩; have hB3 := hB1.trans (hb3.mono hB1.size); have p3 := (hb3.block w.heap.size hl1).trans p1; have y1 := cellB p3 1 (.int .i64 g) rfl; have y2 := cellB p3 2 (.int .i64 n) rfl; have y6 := cellB p3 6 (.string (bs tg)) rfl; have hK3 := hK0 w3 hB3; clear hb3 p1) | (go_at_call 22; refine hK3.mono ?_; clear hK3; rintro e w4 ⟨rfl, hb4⟩))
    go_ret
    exact ⟨rfl, hB3.trans (hb4.mono hB3.size)⟩
  · rw [if_neg hse]
    have hq : (SE != 0) = true := by simpa using hse
    clear hse hK0
    go_enter Tryz.func9, Tryz.ntmps9
    go_wp2_with (first | (go_at_call 13; refine hC.mono ?_; clear hC; rintro e w1 ⟨rfl, hb1⟩; have hB1 := hb0.trans (hb1.mono hb0.size); have p1 := (hb1.block w.heap.size hlp).trans p0; have x0 := cellB p1 0 (.int .i64 k) rfl; have x1 := cellB p1 1 (.int .i64 g) rfl; have x2 := cellB p1 2 (.int .i64 n) rfl; have x3 := cellB p1 3 (.int .i64 v) rfl; have x4 := cellB p1 4 (.int .i64 m) rfl; have x5 := cellB p1 5 (.string (bs t)) rfl; have x6 := cellB p1 6 (.string (bs tg)) rfl; have hU1 := hU0 w1 hB1; have hS1 := hS0 w1 hB1; clear hb1 p0 hlp) | (go_at_call 12; refine hU1.mono ?_; rintro e w2 ⟨rfl, h9⟩; subst w2) | (go_at_call 14; refine hS1.mono ?_; clear hS1; rintro e w3 ⟨rfl, hb3⟩))
    go_ret
    exact ⟨rfl, hB1.trans (hb3.mono hB1.size)⟩
end Go.Proofs.YtmkjcfakopbdhaaGreatDoor
