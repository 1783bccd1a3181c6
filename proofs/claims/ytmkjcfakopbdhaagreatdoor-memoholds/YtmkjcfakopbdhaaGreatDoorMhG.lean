/- Sign, walked. -/
import Derived.Test.YtmkjcfakopbdhaaGreatDoorMhV
import Derived.Deep.DeepCutAuto
namespace Go.Proofs.YtmkjcfakopbdhaaGreatDoor
open Go.RowKit
attribute [local go_sem ↓] Go.wp_at_zero Go.wp_at_succ

/-- Why a memo can't be signed; the tag it gets. -/
def sgE (k g n v m : Int) (t tg : List UInt8) : Int := if utB k = true then cE k g n v m t.length tg.length else saE k g n v m t tg
def sgT (s : List UInt8) (k g n v m : Int) (t tg : List UInt8) : List UInt8 := if utB k = true then tg else sigV (some s) g n (saX k g n v m t tg)
def sgV (s : List UInt8) (k g n v m : Int) (t tg : List UInt8) : Value := if sgE k g n v m t tg = 0 then .agg #[.int .i64 k, .int .i64 g, .int .i64 n, .int .i64 v, .int .i64 m, .string (bs t), .string (bs (sgT s k g n v m t tg))] else .agg #[.int .i64 0, .int .i64 0, .int .i64 0, .int .i64 0, .int .i64 0, .string ⟨#[]⟩, .string ⟨#[]⟩]

set_option maxRecDepth 20000 in
set_option maxHeartbeats 8000000 in
theorem Sign_any (R : Nat) (s : List UInt8) (k g n v m : Int) (t tg : List UInt8) (w : World) (ht : t.length ≤ 40000) (he : EnvH w) (hr : RingAt w (some ⟨R, 0, none⟩) (some s)) :
    Calls Tryz.prog 6 #[.pointer (some ⟨R, 0, none⟩), .agg #[.int .i64 k, .int .i64 g, .int .i64 n, .int .i64 v, .int .i64 m, .string (bs t), .string (bs tg)]] w fun e W' => e = .returned (.tuple #[sgV s k g n v m t tg, .int .i64 (sgE k g n v m t tg)]) ∧ Below w.heap.size w W' := by
  have hb1 : Below w.heap.size w ((w.alloc (.cells #[.int .i64 k, .int .i64 g, .int .i64 n, .int .i64 v, .int .i64 m, .string (bs t), .string (bs tg)] 25)).alloc (.cells #[.int .i64 0, .int .i64 0, .int .i64 0, .int .i64 0, .int .i64 0, .string ⟨#[]⟩, .string ⟨#[]⟩] 25)) := ((Below.refl _ w).alloc (Nat.le_refl _) _).alloc (by simp) _
  have hbb : Below (w.heap.size + 1) (w.alloc (.cells #[.int .i64 k, .int .i64 g, .int .i64 n, .int .i64 v, .int .i64 m, .string (bs t), .string (bs tg)] 25)) ((w.alloc (.cells #[.int .i64 k, .int .i64 g, .int .i64 n, .int .i64 v, .int .i64 m, .string (bs t), .string (bs tg)] 25)).alloc (.cells #[.int .i64 0, .int .i64 0, .int .i64 0, .int .i64 0, .int .i64 0, .string ⟨#[]⟩, .string ⟨#[]⟩] 25)) := (Below.refl _ _).alloc (by simp) _
  have p0 : ((w.alloc (.cells #[.int .i64 k, .int .i64 g, .int .i64 n, .int .i64 v, .int .i64 m, .string (bs t), .string (bs tg)] 25)).alloc (.cells #[.int .i64 0, .int .i64 0, .int .i64 0, .int .i64 0, .int .i64 0, .string ⟨#[]⟩, .string ⟨#[]⟩] 25)).heap[w.heap.size]? = some (.cells #[.int .i64 k, .int .i64 g, .int .i64 n, .int .i64 v, .int .i64 m, .string (bs t), .string (bs tg)] 25) := (hbb.block w.heap.size (by simp)).trans (heap_alloc_new _ _)
  have q0 : ((w.alloc (.cells #[.int .i64 k, .int .i64 g, .int .i64 n, .int .i64 v, .int .i64 m, .string (bs t), .string (bs tg)] 25)).alloc (.cells #[.int .i64 0, .int .i64 0, .int .i64 0, .int .i64 0, .int .i64 0, .string ⟨#[]⟩, .string ⟨#[]⟩] 25)).heap[w.heap.size + 1]? = some (.cells #[.int .i64 0, .int .i64 0, .int .i64 0, .int .i64 0, .int .i64 0, .string ⟨#[]⟩, .string ⟨#[]⟩] 25) := by
    have := heap_alloc_new (w.alloc (.cells #[.int .i64 k, .int .i64 g, .int .i64 n, .int .i64 v, .int .i64 m, .string (bs t), .string (bs tg)] 25)) (.cells #[.int .i64 0, .int .i64 0, .int .i64 0, .int .i64 0, .int .i64 0, .string ⟨#[]⟩, .string ⟨#[]⟩] 25)
    simpa using this
  have HK : Hid (∀ W, Below ((w.alloc (.cells #[.int .i64 k, .int .i64 g, .int .i64 n, .int .i64 v, .int .i64 m, .string (bs t), .string (bs tg)] 25)).alloc (.cells #[.int .i64 0, .int .i64 0, .int .i64 0, .int .i64 0, .int .i64 0, .string ⟨#[]⟩, .string ⟨#[]⟩] 25)).heap.size ((w.alloc (.cells #[.int .i64 k, .int .i64 g, .int .i64 n, .int .i64 v, .int .i64 m, .string (bs t), .string (bs tg)] 25)).alloc (.cells #[.int .i64 0, .int .i64 0, .int .i64 0, .int .i64 0, .int .i64 0, .string ⟨#[]⟩, .string ⟨#[]⟩] 25)) W → (W.heap[w.heap.size]? = some (.cells #[.int .i64 k, .int .i64 g, .int .i64 n, .int .i64 v, .int .i64 m, .string (bs t), .string (bs tg)] 25) ∧ W.heap[w.heap.size + 1]? = some (.cells #[.int .i64 0, .int .i64 0, .int .i64 0, .int .i64 0, .int .i64 0, .string ⟨#[]⟩, .string ⟨#[]⟩] 25))) := fun W hb => ⟨(hb.block _ (Array.getElem?_eq_some_iff.1 p0).1).trans p0, (hb.block _ (Array.getElem?_eq_some_iff.1 q0).1).trans q0⟩
  have HB1 : Hid (Below w.heap.size w ((w.alloc (.cells #[.int .i64 k, .int .i64 g, .int .i64 n, .int .i64 v, .int .i64 m, .string (bs t), .string (bs tg)] 25)).alloc (.cells #[.int .i64 0, .int .i64 0, .int .i64 0, .int .i64 0, .int .i64 0, .string ⟨#[]⟩, .string ⟨#[]⟩] 25))) := hb1
  have hU0 : ∀ W, Below w.heap.size w W → Calls Tryz.prog 12 #[.int .i64 k] W fun e W' => e = .returned (.bool (utB k)) ∧ W' = W := fun W hW => isUntagged_any k W (he.next hW).m
  have hC0 : ∀ W, Below w.heap.size w W → Calls Tryz.prog 13 #[.agg #[.int .i64 k, .int .i64 g, .int .i64 n, .int .i64 v, .int .i64 m, .string (bs t), .string (bs tg)]] W fun e W' => e = .returned (.int .i64 (cE k g n v m t.length tg.length)) ∧ Below W.heap.size W W' := fun W hW => Check_any k g n v m t tg W (he.next hW).m
  have hS0 : ∀ W, Below w.heap.size w W → Calls Tryz.prog 14 #[.agg #[.int .i64 k, .int .i64 g, .int .i64 n, .int .i64 v, .int .i64 m, .string (bs t), .string (bs tg)]] W fun e W' => e = .returned (.tuple #[.string (bs (saX k g n v m t tg)), .int .i64 (saE k g n v m t tg)]) ∧ Below W.heap.size W W' := fun W hW => Said_any k g n v m t tg W ht (he.next hW).m
  have hT0 : ∀ W, Below w.heap.size w W → Calls Tryz.prog 15 #[.pointer (some ⟨R, 0, none⟩), .agg #[.int .i64 g, .int .i64 n], .string (bs (saX k g n v m t tg))] W fun e W' => e = .returned (.tuple #[.string (bs (sigV (some s) g n (saX k g n v m t tg))), .int .i64 (tagErr (some s) g n)]) ∧ Below W.heap.size W W' := fun W hW => Tag_any _ _ g n _ W (he.next hW).m.env.p (he.next hW).b (hr.below hW (Nat.le_refl _)) (fun _ => by have := sax_len (k := k) (g := g) (n := n) (v := v) (m := m) (t := t) (tg := tg) ht; omega)
  have htag : utB k = false → saE k g n v m t tg = 0 → tagErr (some s) g n = 0 := fun hu h => by
    rw [saE, if_neg (by rw [hu]; decide)] at h
    split at h
    · rename_i hf
      have hp := (fE_ok hf).2.1
      simp [tagErr, hp]
    · rename_i hf; exact absurd h hf
  have hU1 := hU0 _ hb1
  clear p0 q0 hbb hb1 hr he ht
  obtain ⟨W2n, hW2⟩ : ∃ W, (w.alloc (.cells #[.int .i64 k, .int .i64 g, .int .i64 n, .int .i64 v, .int .i64 m, .string (bs t), .string (bs tg)] 25)).alloc (.cells #[.int .i64 0, .int .i64 0, .int .i64 0, .int .i64 0, .int .i64 0, .string ⟨#[]⟩, .string ⟨#[]⟩] 25) = W := ⟨_, rfl⟩
  have HW2 : Hid ((w.alloc (.cells #[.int .i64 k, .int .i64 g, .int .i64 n, .int .i64 v, .int .i64 m, .string (bs t), .string (bs tg)] 25)).alloc (.cells #[.int .i64 0, .int .i64 0, .int .i64 0, .int .i64 0, .int .i64 0, .string ⟨#[]⟩, .string ⟨#[]⟩] 25) = W2n) := hW2
  rw [hW2] at HK HB1 hU1
  clear hW2
  unfold sgV sgT sgE
  cases hu : utB k
  case true =>
    rw [hu] at hU1
    rw [if_pos rfl, if_pos rfl]
    clear hS0 hT0 htag hu hU0
    by_cases hc : cE k g n v m t.length tg.length = 0
    · rw [if_pos hc, hc]
      rw [hc] at hC0
      clear hc
      go_enter Tryz.func6, Tryz.ntmps6
      go_upto_region 1 with fail
      rw [HW2.out]
      clear HW2
      obtain ⟨p0, q0⟩ := HK.out W2n (Below.refl _ _)
      have x0 := cellB p0 0 (.int .i64 k) rfl
      have x1 := cellB p0 1 (.int .i64 g) rfl
      have x2 := cellB p0 2 (.int .i64 n) rfl
      have x3 := cellB p0 3 (.int .i64 v) rfl
      have x4 := cellB p0 4 (.int .i64 m) rfl
      have x5 := cellB p0 5 (.string (bs t)) rfl
      have x6 := cellB p0 6 (.string (bs tg)) rfl
      have hC1 := hC0 W2n HB1.out
      clear p0 q0
      go_upto_region 5 with (first | (go_at_call 12; refine hU1.mono ?_; clear hU1; rintro e w2 ⟨rfl, h9⟩; subst w2) | (go_at_call 13; refine hC1.mono ?_; clear hC1 hC0 x0 x1 x2 x3 x4 x5 x6; rintro e w3 ⟨rfl, hb3⟩; have hB3 := HB1.out.trans (hb3.mono HB1.out.size); obtain ⟨p3, q3⟩ := HK.out w3 hb3))
      have y0 := cellB p3 0 (.int .i64 k) rfl
      have y1 := cellB p3 1 (.int .i64 g) rfl
      have y2 := cellB p3 2 (.int .i64 n) rfl
      have y3 := cellB p3 3 (.int .i64 v) rfl
      have y4 := cellB p3 4 (.int .i64 m) rfl
      have y5 := cellB p3 5 (.string (bs t)) rfl
      have y6 := cellB p3 6 (.string (bs tg)) rfl
      have f0 := frozenB q3 0
      have f1 := frozenB q3 1
      have f2 := frozenB q3 2
      have f3 := frozenB q3 3
      have f4 := frozenB q3 4
      have f5 := frozenB q3 5
      have f6 := frozenB q3 6
      have s0 := cellB q3 0 (.int .i64 0) rfl
      have s1 := cellB q3 1 (.int .i64 0) rfl
      have s2 := cellB q3 2 (.int .i64 0) rfl
      have s3 := cellB q3 3 (.int .i64 0) rfl
      have s4 := cellB q3 4 (.int .i64 0) rfl
      have s5 := cellB q3 5 (.string ⟨#[]⟩) rfl
      have s6 := cellB q3 6 (.string ⟨#[]⟩) rfl
      have hr7 := set7 q3 (.int .i64 k) (.int .i64 g) (.int .i64 n) (.int .i64 v) (.int .i64 m) (.string (bs t)) (.string (bs tg))
      have z0 := cellB hr7 0 (.int .i64 k) rfl
      have z1 := cellB hr7 1 (.int .i64 g) rfl
      have z2 := cellB hr7 2 (.int .i64 n) rfl
      have z3 := cellB hr7 3 (.int .i64 v) rfl
      have z4 := cellB hr7 4 (.int .i64 m) rfl
      have z5 := cellB hr7 5 (.string (bs t)) rfl
      have z6 := cellB hr7 6 (.string (bs tg)) rfl
      have hBz := (((((((hB3).setCell (p := ⟨w.heap.size + 1, 0, none⟩) (Nat.le_succ _) (.int .i64 k)).setCell (p := ⟨w.heap.size + 1, 1, none⟩) (Nat.le_succ _) (.int .i64 g)).setCell (p := ⟨w.heap.size + 1, 2, none⟩) (Nat.le_succ _) (.int .i64 n)).setCell (p := ⟨w.heap.size + 1, 3, none⟩) (Nat.le_succ _) (.int .i64 v)).setCell (p := ⟨w.heap.size + 1, 4, none⟩) (Nat.le_succ _) (.int .i64 m)).setCell (p := ⟨w.heap.size + 1, 5, none⟩) (Nat.le_succ _) (.string (bs t))).setCell (p := ⟨w.heap.size + 1, 6, none⟩) (Nat.le_succ _) (.string (bs tg))
      clear hr7
      clear HK
      go_wp2
      exact bodyPost_ret (v := .tuple #[.agg #[.int .i64 k, .int .i64 g, .int .i64 n, .int .i64 v, .int .i64 m, .string (bs t), .string (bs tg)], .int .i64 0]) (by simp [results, Tryz.f6, go_sem, z0, z1, z2, z3, z4, z5, z6]) rfl ⟨rfl, hBz⟩
    · rw [if_neg hc]
      obtain ⟨F, hF2⟩ : ∃ F, cE k g n v m t.length tg.length = F := ⟨_, rfl⟩
      rw [hF2] at hC0 hc ⊢
      have hq : (F != 0) = true := by simpa using hc
      clear hc hF2
      go_enter Tryz.func6, Tryz.ntmps6
      go_upto_region 1 with fail
      rw [HW2.out]
      clear HW2
      obtain ⟨p0, q0⟩ := HK.out W2n (Below.refl _ _)
      have x0 := cellB p0 0 (.int .i64 k) rfl
      have x1 := cellB p0 1 (.int .i64 g) rfl
      have x2 := cellB p0 2 (.int .i64 n) rfl
      have x3 := cellB p0 3 (.int .i64 v) rfl
      have x4 := cellB p0 4 (.int .i64 m) rfl
      have x5 := cellB p0 5 (.string (bs t)) rfl
      have x6 := cellB p0 6 (.string (bs tg)) rfl
      have hC1 := hC0 W2n HB1.out
      clear p0 q0
      go_upto_region 4 with (first | (go_at_call 12; refine hU1.mono ?_; clear hU1; rintro e w2 ⟨rfl, h9⟩; subst w2) | (go_at_call 13; refine hC1.mono ?_; clear hC1 hC0 x0 x1 x2 x3 x4 x5 x6; rintro e w3 ⟨rfl, hb3⟩; have hB3 := HB1.out.trans (hb3.mono HB1.out.size); obtain ⟨p3, q3⟩ := HK.out w3 hb3))
      have f0 := frozenB q3 0
      have f1 := frozenB q3 1
      have f2 := frozenB q3 2
      have f3 := frozenB q3 3
      have f4 := frozenB q3 4
      have f5 := frozenB q3 5
      have f6 := frozenB q3 6
      have s0 := cellB q3 0 (.int .i64 0) rfl
      have s1 := cellB q3 1 (.int .i64 0) rfl
      have s2 := cellB q3 2 (.int .i64 0) rfl
      have s3 := cellB q3 3 (.int .i64 0) rfl
      have s4 := cellB q3 4 (.int .i64 0) rfl
      have s5 := cellB q3 5 (.string ⟨#[]⟩) rfl
      have s6 := cellB q3 6 (.string ⟨#[]⟩) rfl
      have hr7 := set7 q3 (.int .i64 0) (.int .i64 0) (.int .i64 0) (.int .i64 0) (.int .i64 0) (.string ⟨#[]⟩) (.string ⟨#[]⟩)
      have z0 := cellB hr7 0 (.int .i64 0) rfl
      have z1 := cellB hr7 1 (.int .i64 0) rfl
      have z2 := cellB hr7 2 (.int .i64 0) rfl
      have z3 := cellB hr7 3 (.int .i64 0) rfl
      have z4 := cellB hr7 4 (.int .i64 0) rfl
      have z5 := cellB hr7 5 (.string ⟨#[]⟩) rfl
      have z6 := cellB hr7 6 (.string ⟨#[]⟩) rfl
      have hBz := (((((((hB3).setCell (p := ⟨w.heap.size + 1, 0, none⟩) (Nat.le_succ _) (.int .i64 0)).setCell (p := ⟨w.heap.size + 1, 1, none⟩) (Nat.le_succ _) (.int .i64 0)).setCell (p := ⟨w.heap.size + 1, 2, none⟩) (Nat.le_succ _) (.int .i64 0)).setCell (p := ⟨w.heap.size + 1, 3, none⟩) (Nat.le_succ _) (.int .i64 0)).setCell (p := ⟨w.heap.size + 1, 4, none⟩) (Nat.le_succ _) (.int .i64 0)).setCell (p := ⟨w.heap.size + 1, 5, none⟩) (Nat.le_succ _) (.string ⟨#[]⟩)).setCell (p := ⟨w.heap.size + 1, 6, none⟩) (Nat.le_succ _) (.string ⟨#[]⟩)
      clear hr7
      clear HK
      go_wp2
      exact bodyPost_ret (v := .tuple #[.agg #[.int .i64 0, .int .i64 0, .int .i64 0, .int .i64 0, .int .i64 0, .string ⟨#[]⟩, .string ⟨#[]⟩], .int .i64 F]) (by simp [results, Tryz.f6, go_sem, z0, z1, z2, z3, z4, z5, z6]) rfl ⟨rfl, hBz⟩
  rw [hu] at hU1
  simp only [Bool.false_eq_true, if_false]
  have htag0 := htag hu
  clear hC0 hu hU0 htag
  obtain ⟨SX, hSX⟩ : ∃ x, saX k g n v m t tg = x := ⟨_, rfl⟩
  obtain ⟨SE, hSE⟩ : ∃ x, saE k g n v m t tg = x := ⟨_, rfl⟩
  obtain ⟨TG, hTG⟩ : ∃ x, sigV (some s) g n SX = x := ⟨_, rfl⟩
  rw [hSX, hSE] at hS0
  rw [hSX, hTG] at hT0
  rw [hSE] at htag0
  rw [hSX, hSE, hTG]
  clear hSX hSE hTG
  by_cases hse : SE = 0
  · rw [htag0 hse] at hT0
    rw [if_pos hse]
    subst hse
    clear htag0
    go_enter Tryz.func6, Tryz.ntmps6
    go_upto_region 1 with fail
    rw [HW2.out]
    clear HW2
    obtain ⟨p0, q0⟩ := HK.out W2n (Below.refl _ _)
    have x0 := cellB p0 0 (.int .i64 k) rfl
    have x1 := cellB p0 1 (.int .i64 g) rfl
    have x2 := cellB p0 2 (.int .i64 n) rfl
    have x3 := cellB p0 3 (.int .i64 v) rfl
    have x4 := cellB p0 4 (.int .i64 m) rfl
    have x5 := cellB p0 5 (.string (bs t)) rfl
    have x6 := cellB p0 6 (.string (bs tg)) rfl
    have hS1 := hS0 W2n HB1.out
    clear p0 q0
    go_upto_region 9 with (first | (go_at_call 12; refine hU1.mono ?_; clear hU1; rintro e w2 ⟨rfl, h9⟩; subst w2) | (go_at_call 14; refine hS1.mono ?_; clear hS1 hS0 x0 x1 x2 x3 x4 x5 x6; rintro e w3 ⟨rfl, hb3⟩; have HB3 : Hid (Below W2n.heap.size W2n w3) := hb3; obtain ⟨p3, q3⟩ := HK.out w3 hb3))
    have hT3 := hT0 w3 (HB1.out.trans (HB3.out.mono HB1.out.size))
    have y0 := cellB p3 0 (.int .i64 k) rfl
    have y1 := cellB p3 1 (.int .i64 g) rfl
    have y2 := cellB p3 2 (.int .i64 n) rfl
    have y3 := cellB p3 3 (.int .i64 v) rfl
    have y4 := cellB p3 4 (.int .i64 m) rfl
    have y5 := cellB p3 5 (.string (bs t)) rfl
    have y6 := cellB p3 6 (.string (bs tg)) rfl
    clear p3 q3
    go_upto_region 12 with (first | (go_at_call 15; refine hT3.mono ?_; clear hT3 hT0 y0 y1 y2 y3 y4 y5 y6; rintro e w4 ⟨rfl, hb4⟩; have HB4 : Hid (Below W2n.heap.size W2n w4) := HB3.out.trans (hb4.mono HB3.out.size); obtain ⟨p4, q4⟩ := HK.out w4 HB4.out; have g6 := frozenB p4 6; have h6 := cellB p4 6 (.string (bs tg)) rfl; clear hb4))
    have p5 : (w4.setCell ⟨w.heap.size, 6, none⟩ (.string (bs TG))).heap[w.heap.size]? = some (.cells #[.int .i64 k, .int .i64 g, .int .i64 n, .int .i64 v, .int .i64 m, .string (bs t), .string (bs TG)] 25) := by
      have := setB p4 6 (.string (bs TG))
      simpa using this
    have q5 : (w4.setCell ⟨w.heap.size, 6, none⟩ (.string (bs TG))).heap[w.heap.size + 1]? = some (.cells #[.int .i64 0, .int .i64 0, .int .i64 0, .int .i64 0, .int .i64 0, .string ⟨#[]⟩, .string ⟨#[]⟩] 25) := (set_far (by omega) 6 _).trans q4
    have hB5 : Below w.heap.size w (w4.setCell ⟨w.heap.size, 6, none⟩ (.string (bs TG))) := (HB1.out.trans (HB4.out.mono HB1.out.size)).setCell (p := ⟨w.heap.size, 6, none⟩) (Nat.le_refl _) _
    clear g6 h6 p4 q4
    obtain ⟨W5, hW5⟩ : ∃ W, w4.setCell ⟨w.heap.size, 6, none⟩ (.string (bs TG)) = W := ⟨_, rfl⟩
    rw [hW5] at p5 q5 hB5 ⊢
    clear hW5 HK HB1 HB3 HB4
    have y0 := cellB p5 0 (.int .i64 k) rfl
    have y1 := cellB p5 1 (.int .i64 g) rfl
    have y2 := cellB p5 2 (.int .i64 n) rfl
    have y3 := cellB p5 3 (.int .i64 v) rfl
    have y4 := cellB p5 4 (.int .i64 m) rfl
    have y5 := cellB p5 5 (.string (bs t)) rfl
    have y6 := cellB p5 6 (.string (bs TG)) rfl
    have f0 := frozenB q5 0
    have f1 := frozenB q5 1
    have f2 := frozenB q5 2
    have f3 := frozenB q5 3
    have f4 := frozenB q5 4
    have f5 := frozenB q5 5
    have f6 := frozenB q5 6
    have s0 := cellB q5 0 (.int .i64 0) rfl
    have s1 := cellB q5 1 (.int .i64 0) rfl
    have s2 := cellB q5 2 (.int .i64 0) rfl
    have s3 := cellB q5 3 (.int .i64 0) rfl
    have s4 := cellB q5 4 (.int .i64 0) rfl
    have s5 := cellB q5 5 (.string ⟨#[]⟩) rfl
    have s6 := cellB q5 6 (.string ⟨#[]⟩) rfl
    have hr7 := set7 q5 (.int .i64 k) (.int .i64 g) (.int .i64 n) (.int .i64 v) (.int .i64 m) (.string (bs t)) (.string (bs TG))
    have z0 := cellB hr7 0 (.int .i64 k) rfl
    have z1 := cellB hr7 1 (.int .i64 g) rfl
    have z2 := cellB hr7 2 (.int .i64 n) rfl
    have z3 := cellB hr7 3 (.int .i64 v) rfl
    have z4 := cellB hr7 4 (.int .i64 m) rfl
    have z5 := cellB hr7 5 (.string (bs t)) rfl
    have z6 := cellB hr7 6 (.string (bs TG)) rfl
    have hBz := (((((((hB5).setCell (p := ⟨w.heap.size + 1, 0, none⟩) (Nat.le_succ _) (.int .i64 k)).setCell (p := ⟨w.heap.size + 1, 1, none⟩) (Nat.le_succ _) (.int .i64 g)).setCell (p := ⟨w.heap.size + 1, 2, none⟩) (Nat.le_succ _) (.int .i64 n)).setCell (p := ⟨w.heap.size + 1, 3, none⟩) (Nat.le_succ _) (.int .i64 v)).setCell (p := ⟨w.heap.size + 1, 4, none⟩) (Nat.le_succ _) (.int .i64 m)).setCell (p := ⟨w.heap.size + 1, 5, none⟩) (Nat.le_succ _) (.string (bs t))).setCell (p := ⟨w.heap.size + 1, 6, none⟩) (Nat.le_succ _) (.string (bs TG))
    clear hr7
    go_wp2
    exact bodyPost_ret (v := .tuple #[.agg #[.int .i64 k, .int .i64 g, .int .i64 n, .int .i64 v, .int .i64 m, .string (bs t), .string (bs TG)], .int .i64 0]) (by simp [results, Tryz.f6, go_sem, z0, z1, z2, z3, z4, z5, z6]) rfl ⟨rfl, hBz⟩
  · rw [if_neg hse]
    have hq : (SE != 0) = true := by simpa using hse
    clear hse htag0 hT0
    go_enter Tryz.func6, Tryz.ntmps6
    go_upto_region 1 with fail
    rw [HW2.out]
    clear HW2
    obtain ⟨p0, q0⟩ := HK.out W2n (Below.refl _ _)
    have x0 := cellB p0 0 (.int .i64 k) rfl
    have x1 := cellB p0 1 (.int .i64 g) rfl
    have x2 := cellB p0 2 (.int .i64 n) rfl
    have x3 := cellB p0 3 (.int .i64 v) rfl
    have x4 := cellB p0 4 (.int .i64 m) rfl
    have x5 := cellB p0 5 (.string (bs t)) rfl
    have x6 := cellB p0 6 (.string (bs tg)) rfl
    have hS1 := hS0 W2n HB1.out
    clear p0 q0
    go_upto_region 8 with (first | (go_at_call 12; refine hU1.mono ?_; clear hU1; rintro e w2 ⟨rfl, h9⟩; subst w2) | (go_at_call 14; refine hS1.mono ?_; clear hS1 hS0 x0 x1 x2 x3 x4 x5 x6; rintro e w3 ⟨rfl, hb3⟩; have hB3 := HB1.out.trans (hb3.mono HB1.out.size); obtain ⟨p3, q3⟩ := HK.out w3 hb3))
    have f0 := frozenB q3 0
    have f1 := frozenB q3 1
    have f2 := frozenB q3 2
    have f3 := frozenB q3 3
    have f4 := frozenB q3 4
    have f5 := frozenB q3 5
    have f6 := frozenB q3 6
    have s0 := cellB q3 0 (.int .i64 0) rfl
    have s1 := cellB q3 1 (.int .i64 0) rfl
    have s2 := cellB q3 2 (.int .i64 0) rfl
    have s3 := cellB q3 3 (.int .i64 0) rfl
    have s4 := cellB q3 4 (.int .i64 0) rfl
    have s5 := cellB q3 5 (.string ⟨#[]⟩) rfl
    have s6 := cellB q3 6 (.string ⟨#[]⟩) rfl
    have hr7 := set7 q3 (.int .i64 0) (.int .i64 0) (.int .i64 0) (.int .i64 0) (.int .i64 0) (.string ⟨#[]⟩) (.string ⟨#[]⟩)
    have z0 := cellB hr7 0 (.int .i64 0) rfl
    have z1 := cellB hr7 1 (.int .i64 0) rfl
    have z2 := cellB hr7 2 (.int .i64 0) rfl
    have z3 := cellB hr7 3 (.int .i64 0) rfl
    have z4 := cellB hr7 4 (.int .i64 0) rfl
    have z5 := cellB hr7 5 (.string ⟨#[]⟩) rfl
    have z6 := cellB hr7 6 (.string ⟨#[]⟩) rfl
    have hBz := (((((((hB3).setCell (p := ⟨w.heap.size + 1, 0, none⟩) (Nat.le_succ _) (.int .i64 0)).setCell (p := ⟨w.heap.size + 1, 1, none⟩) (Nat.le_succ _) (.int .i64 0)).setCell (p := ⟨w.heap.size + 1, 2, none⟩) (Nat.le_succ _) (.int .i64 0)).setCell (p := ⟨w.heap.size + 1, 3, none⟩) (Nat.le_succ _) (.int .i64 0)).setCell (p := ⟨w.heap.size + 1, 4, none⟩) (Nat.le_succ _) (.int .i64 0)).setCell (p := ⟨w.heap.size + 1, 5, none⟩) (Nat.le_succ _) (.string ⟨#[]⟩)).setCell (p := ⟨w.heap.size + 1, 6, none⟩) (Nat.le_succ _) (.string ⟨#[]⟩)
    clear hr7
    clear HK
    go_wp2
    exact bodyPost_ret (v := .tuple #[.agg #[.int .i64 0, .int .i64 0, .int .i64 0, .int .i64 0, .int .i64 0, .string ⟨#[]⟩, .string ⟨#[]⟩], .int .i64 SE]) (by simp [results, Tryz.f6, go_sem, z0, z1, z2, z3, z4, z5, z6]) rfl ⟨rfl, hBz⟩
end Go.Proofs.YtmkjcfakopbdhaaGreatDoor
