/- The law MemoApart, walked. -/
import Derived.Test.YtielknegifbmpaaDoorMsE
namespace Go.Proofs.YtielknegifbmpaaDoor
open Go.RowKit
attribute [local go_sem ↓] Go.wp_at_zero Go.wp_at_succ

set_option maxRecDepth 20000 in
set_option maxHeartbeats 4000000 in
theorem apart_any (k g n v m : Int) (t tg : List UInt8) (k2 g2 n2 v2 m2 : Int) (t2 u2 : List UInt8) (w : World) (he : EnvM w) :
    Calls Tryd.prog 4 #[.agg #[.int .i64 k, .int .i64 g, .int .i64 n, .int .i64 v, .int .i64 m, .string (bs t), .string (bs tg)], .agg #[.int .i64 k2, .int .i64 g2, .int .i64 n2, .int .i64 v2, .int .i64 m2, .string (bs t2), .string (bs u2)]] w fun e W' => e = .returned (.bool true) ∧ Below w.heap.size w W' := by
  have hb1 : Below w.heap.size w ((w.alloc (.cells #[.int .i64 k, .int .i64 g, .int .i64 n, .int .i64 v, .int .i64 m, .string (bs t), .string (bs tg)] 25)).alloc (.cells #[.int .i64 k2, .int .i64 g2, .int .i64 n2, .int .i64 v2, .int .i64 m2, .string (bs t2), .string (bs u2)] 25)) := ((Below.refl _ w).alloc (Nat.le_refl _) _).alloc (by simp) _
  have hbb : Below (w.heap.size + 1) (w.alloc (.cells #[.int .i64 k, .int .i64 g, .int .i64 n, .int .i64 v, .int .i64 m, .string (bs t), .string (bs tg)] 25)) ((w.alloc (.cells #[.int .i64 k, .int .i64 g, .int .i64 n, .int .i64 v, .int .i64 m, .string (bs t), .string (bs tg)] 25)).alloc (.cells #[.int .i64 k2, .int .i64 g2, .int .i64 n2, .int .i64 v2, .int .i64 m2, .string (bs t2), .string (bs u2)] 25)) := (Below.refl _ _).alloc (by simp) _
  have p0 : ((w.alloc (.cells #[.int .i64 k, .int .i64 g, .int .i64 n, .int .i64 v, .int .i64 m, .string (bs t), .string (bs tg)] 25)).alloc (.cells #[.int .i64 k2, .int .i64 g2, .int .i64 n2, .int .i64 v2, .int .i64 m2, .string (bs t2), .string (bs u2)] 25)).heap[w.heap.size]? = some (.cells #[.int .i64 k, .int .i64 g, .int .i64 n, .int .i64 v, .int .i64 m, .string (bs t), .string (bs tg)] 25) := (hbb.block w.heap.size (by simp)).trans (heap_alloc_new _ _)
  have q0 : ((w.alloc (.cells #[.int .i64 k, .int .i64 g, .int .i64 n, .int .i64 v, .int .i64 m, .string (bs t), .string (bs tg)] 25)).alloc (.cells #[.int .i64 k2, .int .i64 g2, .int .i64 n2, .int .i64 v2, .int .i64 m2, .string (bs t2), .string (bs u2)] 25)).heap[w.heap.size + 1]? = some (.cells #[.int .i64 k2, .int .i64 g2, .int .i64 n2, .int .i64 v2, .int .i64 m2, .string (bs t2), .string (bs u2)] 25) := by
    have := heap_alloc_new (w.alloc (.cells #[.int .i64 k, .int .i64 g, .int .i64 n, .int .i64 v, .int .i64 m, .string (bs t), .string (bs tg)] 25)) (.cells #[.int .i64 k2, .int .i64 g2, .int .i64 n2, .int .i64 v2, .int .i64 m2, .string (bs t2), .string (bs u2)] 25)
    simpa using this
  have hOne : ∀ W, Below w.heap.size w W → Calls Tryd.prog 5 #[] W fun e W' => e = .returned (.bool true) ∧ Below W.heap.size W W' := fun W hW => wants_any W (he.next hW)
  have hLast0 := hOne _ hb1
  have hl1 : (bs t).size = t.length := bs_size t
  have hl2 : (bs t2).size = t2.length := bs_size t2
  clear hbb
  by_cases c1 : 20000 < t.length
  · have d1 : decide ((20000 : Int) < ((bs t).size : Int)) = true := by rw [hl1]; exact decide_eq_true (by omega)
    clear c1 hl1 hl2 p0 q0
    go_enter Tryd.func4, Tryd.ntmps4
    go_wp2_with (first | (go_at_call 5; refine hLast0.mono ?_; rintro e w9 ⟨rfl, hb9⟩))
    go_ret
    exact ⟨rfl, hb1.trans (hb9.mono hb1.size)⟩
  have d1 : decide ((20000 : Int) < ((bs t).size : Int)) = false := by rw [hl1]; exact decide_eq_false (by omega)
  by_cases c2 : 20000 < t2.length
  · have d2 : decide ((20000 : Int) < ((bs t2).size : Int)) = true := by rw [hl2]; exact decide_eq_true (by omega)
    clear c1 c2 hl1 hl2 p0 q0
    go_enter Tryd.func4, Tryd.ntmps4
    go_wp2_with (first | (go_at_call 5; refine hLast0.mono ?_; rintro e w9 ⟨rfl, hb9⟩))
    go_ret
    exact ⟨rfl, hb1.trans (hb9.mono hb1.size)⟩
  have d2 : decide ((20000 : Int) < ((bs t2).size : Int)) = false := by rw [hl2]; exact decide_eq_false (by omega)
  by_cases c3 : g = g2
  case neg =>
    have d3 : (g != g2) = true := by simpa using c3
    clear c1 c2 c3 hl1 hl2 p0 q0
    go_enter Tryd.func4, Tryd.ntmps4
    go_wp2_with (first | (go_at_call 5; refine hLast0.mono ?_; rintro e w9 ⟨rfl, hb9⟩))
    go_ret
    exact ⟨rfl, hb1.trans (hb9.mono hb1.size)⟩
  subst c3
  have hSa := fun W (h : EnvM W) => Said_any k g n v m t tg W (by omega) h
  have hSb := fun W (h : EnvM W) => Said_any k2 g n2 v2 m2 t2 u2 W (by omega) h
  have HK : Hid (∀ W, Below ((w.alloc (.cells #[.int .i64 k, .int .i64 g, .int .i64 n, .int .i64 v, .int .i64 m, .string (bs t), .string (bs tg)] 25)).alloc (.cells #[.int .i64 k2, .int .i64 g, .int .i64 n2, .int .i64 v2, .int .i64 m2, .string (bs t2), .string (bs u2)] 25)).heap.size ((w.alloc (.cells #[.int .i64 k, .int .i64 g, .int .i64 n, .int .i64 v, .int .i64 m, .string (bs t), .string (bs tg)] 25)).alloc (.cells #[.int .i64 k2, .int .i64 g, .int .i64 n2, .int .i64 v2, .int .i64 m2, .string (bs t2), .string (bs u2)] 25)) W → (W.heap[w.heap.size]? = some (.cells #[.int .i64 k, .int .i64 g, .int .i64 n, .int .i64 v, .int .i64 m, .string (bs t), .string (bs tg)] 25) ∧ W.heap[w.heap.size + 1]? = some (.cells #[.int .i64 k2, .int .i64 g, .int .i64 n2, .int .i64 v2, .int .i64 m2, .string (bs t2), .string (bs u2)] 25))) := fun W hb => ⟨(hb.block _ (Array.getElem?_eq_some_iff.1 p0).1).trans p0, (hb.block _ (Array.getElem?_eq_some_iff.1 q0).1).trans q0⟩
  have HB1 : Hid (Below w.heap.size w ((w.alloc (.cells #[.int .i64 k, .int .i64 g, .int .i64 n, .int .i64 v, .int .i64 m, .string (bs t), .string (bs tg)] 25)).alloc (.cells #[.int .i64 k2, .int .i64 g, .int .i64 n2, .int .i64 v2, .int .i64 m2, .string (bs t2), .string (bs u2)] 25))) := hb1
  have hE0 := he.next hb1
  clear c1 c2 hl1 hl2 p0 q0 hLast0 hb1
  go_enter Tryd.func4, Tryd.ntmps4
  go_upto_region 1 with fail
  obtain ⟨W2n, hW2⟩ : ∃ W, (w.alloc (.cells #[.int .i64 k, .int .i64 g, .int .i64 n, .int .i64 v, .int .i64 m, .string (bs t), .string (bs tg)] 25)).alloc (.cells #[.int .i64 k2, .int .i64 g, .int .i64 n2, .int .i64 v2, .int .i64 m2, .string (bs t2), .string (bs u2)] 25) = W := ⟨_, rfl⟩
  rw [hW2] at HK HB1 hE0 ⊢
  clear hW2
  obtain ⟨p0, q0⟩ := HK.out W2n (Below.refl _ _)
  have a0 := cellB p0 0 (.int .i64 k) rfl
  have a1 := cellB p0 1 (.int .i64 g) rfl
  have a2 := cellB p0 2 (.int .i64 n) rfl
  have a3 := cellB p0 3 (.int .i64 v) rfl
  have a4 := cellB p0 4 (.int .i64 m) rfl
  have a5 := cellB p0 5 (.string (bs t)) rfl
  have a6 := cellB p0 6 (.string (bs tg)) rfl
  have b1 := cellB q0 1 (.int .i64 g) rfl
  have b5 := cellB q0 5 (.string (bs t2)) rfl
  clear p0 q0
  go_wp2_with fail
  refine (hSa _ hE0).mono ?_
  clear hSa hE0 d1 d2
  rintro e w1 ⟨⟨X, E, rfl, hX⟩, hb2⟩
  have HB2 : Hid (Below W2n.heap.size W2n w1) := hb2
  obtain ⟨-, q1⟩ := HK.out w1 hb2
  clear a0 a1 a2 a3 a4 a5 a6 b1 b5
  have b0 := cellB q1 0 (.int .i64 k2) rfl
  have b1 := cellB q1 1 (.int .i64 g) rfl
  have b2 := cellB q1 2 (.int .i64 n2) rfl
  have b3 := cellB q1 3 (.int .i64 v2) rfl
  have b4 := cellB q1 4 (.int .i64 m2) rfl
  have b5 := cellB q1 5 (.string (bs t2)) rfl
  have b6 := cellB q1 6 (.string (bs u2)) rfl
  clear hb2 q1
  go_wp2_with fail
  refine (hSb _ (he.next (HB1.out.trans (HB2.out.mono HB1.out.size)))).mono ?_
  clear hSb
  rintro e w2 ⟨⟨Y, F, rfl, hY⟩, hb3⟩
  have hB3 := HB2.out.trans (hb3.mono HB2.out.size)
  obtain ⟨p2, q2⟩ := HK.out w2 hB3
  have hBz := HB1.out.trans (hB3.mono HB1.out.size)
  have hLast := hOne w2 hBz
  have HBz : Hid (Below w.heap.size w w2) := hBz
  clear b0 b1 b2 b3 b4 b5 b6
  have a0 := cellB p2 0 (.int .i64 k) rfl
  have a3 := cellB p2 3 (.int .i64 v) rfl
  have a4 := cellB p2 4 (.int .i64 m) rfl
  have a5 := cellB p2 5 (.string (bs t)) rfl
  have b0 := cellB q2 0 (.int .i64 k2) rfl
  have b3 := cellB q2 3 (.int .i64 v2) rfl
  have b4 := cellB q2 4 (.int .i64 m2) rfl
  have b5 := cellB q2 5 (.string (bs t2)) rfl
  clear hB3 hBz hb3 HB1 HB2 HK p2 q2 hOne he
  by_cases e1 : E = 0
  case neg =>
    have d1 : (E != 0) = true := by simpa using e1
    clear e1 hX hY
    go_wp2_with (first | (go_at_call 5; refine hLast.mono ?_; rintro e w9 ⟨rfl, hb9⟩))
    go_ret
    exact ⟨rfl, HBz.out.trans (hb9.mono HBz.out.size)⟩
  by_cases e2 : F = 0
  case neg =>
    have d1 : (E != 0) = false := by simpa using e1
    have d2 : (F != 0) = true := by simpa using e2
    clear e1 e2 hX hY
    go_wp2_with (first | (go_at_call 5; refine hLast.mono ?_; rintro e w9 ⟨rfl, hb9⟩))
    go_ret
    exact ⟨rfl, HBz.out.trans (hb9.mono HBz.out.size)⟩
  by_cases e3 : 9 < k
  · have d1 : (E != 0) = false := by simpa using e1
    have d2 : (F != 0) = false := by simpa using e2
    clear e1 e2 hX hY
    go_wp2_with (first | (go_at_call 5; refine hLast.mono ?_; rintro e w9 ⟨rfl, hb9⟩))
    go_ret
    exact ⟨rfl, HBz.out.trans (hb9.mono HBz.out.size)⟩
  by_cases e4 : 9 < k2
  · have d1 : (E != 0) = false := by simpa using e1
    have d2 : (F != 0) = false := by simpa using e2
    have d3 : k ≤ 9 := by omega
    clear e1 e2 e3 hX hY
    go_wp2_with (first | (go_at_call 5; refine hLast.mono ?_; rintro e w9 ⟨rfl, hb9⟩))
    go_ret
    exact ⟨rfl, HBz.out.trans (hb9.mono HBz.out.size)⟩
  have hx := hX e1 (by omega)
  have hy := hY e2 (by omega)
  have d1 : (E != 0) = false := by simpa using e1
  have d2 : (F != 0) = false := by simpa using e2
  have d3 : k ≤ 9 := by omega
  have d4 : k2 ≤ 9 := by omega
  have hap : X = Y → k = k2 ∧ v = v2 ∧ m = m2 ∧ t = t2 := fun e => by subst e; exact said_apart hx hy hx.g0 hx.g1
  have hsame : k = k2 → v = v2 → m = m2 → t = t2 → X = Y := fun a b c d => by subst a b c d; rw [hx.say, hy.say]
  clear hX hY hx hy e1 e2 e3 e4
  by_cases f1 : k = k2
  case neg =>
    have z1 : (k == k2) = false := by simpa using f1
    have z0 : ((bs X).toList == (bs Y).toList) = false := str_other (fun e => f1 (hap e).1)
    clear hap hsame f1
    go_wp2_with (first | (go_at_call 5; refine hLast.mono ?_; rintro e w9 ⟨rfl, hb9⟩))
    go_ret
    exact ⟨rfl, HBz.out.trans (hb9.mono HBz.out.size)⟩
  subst f1
  by_cases f2 : v = v2
  case neg =>
    have z1 : (v == v2) = false := by simpa using f2
    have z0 : ((bs X).toList == (bs Y).toList) = false := str_other (fun e => f2 (hap e).2.1)
    clear hap hsame f2
    go_wp2_with (first | (go_at_call 5; refine hLast.mono ?_; rintro e w9 ⟨rfl, hb9⟩))
    go_ret
    exact ⟨rfl, HBz.out.trans (hb9.mono HBz.out.size)⟩
  subst f2
  by_cases f3 : m = m2
  case neg =>
    have z1 : (m == m2) = false := by simpa using f3
    have z0 : ((bs X).toList == (bs Y).toList) = false := str_other (fun e => f3 (hap e).2.2.1)
    clear hap hsame f3
    go_wp2_with (first | (go_at_call 5; refine hLast.mono ?_; rintro e w9 ⟨rfl, hb9⟩))
    go_ret
    exact ⟨rfl, HBz.out.trans (hb9.mono HBz.out.size)⟩
  subst f3
  by_cases f4 : t = t2
  case neg =>
    have z1 : ((bs t).toList == (bs t2).toList) = false := str_other f4
    have z0 : ((bs X).toList == (bs Y).toList) = false := str_other (fun e => f4 (hap e).2.2.2)
    clear hap hsame f4
    go_wp2_with (first | (go_at_call 5; refine hLast.mono ?_; rintro e w9 ⟨rfl, hb9⟩))
    go_ret
    exact ⟨rfl, HBz.out.trans (hb9.mono HBz.out.size)⟩
  subst f4
  obtain rfl := hsame rfl rfl rfl rfl
  have z1 : ((bs t).toList == (bs t).toList) = true := str_same t
  have z0 : ((bs X).toList == (bs X).toList) = true := str_same X
  clear hap hsame
  go_wp2_with (first | (go_at_call 5; refine hLast.mono ?_; rintro e w9 ⟨rfl, hb9⟩))
  go_ret
  exact ⟨rfl, HBz.out.trans (hb9.mono HBz.out.size)⟩
end Go.Proofs.YtielknegifbmpaaDoor
