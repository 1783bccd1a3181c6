/- reeve: how many shards move, walked. -/
import Derived.Test.YtcehmaegnfelhaaRvB
namespace Go.Proofs.Ytcehmaegnfelhaa
open Go.RowKit
attribute [local go_sem ↓] Go.wp_at_zero Go.wp_at_succ

/-- How many of the first n shards move. -/
def mvN (p q : List Int) : Nat → Nat
  | 0 => 0
  | n + 1 => if p.getD n 0 ≠ 0 ∧ p.getD n 0 ≠ q.getD n 0 then mvN p q n + 1 else mvN p q n
theorem mvN_le (p q : List Int) : ∀ n, mvN p q n ≤ n
  | 0 => Nat.le_refl _
  | n + 1 => by have := mvN_le p q n; rw [mvN]; split <;> omega
def cgO (x : Cg) : List Int := [x.a, x.b, x.c, x.d]
def mvI (x y : Cg) : Nat := mvN (cgO x) (cgO y) 4
set_option maxRecDepth 20000 in
set_option maxHeartbeats 1000000 in
theorem moved_any (x y : Cg) (gv gv' : Value) (w : World) : Calls Try.prog 21 #[.agg (cgv x gv), .agg (cgv y gv')] w fun e W' => e = .returned (.int .i64 (mvI x y)) ∧ Below w.heap.size w W' := by
  obtain ⟨xn, xg, x0, x1, x2, x3⟩ := x
  obtain ⟨yn, yg, y0, y1, y2, y3⟩ := y
  obtain ⟨N, hN⟩ : ∃ N, w.heap.size = N := ⟨_, rfl⟩
  have r0 := heap_alloc_new w (.cells (cf xn gv x0 x1 x2 x3) 50)
  have r1 := heap_alloc_new (w.alloc (.cells (cf xn gv x0 x1 x2 x3) 50)) (.cells (cf yn gv' y0 y1 y2 y3) 50)
  have r2 := Below.heap_alloc (w.alloc (.cells (cf xn gv x0 x1 x2 x3) 50)) (.cells (cf yn gv' y0 y1 y2 y3) 50) w.heap.size (by simp)
  have hb := ((Below.refl w.heap.size w).alloc (Nat.le_refl _) (.cells (cf xn gv x0 x1 x2 x3) 50)).alloc (by simp) (.cells (cf yn gv' y0 y1 y2 y3) 50)
  obtain ⟨W0, hW0⟩ : ∃ W, (w.alloc (.cells (cf xn gv x0 x1 x2 x3) 50)).alloc (.cells (cf yn gv' y0 y1 y2 y3) 50) = W := ⟨_, rfl⟩
  rw [hW0] at r1 r2 hb
  rw [show (w.alloc (.cells (cf xn gv x0 x1 x2 x3) 50)).heap.size = N + 1 by simp [hN]] at r1
  rw [r0, hN] at r2
  rw [hN] at hb
  obtain ⟨p, hp⟩ : ∃ p, [x0, x1, x2, x3] = p := ⟨_, rfl⟩
  obtain ⟨q, hq⟩ : ∃ q, [y0, y1, y2, y3] = q := ⟨_, rfl⟩
  have HM : Hid (mvI ⟨xn, xg, x0, x1, x2, x3⟩ ⟨yn, yg, y0, y1, y2, y3⟩ = mvN p q 4) := by show _ = _; rw [← hp, ← hq]; rfl
  have hx : ∀ k, k < 4 → W0.cell? ⟨N, 2 + k, none⟩ = some (.int .i64 (p.getD k 0)) := fun k hk => by
    refine cellB r2 _ _ (cf_at _ _ _ _ _ _ k _ ?_)
    rw [hp, List.getD_eq_getElem?_getD, List.getElem?_eq_getElem (by rw [← hp]; exact hk)]; rfl
  have hy : ∀ k, k < 4 → W0.cell? ⟨N + 1, 2 + k, none⟩ = some (.int .i64 (q.getD k 0)) := fun k hk => by
    refine cellB r1 _ _ (cf_at _ _ _ _ _ _ k _ ?_)
    rw [hq, List.getD_eq_getElem?_getD, List.getElem?_eq_getElem (by rw [← hq]; exact hk)]; rfl
  have HX : Hid (∀ k, k < 4 → W0.cell? ⟨N, 2 + k, none⟩ = some (.int .i64 (p.getD k 0)) ∧ W0.cell? ⟨N + 1, 2 + k, none⟩ = some (.int .i64 (q.getD k 0))) := fun k hk => ⟨hx k hk, hy k hk⟩
  have HB : Hid (Below N w W0) := hb
  have HN : Hid (w.heap.size = N) := hN
  have HW : Hid ((w.alloc (.cells (cf xn gv x0 x1 x2 x3) 50)).alloc (.cells (cf yn gv' y0 y1 y2 y3) 50) = W0) := hW0
  clear r0 r1 r2 hb hW0 hN hp hq hx hy
  rw [HM.out]
  go_enter Try.func21, Try.ntmps21
  go_wp2_with fail
  rw [HW.out, HN.out]
  clear HW
  go_loopg [5, 7] 4 (fun gk c i wr => ∃ k : Nat, k + gk = 4 ∧ i = .int .i64 k ∧ c = .int .i64 (mvN p q k) ∧ ∃ m, wr = W0.drewN m)
  case atStart => exact ⟨0, by omega, rfl, rfl, 0, rfl⟩
  case round =>
    obtain ⟨k, hk, rfl, rfl, m, rfl⟩ := hrel
    have hm := mvN_le p q k
    by_cases hlt : k < 4
    · obtain ⟨a0, b0⟩ := HX.out k hlt
      obtain ⟨a, ha⟩ : ∃ a, p.getD k 0 = a := ⟨_, rfl⟩
      obtain ⟨b, hb⟩ : ∃ b, q.getD k 0 = b := ⟨_, rfl⟩
      have hs : mvN p q (k + 1) = if a ≠ 0 ∧ a ≠ b then mvN p q k + 1 else mvN p q k := by rw [mvN, ha, hb]
      obtain ⟨M, hM⟩ : ∃ M, mvN p q k = M := ⟨_, rfl⟩
      rw [ha] at a0
      rw [hb] at b0
      rw [hM] at hs hm ⊢
      have HS : Hid (mvN p q (k + 1) = if a ≠ 0 ∧ a ≠ b then M + 1 else M) := hs
      have k0 : (0 : Int) ≤ (k : Int) := by omega
      have k1 : (k : Int) < 4 := by omega
      have k2 : k < 4 := hlt
      have k3 : M ≤ 4 := by omega
      clear hs ha hb hM
      by_cases h1 : a = 0
      · subst h1
        have hS2 : mvN p q (k + 1) = M := by rw [HS.out, if_neg (fun e => e.1 rfl)]
        go_upto_region 5 with fail
        go_quiet (fail)
        go_wp2_with fail
        go_roundg (4 - (k + 1))
        case measure => omega
        case rel => exact ⟨k + 1, by omega, by go_num, by rw [hS2], _, rfl⟩
      · by_cases h2 : a = b
        · subst h2
          have e1 : (a != 0) = true := by simpa using h1
          have hS2 : mvN p q (k + 1) = M := by rw [HS.out, if_neg (fun e => e.2 rfl)]
          go_upto_region 5 with fail
          go_quiet (fail)
          go_wp2_with fail
          go_roundg (4 - (k + 1))
          case measure => omega
          case rel => exact ⟨k + 1, by omega, by go_num, by rw [hS2], _, rfl⟩
        · have hS2 : mvN p q (k + 1) = M + 1 := by rw [HS.out, if_pos ⟨h1, h2⟩]
          have e1 : (a != 0) = true := by simpa using h1
          have e2 : (a != b) = true := by simpa using h2
          go_upto_region 5 with fail
          go_quiet (fail)
          go_wp2_with fail
          go_roundg (4 - (k + 1))
          case measure => omega
          case rel => exact ⟨k + 1, by omega, by go_num, by rw [hS2]; go_num, _, rfl⟩
    · have : k = 4 := by omega
      subst this
      go_wp2_with fail
      go_ret
      refine ⟨rfl, ?_⟩
      rw [HN.out]
      exact below_drewN HB.out m
end Go.Proofs.Ytcehmaegnfelhaa
