/- The law SealHolds, walked. -/
import Derived.Test.YtoniohmceaflnaaDoorPtD
import Derived.Test.YtoniohmceaflnaaDoorPtE
namespace Go.Proofs.YtoniohmceaflnaaDoor
open Go.RowKit
attribute [local go_sem ↓] Go.wp_at_zero Go.wp_at_succ

theorem sEncV_len20 (g n : Int) (t tg : List UInt8) (ht : t.length ≤ 20000) : (sEncV g n t tg).length ≤ 1000000 := by
  unfold sEncV
  split
  · rename_i h
    obtain ⟨hp, hl⟩ := sEnc_ok h
    have h1 := name_len g n hp
    have h2 := pack_len [nameL g n, t, tg] (by rw [tot3]; omega)
    rw [tot3] at h2
    simp only [List.length_cons, List.length_nil] at h2
    omega
  · exact Nat.zero_le _

set_option maxRecDepth 20000 in
set_option maxHeartbeats 4000000 in
theorem holds_any (seed tag : List UInt8) (g n : Int) (t tg : List UInt8) (w : World) (he : Env w) (hb : EnvB w) :
    Calls Tryd.prog 6 #[.string (bs seed), .string (bs tag), .agg #[.int .i64 g, .int .i64 n, .string (bs t), .string (bs tg)]] w fun e W' => e = .returned (.bool true) ∧ Below w.heap.size w W' := by
  have hb1 : Below w.heap.size w (w.alloc (.cells #[.int .i64 g, .int .i64 n, .string (bs t), .string (bs tg)] 36)) := (Below.refl _ w).alloc (Nat.le_refl _) _
  have p0 : (w.alloc (.cells #[.int .i64 g, .int .i64 n, .string (bs t), .string (bs tg)] 36)).heap[w.heap.size]? = some (.cells #[.int .i64 g, .int .i64 n, .string (bs t), .string (bs tg)] 36) := heap_alloc_new _ _
  have hlp : w.heap.size < (w.alloc (.cells #[.int .i64 g, .int .i64 n, .string (bs t), .string (bs tg)] 36)).heap.size := by simp
  obtain ⟨W0, hW0⟩ : ∃ W, w.alloc (.cells #[.int .i64 g, .int .i64 n, .string (bs t), .string (bs tg)] 36) = W := ⟨_, rfl⟩
  have HW0 : Hid (w.alloc (.cells #[.int .i64 g, .int .i64 n, .string (bs t), .string (bs tg)] 36) = W0) := hW0
  rw [hW0] at hb1 p0 hlp
  clear hW0
  have hOne : ∀ W, Below w.heap.size w W → Calls Tryd.prog 13 #[] W fun e W' => e = .returned (.bool true) ∧ Below W.heap.size W W' := fun W hW => one3_any W (he.next hW).p (hb.next hW)
  by_cases h32 : 32 < seed.length
  · have hN := New_long seed W0 h32
    have hg : decide (((bs seed).size : Int) ≤ 32) = false := by rw [bs_size]; simp; omega
    clear h32
    go_enter Tryd.func6, Tryd.ntmps6
    go_wp2_with fail
    rw [HW0.out]
    refine hN.mono ?_
    clear hN HW0
    rintro e w1 ⟨rfl, h⟩
    subst h
    go_wp2_with (go_at_call 13; refine (hOne w1 hb1).mono ?_; rintro e w2 ⟨rfl, hb2⟩)
    go_ret
    exact ⟨rfl, hb1.trans (hb2.mono hb1.size)⟩
  have hN := New_ok seed W0 (by omega)
  have hg : decide (((bs seed).size : Int) ≤ 32) = true := by rw [bs_size]; simp; omega
  have hb2 : Below W0.heap.size W0 (W0.alloc (.cells #[.string (bs seed)] 81)) := (Below.refl _ _).alloc (Nat.le_refl _) _
  have hR0 : RingAt (W0.alloc (.cells #[.string (bs seed)] 81)) (some ⟨W0.heap.size, 0, none⟩) (some seed) := .inr ⟨_, _, rfl, rfl, by omega, cellB (heap_alloc_new _ _) 0 _ rfl⟩
  obtain ⟨W1, hW1⟩ : ∃ W, W0.alloc (.cells #[.string (bs seed)] 81) = W := ⟨_, rfl⟩
  rw [hW1] at hb2 hR0 hN
  clear hW1
  have hB1 := hb1.trans (hb2.mono hb1.size)
  have p1 := (hb2.block w.heap.size hlp).trans p0
  have hl1 : w.heap.size < W1.heap.size := Nat.lt_of_lt_of_le hlp hb2.size
  obtain ⟨RB, hRB⟩ : ∃ RB, W0.heap.size = RB := ⟨_, rfl⟩
  rw [hRB] at hR0 hN
  clear hRB hb2
  clear h32
  have x0 := cellB p1 0 (.int .i64 g) rfl
  have x1 := cellB p1 1 (.int .i64 n) rfl
  have x2 := cellB p1 2 (.string (bs t)) rfl
  have x3 := cellB p1 3 (.string (bs tg)) rfl
  by_cases hlen : 20000 < t.length
  · have hq : decide ((20000 : Int) < ((bs t).size : Int)) = true := by rw [bs_size]; simp; omega
    go_enter Tryd.func6, Tryd.ntmps6
    go_wp2_with fail
    rw [HW0.out]
    refine hN.mono ?_
    clear hN HW0
    rintro e w1 ⟨rfl, h⟩
    subst h
    go_wp2_with (go_at_call 13; refine (hOne w1 hB1).mono ?_; rintro e w2 ⟨rfl, hb2⟩)
    go_ret
    exact ⟨rfl, hB1.trans (hb2.mono hB1.size)⟩
  have hq : decide ((20000 : Int) < ((bs t).size : Int)) = false := by rw [bs_size]; simp; omega
  have hS := Sign_any (some ⟨RB, 0, none⟩) (some seed) g n t W1 (he.next hB1).p (hb.next hB1) hR0 (fun _ => by omega)
  by_cases hp : isP g n
  · have e1 : tagErr (some seed) g n = 0 := by simp [tagErr, hp]
    rw [signV, if_pos e1, e1] at hS
    have hAl : (sigV (some seed) g n t).length = 16 := by rw [sigV, if_pos e1]; exact tagS_len _ _ _ _
    have hCk : ∀ u W, Below W1.heap.size W1 W → Calls Tryd.prog 18 #[.pointer (some ⟨RB, 0, none⟩), .agg #[.int .i64 g, .int .i64 n, .string (bs t), .string (bs u)]] W fun e W' => e = .returned (.int .i64 (if u = sigV (some seed) g n t then 0 else 30)) ∧ Below W.heap.size W W' := by
      intro u W hW
      have h := Check_any (some ⟨RB, 0, none⟩) (some seed) g n t u W (he.next (hB1.trans (hW.mono hB1.size))).p (hb.next (hB1.trans (hW.mono hB1.size))) (hR0.below hW (Nat.le_refl _)) (fun _ => by omega)
      rw [checkE, if_neg (fun c => c e1)] at h
      exact h
    obtain ⟨A, hA⟩ : ∃ x, sigV (some seed) g n t = x := ⟨_, rfl⟩
    rw [hA] at hS hAl hCk
    have hE0 := sEnc_of hp hAl
    have hEnc : ∀ W, EnvP W → Calls Tryd.prog 20 #[.agg #[.int .i64 g, .int .i64 n, .string (bs t), .string (bs A)]] W fun e W' => e = .returned (.tuple #[.string (bs (sEncV g n t A)), .int .i64 0]) ∧ Below W.heap.size W W' := by
      intro W hW
      have h := sEncode_any g n t A W (by omega) hW
      rw [hE0] at h
      exact h
    have hDec : ∀ W, Env W → Calls Tryd.prog 22 #[.string (bs (sEncV g n t A))] W fun e W' => e = .returned (.tuple #[.agg #[.int .i64 g, .int .i64 n, .string (bs t), .string (bs A)], .int .i64 0]) ∧ Below W.heap.size W W' := by
      intro W hW
      have h := sDecode_any (sEncV g n t A) W (sEncV_len20 g n t A (by omega)) hW
      rw [sDecV, sDecE, sDec_enc (t := t) hE0 (by omega)] at h
      exact h
    obtain ⟨EV, hEV⟩ : ∃ x, sEncV g n t A = x := ⟨_, rfl⟩
    rw [hEV] at hEnc hDec
    have hC1 := hCk A
    rw [if_pos rfl] at hC1
    have hC2 := hCk tag
    have hts : (tag = A ∧ ((bs tag).toList == (bs A).toList) = true) ∨ (tag ≠ A ∧ ((bs tag).toList == (bs A).toList) = false) := by
      by_cases h : tag = A
      · exact .inl ⟨h, by rw [h]; exact strs_same A⟩
      · exact .inr ⟨h, strs_other h⟩
    have hcase : ∃ C : Int, (∀ W, Below W1.heap.size W1 W → Calls Tryd.prog 18 #[.pointer (some ⟨RB, 0, none⟩), .agg #[.int .i64 g, .int .i64 n, .string (bs t), .string (bs tag)]] W fun e W' => e = .returned (.int .i64 C) ∧ Below W.heap.size W W') ∧ (C = 0 ∧ ((bs tag).toList == (bs A).toList) = true ∨ C = 30 ∧ ((bs tag).toList == (bs A).toList) = false) := by
      rcases hts with ⟨h, hs⟩ | ⟨h, hs⟩
      · rw [if_pos h] at hC2; exact ⟨0, hC2, .inl ⟨rfl, hs⟩⟩
      · rw [if_neg h] at hC2; exact ⟨30, hC2, .inr ⟨rfl, hs⟩⟩
    obtain ⟨C, hC2', hcase⟩ := hcase
    clear hts hC2 hCk hEV hE0 hAl hA e1 hp hR0 hlen
    have sA := strs_same A
    have st := strs_same t
    go_enter Tryd.func6, Tryd.ntmps6
    go_wp2_with fail
    rw [HW0.out]
    refine hN.mono ?_
    clear hN HW0
    rintro e w1 ⟨rfl, h⟩
    subst h
    go_wp2_with fail
    refine hS.mono ?_
    clear hS
    rintro e w2 ⟨rfl, hb2⟩
    have p2 := (hb2.block w.heap.size hl1).trans p1
    have hl2 : w.heap.size < w2.heap.size := (Array.getElem?_eq_some_iff.1 p2).1
    have q2 : (w2.alloc (.cells #[.int .i64 g, .int .i64 n, .string (bs t), .string (bs A)] 36)).heap[w2.heap.size]? = some (.cells #[.int .i64 g, .int .i64 n, .string (bs t), .string (bs A)] 36) := heap_alloc_new _ _
    have hbx : Below w2.heap.size w2 (w2.alloc (.cells #[.int .i64 g, .int .i64 n, .string (bs t), .string (bs A)] 36)) := (Below.refl _ _).alloc (Nat.le_refl _) _
    have hlx : w2.heap.size < (w2.alloc (.cells #[.int .i64 g, .int .i64 n, .string (bs t), .string (bs A)] 36)).heap.size := by simp
    clear p1 x0 x1 x2 x3 p0
    go_wp2_with fail
    obtain ⟨W3, hW3⟩ : ∃ W, w2.alloc (.cells #[.int .i64 g, .int .i64 n, .string (bs t), .string (bs A)] 36) = W := ⟨_, rfl⟩
    rw [hW3] at hbx q2 hlx ⊢
    clear hW3
    have hB3 := hb2.trans (hbx.mono hb2.size)
    have hB3w := hB1.trans (hB3.mono hB1.size)
    refine (hEnc _ (he.next hB3w).p).mono ?_
    rintro e w4 ⟨rfl, hb4⟩
    have hB4 := hB3.trans (hb4.mono hB3.size)
    have hB4w := hB3w.trans (hb4.mono hB3w.size)
    have q4 := (hb4.block w2.heap.size hlx).trans q2
    have hl4 : w2.heap.size < w4.heap.size := (Array.getElem?_eq_some_iff.1 q4).1
    clear hb4 hbx hb2 hEnc q2 hlx hB3 hB3w
    go_wp2_with fail
    refine (hDec _ (he.next hB4w)).mono ?_
    rintro e w5 ⟨rfl, hb5⟩
    have hB5 := hB4.trans (hb5.mono hB4.size)
    have q5 := (hb5.block w2.heap.size hl4).trans q4
    have hl5 : w2.heap.size < w5.heap.size := (Array.getElem?_eq_some_iff.1 q5).1
    have y0 := cellB q5 0 (.int .i64 g) rfl
    have y1 := cellB q5 1 (.int .i64 n) rfl
    have y2 := cellB q5 2 (.string (bs t)) rfl
    have y3 := cellB q5 3 (.string (bs A)) rfl
    clear hb5 q4 hDec hB4 hB4w hl4
    have hby : Below w5.heap.size w5 (w5.alloc (.cells #[.int .i64 g, .int .i64 n, .string (bs t), .string (bs A)] 36)) := (Below.refl _ _).alloc (Nat.le_refl _) _
    have ry : (w5.alloc (.cells #[.int .i64 g, .int .i64 n, .string (bs t), .string (bs A)] 36)).heap[w5.heap.size]? = some (.cells #[.int .i64 g, .int .i64 n, .string (bs t), .string (bs A)] 36) := heap_alloc_new _ _
    go_upto_region 9 with fail
    obtain ⟨W6, hW6⟩ : ∃ W, w5.alloc (.cells #[.int .i64 g, .int .i64 n, .string (bs t), .string (bs A)] 36) = W := ⟨_, rfl⟩
    rw [hW6] at hby ry ⊢
    clear hW6
    have hB6 := hB5.trans (hby.mono hB5.size)
    have q6 := (hby.block w2.heap.size hl5).trans q5
    have a0 := cellB q6 0 (.int .i64 g) rfl
    have a1 := cellB q6 1 (.int .i64 n) rfl
    have a2 := cellB q6 2 (.string (bs t)) rfl
    have a3 := cellB q6 3 (.string (bs A)) rfl
    have hl6 : w2.heap.size < W6.heap.size := (Array.getElem?_eq_some_iff.1 q6).1
    have hl6y : w5.heap.size < W6.heap.size := (Array.getElem?_eq_some_iff.1 ry).1
    have hbz : Below W6.heap.size W6 (W6.alloc (.cells #[.int .i64 g, .int .i64 n, .string (bs t), .string (bs tag)] 36)) := (Below.refl _ _).alloc (Nat.le_refl _) _
    have rz : (W6.alloc (.cells #[.int .i64 g, .int .i64 n, .string (bs t), .string (bs tag)] 36)).heap[W6.heap.size]? = some (.cells #[.int .i64 g, .int .i64 n, .string (bs t), .string (bs tag)] 36) := heap_alloc_new _ _
    clear y0 y1 y2 y3 q5 hby hB5
    go_wp2_with fail
    obtain ⟨W7, hW7⟩ : ∃ W, W6.alloc (.cells #[.int .i64 g, .int .i64 n, .string (bs t), .string (bs tag)] 36) = W := ⟨_, rfl⟩
    rw [hW7] at hbz rz ⊢
    clear hW7
    have hB7 := hB6.trans (hbz.mono hB6.size)
    have q7 := (hbz.block w2.heap.size hl6).trans q6
    have y7 := (hbz.block w5.heap.size hl6y).trans ry
    have hl7 : w2.heap.size < W7.heap.size := (Array.getElem?_eq_some_iff.1 q7).1
    have hl7y : w5.heap.size < W7.heap.size := (Array.getElem?_eq_some_iff.1 y7).1
    have hl7z : W6.heap.size < W7.heap.size := (Array.getElem?_eq_some_iff.1 rz).1
    clear a0 a1 a2 a3 q6 hbz hB6 p2 ry
    have c0 := cellB q7 0 (.int .i64 g) rfl
    have c1 := cellB q7 1 (.int .i64 n) rfl
    have c2 := cellB q7 2 (.string (bs t)) rfl
    have c3 := cellB q7 3 (.string (bs A)) rfl
    have d0 := cellB y7 0 (.int .i64 g) rfl
    have d1 := cellB y7 1 (.int .i64 n) rfl
    have d2 := cellB y7 2 (.string (bs t)) rfl
    have d3 := cellB y7 3 (.string (bs A)) rfl
    have e0 := cellB rz 0 (.int .i64 g) rfl
    have e1 := cellB rz 1 (.int .i64 n) rfl
    have e2 := cellB rz 2 (.string (bs t)) rfl
    have e3 := cellB rz 3 (.string (bs tag)) rfl
    rcases hcase with ⟨rfl, hts⟩ | ⟨rfl, hts⟩
    all_goals
      go_region_held3 (fun w' => w'.cell? ⟨w2.heap.size, 0, none⟩ = some (.int .i64 g) ∧ w'.cell? ⟨w2.heap.size, 1, none⟩ = some (.int .i64 n) ∧ w'.cell? ⟨w2.heap.size, 2, none⟩ = some (.string (bs t)) ∧ w'.cell? ⟨w2.heap.size, 3, none⟩ = some (.string (bs A)) ∧ w'.cell? ⟨w5.heap.size, 0, none⟩ = some (.int .i64 g) ∧ w'.cell? ⟨w5.heap.size, 1, none⟩ = some (.int .i64 n) ∧ w'.cell? ⟨w5.heap.size, 2, none⟩ = some (.string (bs t)) ∧ w'.cell? ⟨w5.heap.size, 3, none⟩ = some (.string (bs A)) ∧ w'.cell? ⟨W6.heap.size, 0, none⟩ = some (.int .i64 g) ∧ w'.cell? ⟨W6.heap.size, 1, none⟩ = some (.int .i64 n) ∧ w'.cell? ⟨W6.heap.size, 2, none⟩ = some (.string (bs t)) ∧ w'.cell? ⟨W6.heap.size, 3, none⟩ = some (.string (bs tag))) (go_keep)
        (first
          | (go_at_call 18; have hg := hB8; refine (hC2' w8 (hB7.trans (hB8.mono hB7.size))).mono ?_; rintro e w9 ⟨rfl, hb9⟩; have hB9 := hB8.trans (hb9.mono hB8.size); have k0 := (hB9.cell (p := ⟨w2.heap.size, 0, none⟩) hl7).trans c0; have k1 := (hB9.cell (p := ⟨w2.heap.size, 1, none⟩) hl7).trans c1; have k2 := (hB9.cell (p := ⟨w2.heap.size, 2, none⟩) hl7).trans c2; have k3 := (hB9.cell (p := ⟨w2.heap.size, 3, none⟩) hl7).trans c3; have k4 := (hB9.cell (p := ⟨w5.heap.size, 0, none⟩) hl7y).trans d0; have k5 := (hB9.cell (p := ⟨w5.heap.size, 1, none⟩) hl7y).trans d1; have k6 := (hB9.cell (p := ⟨w5.heap.size, 2, none⟩) hl7y).trans d2; have k7 := (hB9.cell (p := ⟨w5.heap.size, 3, none⟩) hl7y).trans d3; have k8 := (hB9.cell (p := ⟨W6.heap.size, 0, none⟩) hl7z).trans e0; have k9 := (hB9.cell (p := ⟨W6.heap.size, 1, none⟩) hl7z).trans e1; have ka := (hB9.cell (p := ⟨W6.heap.size, 2, none⟩) hl7z).trans e2; have kb := (hB9.cell (p := ⟨W6.heap.size, 3, none⟩) hl7z).trans e3)
          | (go_at_call 18; refine (hC1 W7.drew (below_drew3 hB7)).mono ?_; rintro e w8 ⟨rfl, hb8⟩; have hB8 : Below W7.heap.size W7 w8 := (below_drew3 (Below.refl W7.heap.size W7)).trans hb8; have j0 := (hB8.cell (p := ⟨w2.heap.size, 0, none⟩) hl7).trans c0; have j1 := (hB8.cell (p := ⟨w2.heap.size, 1, none⟩) hl7).trans c1; have j2 := (hB8.cell (p := ⟨w2.heap.size, 2, none⟩) hl7).trans c2; have j3 := (hB8.cell (p := ⟨w2.heap.size, 3, none⟩) hl7).trans c3; have j4 := (hB8.cell (p := ⟨w5.heap.size, 0, none⟩) hl7y).trans d0; have j5 := (hB8.cell (p := ⟨w5.heap.size, 1, none⟩) hl7y).trans d1; have j6 := (hB8.cell (p := ⟨w5.heap.size, 2, none⟩) hl7y).trans d2; have j7 := (hB8.cell (p := ⟨w5.heap.size, 3, none⟩) hl7y).trans d3; have j8 := (hB8.cell (p := ⟨W6.heap.size, 0, none⟩) hl7z).trans e0; have j9 := (hB8.cell (p := ⟨W6.heap.size, 1, none⟩) hl7z).trans e1; have ja := (hB8.cell (p := ⟨W6.heap.size, 2, none⟩) hl7z).trans e2; have jb := (hB8.cell (p := ⟨W6.heap.size, 3, none⟩) hl7z).trans e3)
          | (go_at_call 13; refine (hOne w9 ((hB1.trans (hB7.mono hB1.size)).trans (hB9.mono (hB1.trans (hB7.mono hB1.size)).size))).mono ?_; rintro e w10 ⟨rfl, hb10⟩; have hB10 := hB9.trans (hb10.mono hB9.size); have m0 := (hB10.cell (p := ⟨w2.heap.size, 0, none⟩) hl7).trans c0; have m1 := (hB10.cell (p := ⟨w2.heap.size, 1, none⟩) hl7).trans c1; have m2 := (hB10.cell (p := ⟨w2.heap.size, 2, none⟩) hl7).trans c2; have m3 := (hB10.cell (p := ⟨w2.heap.size, 3, none⟩) hl7).trans c3; have m4 := (hB10.cell (p := ⟨w5.heap.size, 0, none⟩) hl7y).trans d0; have m5 := (hB10.cell (p := ⟨w5.heap.size, 1, none⟩) hl7y).trans d1; have m6 := (hB10.cell (p := ⟨w5.heap.size, 2, none⟩) hl7y).trans d2; have m7 := (hB10.cell (p := ⟨w5.heap.size, 3, none⟩) hl7y).trans d3; have m8 := (hB10.cell (p := ⟨W6.heap.size, 0, none⟩) hl7z).trans e0; have m9 := (hB10.cell (p := ⟨W6.heap.size, 1, none⟩) hl7z).trans e1; have ma := (hB10.cell (p := ⟨W6.heap.size, 2, none⟩) hl7z).trans e2; have mb := (hB10.cell (p := ⟨W6.heap.size, 3, none⟩) hl7z).trans e3))
      go_wp2
      go_ret
      exact ⟨rfl, (hB1.trans (hB7.mono hB1.size)).trans (hB10.mono (hB1.trans (hB7.mono hB1.size)).size)⟩
  · have e1 : tagErr (some seed) g n = 1 := by simp only [tagErr, if_pos hp]
    rw [signV, e1, if_neg (by decide)] at hS
    have hI := fun W => Is_any g n W
    simp only [decide_eq_false hp] at hI
    clear hR0 hp e1
    go_enter Tryd.func6, Tryd.ntmps6
    go_wp2_with fail
    rw [HW0.out]
    refine hN.mono ?_
    clear hN HW0
    rintro e w1 ⟨rfl, h⟩
    subst h
    go_wp2_with fail
    refine hS.mono ?_
    clear hS
    rintro e w2 ⟨rfl, hb2⟩
    have p2 := (hb2.block w.heap.size hl1).trans p1
    have hl2 : w.heap.size < w2.heap.size := (Array.getElem?_eq_some_iff.1 p2).1
    have u0 := cellB p2 0 (.int .i64 g) rfl
    have u1 := cellB p2 1 (.int .i64 n) rfl
    have hB2 := hB1.trans (hb2.mono hB1.size)
    go_wp2_with fail
    refine (hI _).mono ?_
    rintro e w3 ⟨rfl, hb3⟩
    have hB3 := (hB2.alloc hB2.size _).trans (hb3.mono (hB2.alloc hB2.size _).size)
    go_wp2_with (go_at_call 13; refine (hOne w3 hB3).mono ?_; rintro e w4 ⟨rfl, hb4⟩)
    go_ret
    exact ⟨rfl, hB3.trans (hb4.mono hB3.size)⟩
end Go.Proofs.YtoniohmceaflnaaDoor
