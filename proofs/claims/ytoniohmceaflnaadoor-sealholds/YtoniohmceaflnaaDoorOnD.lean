import Derived.Test.YtoniohmceaflnaaDoorOnC
import Derived.Deep.RegionHeld3
namespace Go.Proofs.YtoniohmceaflnaaDoor
open Go.RowKit
attribute [local go_sem ↓] Go.wp_at_zero Go.wp_at_succ

theorem nil_bs : bs [] = ⟨#[]⟩ := rfl
theorem below_drew3 {n : Nat} {w w' : World} (h : Below n w w') : Below n w w'.drew := ⟨h.os, h.tape, h.output, h.size, h.block⟩
set_option maxRecDepth 20000 in
set_option maxHeartbeats 4000000 in
theorem tags_any (seed text : List UInt8) (g n : Int) (t tg : List UInt8) (w : World) (he : EnvP w) (hb : EnvB w) (hsl : seed.length ≤ 140737488355328) (htx : text.length ≤ 140737488351232) (htl : t.length ≤ 140737488351232) :
    Calls Tryd.prog 4 #[.string (bs seed), .string (bs text), .agg #[.int .i64 g, .int .i64 n, .string (bs t), .string (bs tg)]] w fun e W' => e = .returned (.bool true) ∧ Below w.heap.size w W' := by
  have hb1 : Below w.heap.size w (w.alloc (.cells #[.int .i64 g, .int .i64 n, .string (bs t), .string (bs tg)] 36)) := (Below.refl _ w).alloc (Nat.le_refl _) _
  have p0 : (w.alloc (.cells #[.int .i64 g, .int .i64 n, .string (bs t), .string (bs tg)] 36)).heap[w.heap.size]? = some (.cells #[.int .i64 g, .int .i64 n, .string (bs t), .string (bs tg)] 36) := heap_alloc_new _ _
  have hlp : w.heap.size < (w.alloc (.cells #[.int .i64 g, .int .i64 n, .string (bs t), .string (bs tg)] 36)).heap.size := by simp
  obtain ⟨W0, hW0⟩ : ∃ W, w.alloc (.cells #[.int .i64 g, .int .i64 n, .string (bs t), .string (bs tg)] 36) = W := ⟨_, rfl⟩
  have HW0 : Hid (w.alloc (.cells #[.int .i64 g, .int .i64 n, .string (bs t), .string (bs tg)] 36) = W0) := hW0
  rw [hW0] at hb1 p0 hlp
  clear hW0
  have hOne : ∀ W, Below w.heap.size w W → Calls Tryd.prog 13 #[] W fun e W' => e = .returned (.bool true) ∧ Below W.heap.size W W' := fun W hW => one3_any W (he.next hW) (hb.next hW)
  have hx1 : (bs text).size ≤ 140737488351232 := by rw [bs_size]; exact htx
  have hx2 : (bs t).size ≤ 140737488351232 := by rw [bs_size]; exact htl
  by_cases h32 : 32 < seed.length
  · have hN := New_long seed W0 h32
    have hg : decide ((32 : Int) < (bs seed).size) = true := by rw [bs_size]; simp; omega
    clear h32
    go_enter Tryd.func4, Tryd.ntmps4
    go_wp2_with fail
    rw [HW0.out]
    refine hN.mono ?_
    clear hN HW0
    rintro e w1 ⟨rfl, h⟩
    subst h
    go_wp2_with (go_at_call 13; refine (hOne w1 hb1).mono ?_; rintro e w2 ⟨rfl, hb2⟩)
    go_ret
    exact ⟨rfl, hb1.trans (hb2.mono hb1.size)⟩
  have hN := New_ok seed W0 (by omega)
  have hg : decide ((32 : Int) < (bs seed).size) = false := by rw [bs_size]; simp; omega
  have hb2 : Below W0.heap.size W0 (W0.alloc (.cells #[.string (bs seed)] 81)) := (Below.refl _ _).alloc (Nat.le_refl _) _
  have hR0 : RingAt (W0.alloc (.cells #[.string (bs seed)] 81)) (some ⟨W0.heap.size, 0, none⟩) (some seed) := .inr ⟨_, _, rfl, rfl, by omega, cellB (heap_alloc_new _ _) 0 _ rfl⟩
  obtain ⟨W1, hW1⟩ : ∃ W, W0.alloc (.cells #[.string (bs seed)] 81) = W := ⟨_, rfl⟩
  rw [hW1] at hb2 hR0 hN
  clear hW1
  have hB1 := hb1.trans (hb2.mono hb1.size)
  have p1 := (hb2.block w.heap.size hlp).trans p0
  have hl1 : w.heap.size < W1.heap.size := Nat.lt_of_lt_of_le hlp hb2.size
  obtain ⟨RB, hRB⟩ : ∃ RB, W0.heap.size = RB := ⟨_, rfl⟩
  rw [hRB] at hR0 hN
  clear hRB hb2
  have hs32 : seed.length ≤ 32 := by omega
  clear h32
  have x0 := cellB p1 0 (.int .i64 g) rfl
  have x1 := cellB p1 1 (.int .i64 n) rfl
  have x2 := cellB p1 2 (.string (bs t)) rfl
  have x3 := cellB p1 3 (.string (bs tg)) rfl
  by_cases hlen : 20000 < text.length + t.length
  · have hq : decide ((20000 : Int) < ((bs text).size : Int) + ((bs t).size : Int)) = true := by rw [bs_size, bs_size]; simp; omega
    go_enter Tryd.func4, Tryd.ntmps4
    go_wp2_with fail
    rw [HW0.out]
    refine hN.mono ?_
    clear hN HW0
    rintro e w1 ⟨rfl, h⟩
    subst h
    go_wp2_with (go_at_call 13; refine (hOne w1 hB1).mono ?_; rintro e w2 ⟨rfl, hb2⟩)
    go_ret
    exact ⟨rfl, hB1.trans (hb2.mono hB1.size)⟩
  have hq : decide ((20000 : Int) < ((bs text).size : Int) + ((bs t).size : Int)) = false := by rw [bs_size, bs_size]; simp; omega
  obtain ⟨E, hE⟩ : ∃ E, tagErr (some seed) g n = E := ⟨_, rfl⟩
  obtain ⟨A, hA⟩ : ∃ A, sigV (some seed) g n text = A := ⟨_, rfl⟩
  obtain ⟨C, hC⟩ : ∃ C, checkE (some seed) g n t tg = C := ⟨_, rfl⟩
  have hTag : ∀ W, Below W1.heap.size W1 W → Calls Tryd.prog 15 #[.pointer (some ⟨RB, 0, none⟩), .agg #[.int .i64 g, .int .i64 n], .string (bs text)] W fun e W' => e = .returned (.tuple #[.string (bs A), .int .i64 E]) ∧ Below W.heap.size W W' := by
    intro W hW
    have h := Tag_any (some ⟨RB, 0, none⟩) (some seed) g n text W (he.next (hB1.trans (hW.mono hB1.size))) (hb.next (hB1.trans (hW.mono hB1.size))) (hR0.below hW (Nat.le_refl _)) (fun _ => by omega)
    rw [hA, hE] at h
    exact h
  have hrT : ∀ W, Calls Tryd.prog 16 #[.string (bs seed), .agg #[.int .i64 g, .int .i64 n], .string (bs text)] W fun e W' => e = .returned (.tuple #[.string (bs A), .int .i64 E]) ∧ Below W.heap.size W W' := by
    intro W
    have h := rTag_any seed g n text W hs32 htx
    rw [hA, hE] at h
    exact h
  have hCk : ∀ W, Below W1.heap.size W1 W → Calls Tryd.prog 18 #[.pointer (some ⟨RB, 0, none⟩), .agg #[.int .i64 g, .int .i64 n, .string (bs t), .string (bs tg)]] W fun e W' => e = .returned (.int .i64 C) ∧ Below W.heap.size W W' := by
    intro W hW
    have h := Check_any (some ⟨RB, 0, none⟩) (some seed) g n t tg W (he.next (hB1.trans (hW.mono hB1.size))) (hb.next (hB1.trans (hW.mono hB1.size))) (hR0.below hW (Nat.le_refl _)) (fun _ => by omega)
    rw [hC] at h
    exact h
  have hrC : ∀ W, Calls Tryd.prog 19 #[.string (bs seed), .agg #[.int .i64 g, .int .i64 n], .string (bs t), .string (bs tg)] W fun e W' => e = .returned (.int .i64 C) ∧ Below W.heap.size W W' := by
    intro W
    have h := rCheck_any seed g n t tg W hs32 htl
    rw [hC] at h
    exact h
  have hSg : ∀ W, Below W1.heap.size W1 W → Calls Tryd.prog 17 #[.pointer (some ⟨RB, 0, none⟩), .agg #[.int .i64 g, .int .i64 n], .string (bs text)] W fun e W' => e = .returned (.tuple #[if E = 0 then .agg #[.int .i64 g, .int .i64 n, .string (bs text), .string (bs A)] else .agg #[.int .i64 0, .int .i64 0, .string ⟨#[]⟩, .string ⟨#[]⟩], .int .i64 E]) ∧ Below W.heap.size W W' := by
    intro W hW
    have h := Sign_any (some ⟨RB, 0, none⟩) (some seed) g n text W (he.next (hB1.trans (hW.mono hB1.size))) (hb.next (hB1.trans (hW.mono hB1.size))) (hR0.below hW (Nat.le_refl _)) (fun _ => by omega)
    rw [signV, hA, hE] at h
    exact h
  have hEc : E = 0 ∨ E = 1 := by
    rw [← hE, tagErr]
    split
    · exact .inr rfl
    · exact .inl rfl
  clear hE hA hC hR0 he hb hlen
  have hss := strs_same A
  have hst := strs_same text
  rcases hEc with rfl | rfl
  · simp only [if_true] at hSg
    go_enter Tryd.func4, Tryd.ntmps4
    go_wp2_with fail
    rw [HW0.out]
    refine hN.mono ?_
    clear hN HW0
    rintro e w1 ⟨rfl, h⟩
    subst h
    go_wp2_with (first
      | (go_at_call 15; refine (hTag w1 (Below.refl _ _)).mono ?_; rintro e w2 ⟨rfl, hb3⟩; have p2 := (hb3.block w.heap.size hl1).trans p1; have y0 := cellB p2 0 (.int .i64 g) rfl; have y1 := cellB p2 1 (.int .i64 n) rfl; have hl2 : w.heap.size < w2.heap.size := (Array.getElem?_eq_some_iff.1 p2).1)
      | (go_at_call 16; refine (hrT w2).mono ?_; rintro e w3 ⟨rfl, hb4⟩; have hB3 := hb3.trans (hb4.mono hb3.size); have p3 := (hb4.block w.heap.size hl2).trans p2; have z0 := cellB p3 0 (.int .i64 g) rfl; have z1 := cellB p3 1 (.int .i64 n) rfl; have hl3 : w.heap.size < w3.heap.size := (Array.getElem?_eq_some_iff.1 p3).1)
      | (go_at_call 17; refine (hSg w3 hB3).mono ?_; rintro e w4 ⟨rfl, hb5⟩; have hB4 := hB3.trans (hb5.mono hB3.size); have p4 := (hb5.block w.heap.size hl3).trans p3; have u0 := cellB p4 0 (.int .i64 g) rfl; have u1 := cellB p4 1 (.int .i64 n) rfl; have u2 := cellB p4 2 (.string (bs t)) rfl; have u3 := cellB p4 3 (.string (bs tg)) rfl; have hl4 : w.heap.size < w4.heap.size := (Array.getElem?_eq_some_iff.1 p4).1))
    obtain ⟨W5, hW5⟩ : ∃ W, w4.alloc (.cells #[.int .i64 g, .int .i64 n, .string (bs text), .string (bs A)] 36) = W := ⟨_, rfl⟩
    rw [hW5]
    have hbW : Below w4.heap.size w4 W5 := by rw [← hW5]; exact (Below.refl _ _).alloc (Nat.le_refl _) _
    clear hW5
    have hB5 := hB4.trans (hbW.mono hB4.size)
    have p5 := (hbW.block w.heap.size hl4).trans p4
    have hl5 : w.heap.size < W5.heap.size := Nat.lt_of_lt_of_le hl4 hbW.size
    have v0 := cellB p5 0 (.int .i64 g) rfl
    have v1 := cellB p5 1 (.int .i64 n) rfl
    have v2 := cellB p5 2 (.string (bs t)) rfl
    have v3 := cellB p5 3 (.string (bs tg)) rfl
    clear p4 p3 p2 p1 p0 u0 u1 u2 u3 x0 x1 x2 x3 y0 y1 z0 z1 hTag hrT hSg hB4 hB3 hbW
    go_region_held3 (fun w' => w'.cell? ⟨w.heap.size, 0, none⟩ = some (.int .i64 g) ∧ w'.cell? ⟨w.heap.size, 1, none⟩ = some (.int .i64 n) ∧ w'.cell? ⟨w.heap.size, 2, none⟩ = some (.string (bs t)) ∧ w'.cell? ⟨w.heap.size, 3, none⟩ = some (.string (bs tg))) (go_keep)
      (first
        | (go_at_call 18; refine (hCk W5.drew (below_drew3 hB5)).mono ?_; rintro e w6 ⟨rfl, hb7⟩; have hB6 : Below W5.heap.size W5 w6 := (below_drew3 (Below.refl W5.heap.size W5)).trans hb7; have p6 := (hB6.block w.heap.size hl5).trans p5; have m0 := cellB p6 0 (.int .i64 g) rfl; have m1 := cellB p6 1 (.int .i64 n) rfl; have m2 := cellB p6 2 (.string (bs t)) rfl; have m3 := cellB p6 3 (.string (bs tg)) rfl; have hB6w := (hB1.trans (hB5.mono hB1.size)).trans (hB6.mono (hB1.trans (hB5.mono hB1.size)).size))
        | (go_at_call 19; refine (hrC w6).mono ?_; rintro e w7 ⟨rfl, hb8⟩; have p7 := (hb8.block w.heap.size (Array.getElem?_eq_some_iff.1 p6).1).trans p6; have k0 := cellB p7 0 (.int .i64 g) rfl; have k1 := cellB p7 1 (.int .i64 n) rfl; have k2 := cellB p7 2 (.string (bs t)) rfl; have k3 := cellB p7 3 (.string (bs tg)) rfl; have hB7w := hB6w.trans (hb8.mono hB6w.size))
        | (go_at_call 13; refine (hOne w7 hB7w).mono ?_; rintro e w8 ⟨rfl, hb9⟩; have p8 := (hb9.block w.heap.size (Array.getElem?_eq_some_iff.1 p7).1).trans p7; have j0 := cellB p8 0 (.int .i64 g) rfl; have j1 := cellB p8 1 (.int .i64 n) rfl; have j2 := cellB p8 2 (.string (bs t)) rfl; have j3 := cellB p8 3 (.string (bs tg)) rfl; have hB8w := hB7w.trans (hb9.mono hB7w.size)))
    go_wp2
    go_ret
    exact ⟨rfl, hB8w⟩
  · simp only [if_false, Int.reduceEq] at hSg
    go_enter Tryd.func4, Tryd.ntmps4
    go_wp2_with fail
    rw [HW0.out]
    refine hN.mono ?_
    clear hN HW0
    rintro e w1 ⟨rfl, h⟩
    subst h
    go_wp2_with (first
      | (go_at_call 15; refine (hTag w1 (Below.refl _ _)).mono ?_; rintro e w2 ⟨rfl, hb3⟩; have p2 := (hb3.block w.heap.size hl1).trans p1; have y0 := cellB p2 0 (.int .i64 g) rfl; have y1 := cellB p2 1 (.int .i64 n) rfl; have hl2 : w.heap.size < w2.heap.size := (Array.getElem?_eq_some_iff.1 p2).1)
      | (go_at_call 16; refine (hrT w2).mono ?_; rintro e w3 ⟨rfl, hb4⟩; have hB3 := hb3.trans (hb4.mono hb3.size); have p3 := (hb4.block w.heap.size hl2).trans p2; have z0 := cellB p3 0 (.int .i64 g) rfl; have z1 := cellB p3 1 (.int .i64 n) rfl; have hl3 : w.heap.size < w3.heap.size := (Array.getElem?_eq_some_iff.1 p3).1)
      | (go_at_call 17; refine (hSg w3 hB3).mono ?_; rintro e w4 ⟨rfl, hb5⟩; have hB4 := hB3.trans (hb5.mono hB3.size); have p4 := (hb5.block w.heap.size hl3).trans p3; have u0 := cellB p4 0 (.int .i64 g) rfl; have u1 := cellB p4 1 (.int .i64 n) rfl; have u2 := cellB p4 2 (.string (bs t)) rfl; have u3 := cellB p4 3 (.string (bs tg)) rfl; have hl4 : w.heap.size < w4.heap.size := (Array.getElem?_eq_some_iff.1 p4).1))
    obtain ⟨W5, hW5⟩ : ∃ W, w4.alloc (.cells #[.int .i64 0, .int .i64 0, .string ⟨#[]⟩, .string ⟨#[]⟩] 36) = W := ⟨_, rfl⟩
    rw [hW5]
    have hbW : Below w4.heap.size w4 W5 := by rw [← hW5]; exact (Below.refl _ _).alloc (Nat.le_refl _) _
    clear hW5
    have hB5 := hB4.trans (hbW.mono hB4.size)
    have p5 := (hbW.block w.heap.size hl4).trans p4
    have hl5 : w.heap.size < W5.heap.size := Nat.lt_of_lt_of_le hl4 hbW.size
    have v0 := cellB p5 0 (.int .i64 g) rfl
    have v1 := cellB p5 1 (.int .i64 n) rfl
    have v2 := cellB p5 2 (.string (bs t)) rfl
    have v3 := cellB p5 3 (.string (bs tg)) rfl
    clear p4 p3 p2 p1 p0 u0 u1 u2 u3 x0 x1 x2 x3 y0 y1 z0 z1 hTag hrT hSg hB4 hB3 hbW
    go_region_held3 (fun w' => w'.cell? ⟨w.heap.size, 0, none⟩ = some (.int .i64 g) ∧ w'.cell? ⟨w.heap.size, 1, none⟩ = some (.int .i64 n) ∧ w'.cell? ⟨w.heap.size, 2, none⟩ = some (.string (bs t)) ∧ w'.cell? ⟨w.heap.size, 3, none⟩ = some (.string (bs tg))) (go_keep)
      (first
        | (go_at_call 18; refine (hCk W5.drew (below_drew3 hB5)).mono ?_; rintro e w6 ⟨rfl, hb7⟩; have hB6 : Below W5.heap.size W5 w6 := (below_drew3 (Below.refl W5.heap.size W5)).trans hb7; have p6 := (hB6.block w.heap.size hl5).trans p5; have m0 := cellB p6 0 (.int .i64 g) rfl; have m1 := cellB p6 1 (.int .i64 n) rfl; have m2 := cellB p6 2 (.string (bs t)) rfl; have m3 := cellB p6 3 (.string (bs tg)) rfl; have hB6w := (hB1.trans (hB5.mono hB1.size)).trans (hB6.mono (hB1.trans (hB5.mono hB1.size)).size))
        | (go_at_call 19; refine (hrC w6).mono ?_; rintro e w7 ⟨rfl, hb8⟩; have p7 := (hb8.block w.heap.size (Array.getElem?_eq_some_iff.1 p6).1).trans p6; have k0 := cellB p7 0 (.int .i64 g) rfl; have k1 := cellB p7 1 (.int .i64 n) rfl; have k2 := cellB p7 2 (.string (bs t)) rfl; have k3 := cellB p7 3 (.string (bs tg)) rfl; have hB7w := hB6w.trans (hb8.mono hB6w.size))
        | (go_at_call 13; refine (hOne w7 hB7w).mono ?_; rintro e w8 ⟨rfl, hb9⟩; have p8 := (hb9.block w.heap.size (Array.getElem?_eq_some_iff.1 p7).1).trans p7; have j0 := cellB p8 0 (.int .i64 g) rfl; have j1 := cellB p8 1 (.int .i64 n) rfl; have j2 := cellB p8 2 (.string (bs t)) rfl; have j3 := cellB p8 3 (.string (bs tg)) rfl; have hB8w := hB7w.trans (hb9.mono hB7w.size)))
    go_wp2
    go_ret
    exact ⟨rfl, hB8w⟩
end Go.Proofs.YtoniohmceaflnaaDoor
