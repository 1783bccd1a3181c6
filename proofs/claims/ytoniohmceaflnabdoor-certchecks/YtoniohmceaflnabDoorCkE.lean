/- The law CertChecks, walked. -/
import Derived.Test.YtoniohmceaflnabDoorCkD
import Derived.Test.YtoniohmceaflnabDoorCtI
import Derived.Deep.RegionHeld3
namespace Go.Proofs.YtoniohmceaflnabDoor
open Go.RowKit
attribute [local go_sem ↓] Go.wp_at_zero Go.wp_at_succ

set_option maxRecDepth 20000 in
set_option maxHeartbeats 4000000 in
theorem checks_any (x : List UInt8) (g : Int) (l : List Tg) (v : Value) (n need : Int) (w : World) (he : EnvP w) (hb : EnvB w) (hv : Tl w v l) :
    Calls Tryd.prog 4 #[.agg #[.string (bs x), .int .i64 g, v], .int .i64 n, .int .i64 need] w fun e W' => e = .returned (.bool true) ∧ Below w.heap.size w W' := by
  obtain ⟨va, vc, rfl⟩ := hv.slice
  have hb1 : Below w.heap.size w (w.alloc (.cells #[.string (bs x), .int .i64 g, .slice va l.length vc] 24)) := (Below.refl _ w).alloc (Nat.le_refl _) _
  have p0 : (w.alloc (.cells #[.string (bs x), .int .i64 g, .slice va l.length vc] 24)).heap[w.heap.size]? = some (.cells #[.string (bs x), .int .i64 g, .slice va l.length vc] 24) := heap_alloc_new _ _
  have hlp : w.heap.size < (w.alloc (.cells #[.string (bs x), .int .i64 g, .slice va l.length vc] 24)).heap.size := by simp
  have hOne : ∀ W, Below w.heap.size w W → Calls Tryd.prog 8 #[] W fun e W' => e = .returned (.bool true) ∧ Below W.heap.size W W' := fun W hW => one4_any W (he.next hW)
  have hLg := large4_any (bs x) g va l.length vc (w.alloc (.cells #[.string (bs x), .int .i64 g, .slice va l.length vc] 24))
  by_cases hL : (decide ((40 : Int) < l.length) || decide ((20000 : Int) < (bs x).size)) = true
  · rw [hL] at hLg
    go_enter Tryd.func4, Tryd.ntmps4
    go_wp2_with fail
    refine hLg.mono ?_
    rintro e w1 ⟨rfl, hb2⟩
    have hB1 := hb1.trans (hb2.mono hb1.size)
    go_wp2_with (go_at_call 8; refine (hOne w1 hB1).mono ?_; rintro e w2 ⟨rfl, hb3⟩)
    go_ret
    exact ⟨rfl, hB1.trans (hb3.mono hB1.size)⟩
  have hL2 : (decide ((40 : Int) < l.length) || decide ((20000 : Int) < (bs x).size)) = false := by simpa using hL
  have hl40 : l.length ≤ 40 ∧ x.length ≤ 20000 := by
    have := hL2
    simp only [Bool.or_eq_false_iff, decide_eq_false_iff_not] at this
    rw [bs_size] at this
    omega
  rw [hL2] at hLg
  clear hL hL2
  obtain ⟨C, hC⟩ : ∃ C, certE (some [115]) x g l n need = C := ⟨_, rfl⟩
  go_enter Tryd.func4, Tryd.ntmps4
  go_wp2_with fail
  refine hLg.mono ?_
  clear hLg
  rintro e w1 ⟨rfl, hb2⟩
  have hB1 := hb1.trans (hb2.mono hb1.size)
  have p1 := (hb2.block w.heap.size hlp).trans p0
  have hl1 : w.heap.size < w1.heap.size := (Array.getElem?_eq_some_iff.1 p1).1
  have hb3 : Below w1.heap.size w1 (w1.alloc (.cells #[.string (bs [115])] 65)) := (Below.refl _ _).alloc (Nat.le_refl _) _
  have hR0 : RingAt (w1.alloc (.cells #[.string (bs [115])] 65)) (some ⟨w1.heap.size, 0, none⟩) (some [115]) := .inr ⟨_, _, rfl, rfl, by decide, cellB (heap_alloc_new _ _) 0 _ rfl⟩
  have hN := New_ok [115] w1 (by decide)
  clear hb2 p0 hb1 hlp
  go_wp2_with (go_at_call 13; refine hN.mono ?_; rintro e w2 ⟨rfl, h⟩; subst h)
  obtain ⟨W2, hW2⟩ : ∃ W, w1.alloc (.cells #[.string (bs [115])] 65) = W := ⟨_, rfl⟩
  rw [hW2] at hb3 hR0 ⊢
  clear hW2 hN
  have hB2 := hB1.trans (hb3.mono hB1.size)
  have p2 := (hb3.block w.heap.size hl1).trans p1
  have hl2 : w.heap.size < W2.heap.size := (Array.getElem?_eq_some_iff.1 p2).1
  have x0 := cellB p2 0 (.string (bs x)) rfl
  have x1 := cellB p2 1 (.int .i64 g) rfl
  have x2 := cellB p2 2 (.slice va l.length vc) rfl
  obtain ⟨RB, hRB⟩ : ∃ RB, w1.heap.size = RB := ⟨_, rfl⟩
  rw [hRB] at hR0 ⊢
  have hCk : ∀ W, Below W2.heap.size W2 W → Calls Tryd.prog 14 #[.pointer (some ⟨RB, 0, none⟩), .agg #[.string (bs x), .int .i64 g, .slice va l.length vc], .int .i64 n, .int .i64 need] W fun e W' => e = .returned (.int .i64 C) ∧ Below W.heap.size W W' := by
    intro W hW
    have hB := hB2.trans (hW.mono hB2.size)
    have h := certCheck_any x g l _ n need (some ⟨RB, 0, none⟩) (some [115]) W (he.next hB) (hb.next hB) (hR0.below hW (Nat.le_refl _)) (fun _ => by omega) (by omega) (hv.below hB (Nat.le_refl _))
    rw [hC] at h
    exact h
  have hRf : ∀ W, Below w.heap.size w W → Calls Tryd.prog 11 #[.agg #[.string (bs x), .int .i64 g, .slice va l.length vc]] W fun e W' => (∃ ra rc, e = .returned (.agg #[.string (bs x), .int .i64 g, .slice ra l.length rc]) ∧ Tp W' (.slice ra l.length rc) l) ∧ Below W.heap.size W W' := by
    intro W hW
    refine (ref_any (bs x) g l _ W (by omega) (hv.below hW (Nat.le_refl _))).mono ?_
    rintro e w' ⟨u, rfl, h1, h2⟩
    obtain ⟨ra, rc, rfl⟩ := h1.tl.slice
    exact ⟨⟨ra, rc, rfl, h1⟩, h2⟩
  have hrC : ∀ W ra rc, Tl W (.slice ra l.length rc) l → Calls Tryd.prog 15 #[.string (bs [115]), .agg #[.string (bs x), .int .i64 g, .slice ra l.length rc], .int .i64 n, .int .i64 need] W fun e W' => e = .returned (.int .i64 C) ∧ Below W.heap.size W W' := by
    intro W ra rc hT
    have h := rCheck4_any [115] x g l _ n need W (by decide) (by omega) (by omega) hT
    rw [hC] at h
    exact h
  clear hC hRB hR0 hb3
  go_region_held3 (fun w' => w'.cell? ⟨w.heap.size, 0, none⟩ = some (.string (bs x)) ∧ w'.cell? ⟨w.heap.size, 1, none⟩ = some (.int .i64 g) ∧ w'.cell? ⟨w.heap.size, 2, none⟩ = some (.slice va l.length vc)) (go_keep)
    (first
      | (go_at_call 14; refine (hCk W2.drew (below_drew (Below.refl _ _))).mono ?_; rintro e w3 ⟨rfl, hb4⟩; have hB3 : Below W2.heap.size W2 w3 := (below_drew (Below.refl W2.heap.size W2)).trans hb4; have hB3w := hB2.trans (hB3.mono hB2.size); have p3 := (hB3.block w.heap.size hl2).trans p2; have y0 := cellB p3 0 (.string (bs x)) rfl; have y1 := cellB p3 1 (.int .i64 g) rfl; have y2 := cellB p3 2 (.slice va l.length vc) rfl; have hl3 : w.heap.size < w3.heap.size := (Array.getElem?_eq_some_iff.1 p3).1)
      | (go_at_call 11; refine (hRf w3 hB3w).mono ?_; rintro e w4 ⟨⟨ra, rc, rfl, hT4⟩, hb5⟩; have hB4w := hB3w.trans (hb5.mono hB3w.size); have p4 := (hb5.block w.heap.size hl3).trans p3; have z0 := cellB p4 0 (.string (bs x)) rfl; have z1 := cellB p4 1 (.int .i64 g) rfl; have z2 := cellB p4 2 (.slice va l.length vc) rfl; have hl4 : w.heap.size < w4.heap.size := (Array.getElem?_eq_some_iff.1 p4).1)
      | (go_at_call 15; refine (hrC w4 ra rc hT4.tl).mono ?_; rintro e w5 ⟨rfl, hb6⟩; have hB5w := hB4w.trans (hb6.mono hB4w.size); have p5 := (hb6.block w.heap.size hl4).trans p4; have u0 := cellB p5 0 (.string (bs x)) rfl; have u1 := cellB p5 1 (.int .i64 g) rfl; have u2 := cellB p5 2 (.slice va l.length vc) rfl; have hl5 : w.heap.size < w5.heap.size := (Array.getElem?_eq_some_iff.1 p5).1)
      | (go_at_call 8; refine (hOne w5 hB5w).mono ?_; rintro e w6 ⟨rfl, hb7⟩; have hB6w := hB5w.trans (hb7.mono hB5w.size); have p6 := (hb7.block w.heap.size hl5).trans p5; have m0 := cellB p6 0 (.string (bs x)) rfl; have m1 := cellB p6 1 (.int .i64 g) rfl; have m2 := cellB p6 2 (.slice va l.length vc) rfl))
  go_wp2
  go_ret
  exact ⟨rfl, hB6w⟩
end Go.Proofs.YtoniohmceaflnabDoor
