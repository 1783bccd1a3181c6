/- Equal changes are held equal. -/
import Derived.Test.YtifalaigfinciaaDoorSiC
namespace Go.Proofs.YtifalaigfinciaaDoor
open Go.RowKit
attribute [local go_sem ↓] Go.wp_at_zero Go.wp_at_succ

set_option maxRecDepth 20000 in
set_option maxHeartbeats 4000000 in
theorem alike_any (c : Bq) (l : List Bq) (mu bu mv bv : Value) (w : World) (hcT : c.T.length ≤ 140737488355328) (hlT : ∀ b ∈ l, b.T.length ≤ 140737488355328) (hll : l.length ≤ 1000) (hm1 : Tl w mu c.T) (hb1 : Ml w.heap.size w bu l) (hm2 : Tl w mv c.T) (hb2 : Ml w.heap.size w bv l) :
    Calls Tryd.prog 13 #[.agg #[.int .i64 c.n, .int .i64 c.v, .string (bs c.x), .int .i64 c.g, mu, bu], .agg #[.int .i64 c.n, .int .i64 c.v, .string (bs c.x), .int .i64 c.g, mv, bv]] w fun e W' => e = .returned (.bool true) ∧ Below w.heap.size w W' := by
  obtain ⟨ma, mc, rfl⟩ := hm1.slice
  obtain ⟨ba, bc, rfl⟩ := hb1.slice
  obtain ⟨na, nc, rfl⟩ := hm2.slice
  obtain ⟨da, dc, rfl⟩ := hb2.slice
  have h1 : Below w.heap.size w (w.alloc (.cells #[.int .i64 c.n, .int .i64 c.v, .string (bs c.x), .int .i64 c.g, .slice ma c.T.length mc, .slice ba l.length bc] 40)) := (Below.refl _ w).alloc (Nat.le_refl _) _
  have h2 := h1.alloc h1.size (.cells #[.int .i64 c.n, .int .i64 c.v, .string (bs c.x), .int .i64 c.g, .slice na c.T.length nc, .slice da l.length dc] 40)
  have rA := heap_alloc_new w (.cells #[.int .i64 c.n, .int .i64 c.v, .string (bs c.x), .int .i64 c.g, .slice ma c.T.length mc, .slice ba l.length bc] 40)
  have rB := heap_alloc_new (w.alloc (.cells #[.int .i64 c.n, .int .i64 c.v, .string (bs c.x), .int .i64 c.g, .slice ma c.T.length mc, .slice ba l.length bc] 40)) (.cells #[.int .i64 c.n, .int .i64 c.v, .string (bs c.x), .int .i64 c.g, .slice na c.T.length nc, .slice da l.length dc] 40)
  have rA2 := (Below.heap_alloc (w.alloc (.cells #[.int .i64 c.n, .int .i64 c.v, .string (bs c.x), .int .i64 c.g, .slice ma c.T.length mc, .slice ba l.length bc] 40)) (.cells #[.int .i64 c.n, .int .i64 c.v, .string (bs c.x), .int .i64 c.g, .slice na c.T.length nc, .slice da l.length dc] 40) w.heap.size (by simp)).trans rA
  rw [World.size_alloc] at rB
  obtain ⟨W0, hW0⟩ : ∃ W, (w.alloc (.cells #[.int .i64 c.n, .int .i64 c.v, .string (bs c.x), .int .i64 c.g, .slice ma c.T.length mc, .slice ba l.length bc] 40)).alloc (.cells #[.int .i64 c.n, .int .i64 c.v, .string (bs c.x), .int .i64 c.g, .slice na c.T.length nc, .slice da l.length dc] 40) = W := ⟨_, rfl⟩
  have HW : Hid ((w.alloc (.cells #[.int .i64 c.n, .int .i64 c.v, .string (bs c.x), .int .i64 c.g, .slice ma c.T.length mc, .slice ba l.length bc] 40)).alloc (.cells #[.int .i64 c.n, .int .i64 c.v, .string (bs c.x), .int .i64 c.g, .slice na c.T.length nc, .slice da l.length dc] 40) = W0) := hW0
  rw [hW0] at h2 rB rA2
  obtain ⟨P, hP⟩ : ∃ P, w.heap.size = P := ⟨_, rfl⟩
  have HP : Hid (w.heap.size = P) := hP
  rw [hP] at rA2 rB
  have hlA := (Array.getElem?_eq_some_iff.1 rA2).1
  have hlB := (Array.getElem?_eq_some_iff.1 rB).1
  have HK : Hid (∀ W, Below W0.heap.size W0 W → (W.cell? ⟨P, 0, none⟩ = some (.int .i64 c.n) ∧ W.cell? ⟨P, 1, none⟩ = some (.int .i64 c.v) ∧ W.cell? ⟨P, 2, none⟩ = some (.string (bs c.x)) ∧ W.cell? ⟨P, 3, none⟩ = some (.int .i64 c.g) ∧ W.cell? ⟨P, 4, none⟩ = some (.slice ma c.T.length mc) ∧ W.cell? ⟨P, 5, none⟩ = some (.slice ba l.length bc)) ∧ (W.cell? ⟨P + 1, 0, none⟩ = some (.int .i64 c.n) ∧ W.cell? ⟨P + 1, 1, none⟩ = some (.int .i64 c.v) ∧ W.cell? ⟨P + 1, 2, none⟩ = some (.string (bs c.x)) ∧ W.cell? ⟨P + 1, 3, none⟩ = some (.int .i64 c.g) ∧ W.cell? ⟨P + 1, 4, none⟩ = some (.slice na c.T.length nc) ∧ W.cell? ⟨P + 1, 5, none⟩ = some (.slice da l.length dc))) := fun W hb => by
    have r := (hb.block _ hlA).trans rA2
    have s := (hb.block _ hlB).trans rB
    exact ⟨⟨cellB r 0 _ rfl, cellB r 1 _ rfl, cellB r 2 _ rfl, cellB r 3 _ rfl, cellB r 4 _ rfl, cellB r 5 _ rfl⟩, cellB s 0 _ rfl, cellB s 1 _ rfl, cellB s 2 _ rfl, cellB s 3 _ rfl, cellB s 4 _ rfl, cellB s 5 _ rfl⟩
  have hS := same_any c.x c.g c.T (.slice ma c.T.length mc) (.slice na c.T.length nc) W0 hcT (hm1.below h2 (Nat.le_refl _)) (hm2.below h2 (Nat.le_refl _))
  have HM : Hid (∀ W, Below w.heap.size w W → Ml w.heap.size W (.slice ba l.length bc) l ∧ Ml w.heap.size W (.slice da l.length dc) l) := fun W hW => ⟨hb1.below hW, hb2.below hW⟩
  have HlT : Hid (∀ b ∈ l, b.T.length ≤ 140737488355328) := hlT
  have Hb0 : Hid (Below w.heap.size w W0) := h2
  obtain ⟨⟨k0, k1, k2, k3, k4, k5⟩, j0, j1, j2, j3, j4, j5⟩ := HK.out W0 (Below.refl _ _)
  clear hW0 h1 h2 rA rA2 rB hm1 hm2 hb1 hb2 hP hcT hlT
  go_enter Tryd.func13, Tryd.ntmps13
  go_upto_region 1 with fail
  rw [HW.out, HP.out]
  clear HW
  go_upto_region 3 with (first | (go_at_call 29; refine hS.mono ?_; clear hS; rintro e w1 ⟨rfl, hb1⟩; obtain ⟨⟨i0, i1, i2, i3, i4, i5⟩, l0, l1, l2, l3, l4, l5⟩ := HK.out w1 hb1))
  clear k0 k1 k2 k3 k4 k5 j0 j1 j2 j3 j4 j5
  go_wp2
  go_loopw [38] (fun p wr => ∃ k : Nat, p = .int .i64 k ∧ k ≤ l.length ∧ Below W0.heap.size W0 wr)
    (fun p _ => l.length - (intOf p).toNat)
  case atStart => exact ⟨0, rfl, Nat.zero_le _, hb1⟩
  case round =>
    obtain ⟨k, rfl, hk, hB⟩ := hrel
    have hBw : Below w.heap.size w wr := Hb0.out.trans (hB.mono Hb0.out.size)
    by_cases hk1 : k = l.length
    · subst hk1
      go_wp2
      exact bodyPost_ret (v := .bool true) (by simp [results, Tryd.f13, go_sem]) rfl ⟨rfl, hBw⟩
    · have hk2 : k < l.length := by omega
      obtain ⟨b, hb⟩ : ∃ b, l[k]? = some b := ⟨_, List.getElem?_eq_getElem hk2⟩
      obtain ⟨hM1, hM2⟩ := HM.out wr hBw
      obtain ⟨vb, vo, ta, tc, rfl, hvl, d0, d1, d2, d3, d4, hT1⟩ := hM1.cells hb
      obtain ⟨ub, uo, sa, sc, rfl, hul, e0, e1, e2, e3, e4, hT2⟩ := hM2.cells hb
      have hbT := HlT.out b (List.mem_of_getElem? hb)
      have hwl := hBw.size
      have gS : ∀ x : Cw wr, Calls Tryd.prog 29 #[.agg #[.string (bs b.x), .int .i64 b.g, .slice ta b.T.length tc], .agg #[.string (bs b.x), .int .i64 b.g, .slice sa b.T.length sc]] x.w fun e w'' => e = .returned (.bool true) ∧ ∃ y : Cw wr, w'' = y.w := fun x => by
        refine (same_any b.x b.g b.T _ _ x.w hbT (hT1.below x.h (Nat.le_refl _)) (hT2.below x.h (Nat.le_refl _))).mono ?_
        rintro e W' ⟨rfl, h⟩
        exact ⟨rfl, ⟨W', x.h.trans (h.mono x.h.size)⟩, rfl⟩
      have kA : ∀ x : Cw wr, x.w.cell? ⟨P, 5, none⟩ = some (.slice (some ⟨vb, vo, none⟩) l.length bc) := fun x => (HK.out _ (hB.trans (x.h.mono hB.size))).1.2.2.2.2.2
      have kB : ∀ x : Cw wr, x.w.cell? ⟨P + 1, 5, none⟩ = some (.slice (some ⟨ub, uo, none⟩) l.length dc) := fun x => (HK.out _ (hB.trans (x.h.mono hB.size))).2.2.2.2.2.2
      have kD0 : ∀ x : Cw wr, x.w.cell? ⟨vb, vo + k * 5, none⟩ = some (.int .i64 b.n) := fun x => (x.h.cell (p := ⟨vb, vo + k * 5, none⟩) (by show vb < _; omega)).trans d0
      have kD1 : ∀ x : Cw wr, x.w.cell? ⟨vb, vo + k * 5 + 1, none⟩ = some (.int .i64 b.v) := fun x => (x.h.cell (p := ⟨vb, vo + k * 5 + 1, none⟩) (by show vb < _; omega)).trans d1
      have kD2 : ∀ x : Cw wr, x.w.cell? ⟨vb, vo + k * 5 + 2, none⟩ = some (.string (bs b.x)) := fun x => (x.h.cell (p := ⟨vb, vo + k * 5 + 2, none⟩) (by show vb < _; omega)).trans d2
      have kD3 : ∀ x : Cw wr, x.w.cell? ⟨vb, vo + k * 5 + 3, none⟩ = some (.int .i64 b.g) := fun x => (x.h.cell (p := ⟨vb, vo + k * 5 + 3, none⟩) (by show vb < _; omega)).trans d3
      have kD4 : ∀ x : Cw wr, x.w.cell? ⟨vb, vo + k * 5 + 4, none⟩ = some (.slice ta b.T.length tc) := fun x => (x.h.cell (p := ⟨vb, vo + k * 5 + 4, none⟩) (by show vb < _; omega)).trans d4
      have kE0 : ∀ x : Cw wr, x.w.cell? ⟨ub, uo + k * 5, none⟩ = some (.int .i64 b.n) := fun x => (x.h.cell (p := ⟨ub, uo + k * 5, none⟩) (by show ub < _; omega)).trans e0
      have kE1 : ∀ x : Cw wr, x.w.cell? ⟨ub, uo + k * 5 + 1, none⟩ = some (.int .i64 b.v) := fun x => (x.h.cell (p := ⟨ub, uo + k * 5 + 1, none⟩) (by show ub < _; omega)).trans e1
      have kE2 : ∀ x : Cw wr, x.w.cell? ⟨ub, uo + k * 5 + 2, none⟩ = some (.string (bs b.x)) := fun x => (x.h.cell (p := ⟨ub, uo + k * 5 + 2, none⟩) (by show ub < _; omega)).trans e2
      have kE3 : ∀ x : Cw wr, x.w.cell? ⟨ub, uo + k * 5 + 3, none⟩ = some (.int .i64 b.g) := fun x => (x.h.cell (p := ⟨ub, uo + k * 5 + 3, none⟩) (by show ub < _; omega)).trans e3
      have kE4 : ∀ x : Cw wr, x.w.cell? ⟨ub, uo + k * 5 + 4, none⟩ = some (.slice sa b.T.length sc) := fun x => (x.h.cell (p := ⟨ub, uo + k * 5 + 4, none⟩) (by show ub < _; omega)).trans e4
      have hne : Nonempty (Cw wr) := ⟨⟨wr, Below.refl _ _⟩⟩
      have z1 : (b.n != b.n) = false := by simp
      have z2 : (b.v != b.v) = false := by simp
      have m0 : (k : Int) < (l.length : Int) := by omega
      have m1 : (l.length : Int) ≤ 1000 := by omega
      clear hM1 hM2 d0 d1 d2 d3 d4 e0 e1 e2 e3 e4 hT1 hT2 hbT hb
      go_upto_region 6 with fail
      refine wp_region_grow (W0 := wr) (by kernel_rfl) (by kernel_rfl) (Below.refl _ _) ?_
      repeat (go_big_quiet_step (first | (go_at_call 29; exact gS _)))
      refine wpQuiet_nil ?_
      rintro _ ⟨xx, rfl⟩
      have HX : Hid (_) := hB.trans (xx.h.mono hB.size)
      clear kA kB kD0 kD1 kD2 kD3 kD4 kE0 kE1 kE2 kE3 kE4 gS
      go_wp2
      go_roundw
      case rel => exact ⟨k + 1, by go_num, hk2, HX.out⟩
      case measure => simp [intOf]; omega
end Go.Proofs.YtifalaigfinciaaDoor
