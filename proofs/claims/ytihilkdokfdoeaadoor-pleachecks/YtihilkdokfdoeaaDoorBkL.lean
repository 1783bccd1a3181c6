import Derived.Test.YtihilkdokfdoeaaDoorBkK
namespace Go.Proofs.YtihilkdokfdoeaaDoor
open Go.RowKit
attribute [local go_sem ↓] Go.wp_at_zero Go.wp_at_succ
theorem bcell {W w1 : World} (hb : Below W.heap.size W w1) : (∀ b o, b < W.heap.size → w1.cell? ⟨b, o, none⟩ = W.cell? ⟨b, o, none⟩) ∧ (∀ b o, b < W.heap.size → w1.frozen? ⟨b, o, none⟩ = W.frozen? ⟨b, o, none⟩) :=
  ⟨fun b o h => hb.cell (p := ⟨b, o, none⟩) h, fun b o h => hb.frozen (p := ⟨b, o, none⟩) h⟩

theorem new4 (w : World) (p q r s : Value) (t : TypeId) : (w.alloc (.cells #[p, q, r, s] t)).cell? ⟨w.heap.size, 0, none⟩ = some p ∧ (w.alloc (.cells #[p, q, r, s] t)).cell? ⟨w.heap.size, 1, none⟩ = some q ∧ (w.alloc (.cells #[p, q, r, s] t)).cell? ⟨w.heap.size, 2, none⟩ = some r ∧ (w.alloc (.cells #[p, q, r, s] t)).cell? ⟨w.heap.size, 3, none⟩ = some s := by
  have hh : (w.alloc (.cells #[p, q, r, s] t)).heap[w.heap.size]? = some (.cells #[p, q, r, s] t) := heap_alloc_new w _
  unfold World.cell?
  simp only [hh]
  exact ⟨rfl, rfl, rfl, rfl⟩
theorem set4 (w : World) (N : Nat) (p q r s p' q' r' s' : Value) (h0 : w.cell? ⟨N, 0, none⟩ = some p') (h1 : w.cell? ⟨N, 1, none⟩ = some q') (h2 : w.cell? ⟨N, 2, none⟩ = some r') (h3 : w.cell? ⟨N, 3, none⟩ = some s') :
    ((((w.setCell ⟨N, 0, none⟩ p).setCell ⟨N, 1, none⟩ q).setCell ⟨N, 2, none⟩ r).setCell ⟨N, 3, none⟩ s).cell? ⟨N, 0, none⟩ = some p ∧ ((((w.setCell ⟨N, 0, none⟩ p).setCell ⟨N, 1, none⟩ q).setCell ⟨N, 2, none⟩ r).setCell ⟨N, 3, none⟩ s).cell? ⟨N, 1, none⟩ = some q ∧ ((((w.setCell ⟨N, 0, none⟩ p).setCell ⟨N, 1, none⟩ q).setCell ⟨N, 2, none⟩ r).setCell ⟨N, 3, none⟩ s).cell? ⟨N, 2, none⟩ = some r ∧ ((((w.setCell ⟨N, 0, none⟩ p).setCell ⟨N, 1, none⟩ q).setCell ⟨N, 2, none⟩ r).setCell ⟨N, 3, none⟩ s).cell? ⟨N, 3, none⟩ = some s := by
  have ne : ∀ i j : Nat, i ≠ j → (⟨N, i, none⟩ : Addr) ≠ ⟨N, j, none⟩ := fun i j h e => h (by injection e)
  refine ⟨?_, ?_, ?_, ?_⟩
  · rw [World.cell?_setCell_other _ _ _ _ (ne 3 0 (by decide)), World.cell?_setCell_other _ _ _ _ (ne 2 0 (by decide)), World.cell?_setCell_other _ _ _ _ (ne 1 0 (by decide)), World.cell?_setCell_same _ _ _ h0]
  · rw [World.cell?_setCell_other _ _ _ _ (ne 3 1 (by decide)), World.cell?_setCell_other _ _ _ _ (ne 2 1 (by decide)), World.cell?_setCell_same _ _ _ (by rw [World.cell?_setCell_other _ _ _ _ (ne 0 1 (by decide)), h1])]
  · rw [World.cell?_setCell_other _ _ _ _ (ne 3 2 (by decide)), World.cell?_setCell_same _ _ _ (by rw [World.cell?_setCell_other _ _ _ _ (ne 1 2 (by decide)), World.cell?_setCell_other _ _ _ _ (ne 0 2 (by decide)), h2])]
  · rw [World.cell?_setCell_same _ _ _ (by rw [World.cell?_setCell_other _ _ _ _ (ne 2 3 (by decide)), World.cell?_setCell_other _ _ _ _ (ne 1 3 (by decide)), World.cell?_setCell_other _ _ _ _ (ne 0 3 (by decide)), h3])]

set_option maxRecDepth 4000 in
set_option maxHeartbeats 1000000 in
theorem put_any (B cap : Nat) (v : List Int) (a b c d x y : Int) (w : World) (a0 : 0 ≤ a) (a9 : a < 16) (b0 : 0 ≤ b) (b9 : b < 16) (c0 : 0 ≤ c) (c9 : c < 16) (d0 : 0 ≤ d) (d9 : d < 16)
    (ab : a ≠ b) (ac : a ≠ c) (ad : a ≠ d) (bc : b ≠ c) (bd : b ≠ d) (cd : c ≠ d)
    (hH : Holds w B .i64 16 v) (hB : B < w.heap.size) (hw : Wds v) (hx : Wd x) (hy : Wd y) :
    Calls Tryd.prog 50 #[.slice (some ⟨B, 0, none⟩) 16 cap, .int .i64 a, .int .i64 b, .int .i64 c, .int .i64 d, .int .i64 x, .int .i64 y] w fun e w' => e = .returned (.tuple #[]) ∧ Holds w' B .i64 16 (mixL v a b c d x y) ∧ OB B w.heap.size w w' := by
  obtain ⟨a1, e1⟩ : ∃ a1, a1 = (gv v a + (gv v b + x)) % 4294967296 := ⟨_, rfl⟩
  obtain ⟨d1, e2⟩ : ∃ d1, d1 = rot16 (bits .xor .u32 (gv v d) a1) := ⟨_, rfl⟩
  obtain ⟨c1, e3⟩ : ∃ c1, c1 = (gv v c + d1) % 4294967296 := ⟨_, rfl⟩
  obtain ⟨b1, e4⟩ : ∃ b1, b1 = rot12 (bits .xor .u32 (gv v b) c1) := ⟨_, rfl⟩
  obtain ⟨a2, e5⟩ : ∃ a2, a2 = (a1 + (b1 + y)) % 4294967296 := ⟨_, rfl⟩
  obtain ⟨d2, e6⟩ : ∃ d2, d2 = rot8 (bits .xor .u32 d1 a2) := ⟨_, rfl⟩
  obtain ⟨c2, e7⟩ : ∃ c2, c2 = (c1 + d2) % 4294967296 := ⟨_, rfl⟩
  obtain ⟨b2, e8⟩ : ∃ b2, b2 = rot7 (bits .xor .u32 b1 c2) := ⟨_, rfl⟩
  have HP : Hid (mixL v a b c d x y = pv (pv (pv (pv v a a2) b b2) c c2) d d2) := mixL_put v a b c d x y hH.len a0 a9 b0 b9 c0 c9 d0 d9 ab ac ad bc bd cd a1 d1 c1 b1 a2 d2 c2 b2 e1 e2 e3 e4 e5 e6 e7 e8
  have HG : Hid (∀ w, Calls Tryd.prog 60 #[.agg #[.int .i64 (gv v a), .int .i64 (gv v b), .int .i64 (gv v c), .int .i64 (gv v d)], .int .i64 x, .int .i64 y] w fun e w' => e = .returned (.agg #[.int .i64 a2, .int .i64 b2, .int .i64 c2, .int .i64 d2]) ∧ Below w.heap.size w w') := fun w => g_any _ _ _ _ x y w (hw a) (hw b) (hw c) (hw d) hx hy a1 d1 c1 b1 a2 d2 c2 b2 e1 e2 e3 e4 e5 e6 e7 e8
  clear e1 e2 e3 e4 e5 e6 e7 e8 hw
  have ga := hH.cell a a0 a9; have gb := hH.cell b b0 b9; have gc := hH.cell c c0 c9; have gd := hH.cell d d0 d9
  have n1 := World.new_ne w _ ga
  have n2 := World.new_ne w _ gb
  have n3 := World.new_ne w _ gc
  have n4 := World.new_ne w _ gd
  go_enter Tryd.func50, Tryd.ntmps50
  go_wp2
  go_cut [14] from 15 to 34 (fun p wx => ∃ N, p = .pointer (some ⟨N, 0, none⟩) ∧ N ≠ B ∧ w.heap.size ≤ N ∧ wx.cell? ⟨N, 0, none⟩ = some (.int .i64 a2) ∧ wx.cell? ⟨N, 1, none⟩ = some (.int .i64 b2) ∧ wx.cell? ⟨N, 2, none⟩ = some (.int .i64 c2) ∧ wx.cell? ⟨N, 3, none⟩ = some (.int .i64 d2) ∧ Below w.heap.size w wx)
  case first =>
    go_region_held3 (fun w' => w'.cell? ⟨B, a.toNat, none⟩ = some (.int .i64 (gv v a)) ∧ w'.cell? ⟨B, b.toNat, none⟩ = some (.int .i64 (gv v b)) ∧ w'.cell? ⟨B, c.toNat, none⟩ = some (.int .i64 (gv v c)) ∧ w'.cell? ⟨B, d.toNat, none⟩ = some (.int .i64 (gv v d)))
      (first | go_keep)
      (first | (go_at_call 60; refine (HG.out _).mono ?_; rintro e w1 ⟨rfl, hb1⟩; obtain ⟨hc1, hf1⟩ := bcell hb1; have k0 : w1.cell? ⟨B, a.toNat, none⟩ = some (.int .i64 (gv v a)) := (hc1 _ _ (by first | exact hB | (simp; omega))).trans (by go_keep); have k1 : w1.cell? ⟨B, b.toNat, none⟩ = some (.int .i64 (gv v b)) := (hc1 _ _ (by first | exact hB | (simp; omega))).trans (by go_keep); have k2 : w1.cell? ⟨B, c.toNat, none⟩ = some (.int .i64 (gv v c)) := (hc1 _ _ (by first | exact hB | (simp; omega))).trans (by go_keep); have k3 : w1.cell? ⟨B, d.toNat, none⟩ = some (.int .i64 (gv v d)) := (hc1 _ _ (by first | exact hB | (simp; omega))).trans (by go_keep)))
    all_goals (go_wp2_with fail; go_meet)
    case rel =>
      obtain ⟨m0, m1, m2, m3⟩ := new4 w1 (.int .i64 a2) (.int .i64 b2) (.int .i64 c2) (.int .i64 d2) 134
      have hs1 : w.heap.size ≤ w1.heap.size := hb1.size
      have hbw : Below w.heap.size w w1 := ⟨hb1.os, hb1.tape, hb1.output, hb1.size, hb1.block⟩
      exact ⟨_, rfl, by omega, hs1, m0, m1, m2, m3, hbw.alloc hs1 _⟩
    case rel =>
      obtain ⟨z0, z1, z2, z3⟩ := new4 w (.int .i64 0) (.int .i64 0) (.int .i64 0) (.int .i64 0) 134
      have hlt : w.heap.size < (w.alloc (.cells #[.int .i64 0, .int .i64 0, .int .i64 0, .int .i64 0] 134)).heap.size := by simp
      obtain ⟨m0, m1, m2, m3⟩ := set4 w1 w.heap.size (.int .i64 a2) (.int .i64 b2) (.int .i64 c2) (.int .i64 d2) _ _ _ _ ((hc1 _ 0 hlt).trans z0) ((hc1 _ 1 hlt).trans z1) ((hc1 _ 2 hlt).trans z2) ((hc1 _ 3 hlt).trans z3)
      have hbw : Below w.heap.size w w1 := ((Below.refl w.heap.size w).alloc (Nat.le_refl _) _).trans (Below.mono ⟨hb1.os, hb1.tape, hb1.output, hb1.size, hb1.block⟩ (by simp))
      exact ⟨_, rfl, by omega, Nat.le_refl _, m0, m1, m2, m3, (((hbw.setCell (Nat.le_refl _) _).setCell (Nat.le_refl _) _).setCell (Nat.le_refl _) _).setCell (Nat.le_refl _) _⟩
  case rest =>
    obtain ⟨N, rfl, hNB, hN, m0, m1, m2, m3, hbw⟩ := hcut
    have hC := hH.below hbw hB
    have q1 : a.toNat ≠ b.toNat := by omega
    have q2 : a.toNat ≠ c.toNat := by omega
    have q3 : a.toNat ≠ d.toNat := by omega
    have q4 : b.toNat ≠ c.toNat := by omega
    have q5 : b.toNat ≠ d.toNat := by omega
    have q6 : c.toNat ≠ d.toNat := by omega
    have ra := hC.cell a a0 a9; have rb := hC.cell b b0 b9; have rc := hC.cell c c0 c9; have rd := hC.cell d d0 d9
    have fa := hC.free a a0 a9; have fb := hC.free b b0 b9; have fc := hC.free c c0 c9; have fd := hC.free d d0 d9
    clear ga gb gc gd n1 n2 n3 n4 hH
    go_wp2
    go_end0
    refine ⟨rfl, ?_, ?_⟩
    · rw [HP.out]; exact (((hC.set a _ a0 a9).set b _ b0 b9).set c _ c0 c9).set d _ d0 d9
    · exact (OB.ofBelow hbw (Nat.le_refl _)).only (((((Only.refl B wc).set _ _).set _ _).set _ _).set _ _)
end Go.Proofs.YtihilkdokfdoeaaDoor
