import Derived.Test.YtifalaigfinciaaDoorCtI
namespace Go.Proofs.YtifalaigfinciaaDoor
open Go.RowKit
attribute [local go_sem ↓] Go.wp_at_zero Go.wp_at_succ

set_option maxRecDepth 20000 in
set_option maxHeartbeats 2000000 in
/-- Equal certificates are held equal. -/
theorem same_any (x : List UInt8) (g : Int) (l : List Tg) (u v : Value) (w : World) (hll : l.length ≤ 140737488355328) (hu : Tl w u l) (hv : Tl w v l) :
    Calls Tryd.prog 29 #[.agg #[.string (bs x), .int .i64 g, u], .agg #[.string (bs x), .int .i64 g, v]] w fun e W' => e = .returned (.bool true) ∧ Below w.heap.size w W' := by
  obtain ⟨ua, uc, rfl⟩ := hu.slice
  obtain ⟨va, vc, rfl⟩ := hv.slice
  have q2 := str_same x
  have hb1 : Below w.heap.size w (w.alloc (.cells #[.string (bs x), .int .i64 g, .slice ua l.length uc] 37)) := (Below.refl _ w).alloc (Nat.le_refl _) _
  have hb2 := hb1.alloc hb1.size (.cells #[.string (bs x), .int .i64 g, .slice va l.length vc] 37)
  have hbb : Below (w.heap.size + 1) (w.alloc (.cells #[.string (bs x), .int .i64 g, .slice ua l.length uc] 37)) ((w.alloc (.cells #[.string (bs x), .int .i64 g, .slice ua l.length uc] 37)).alloc (.cells #[.string (bs x), .int .i64 g, .slice va l.length vc] 37)) := (Below.refl _ _).alloc (by simp) _
  have c2 := (hbb.cell (p := ⟨w.heap.size, 2, none⟩) (by simp)).trans (cell_new w _ 37 2 (.slice ua l.length uc) rfl _ rfl)
  have d2 := cell_new (w.alloc (.cells #[.string (bs x), .int .i64 g, .slice ua l.length uc] 37)) #[.string (bs x), .int .i64 g, .slice va l.length vc] 37 2 (.slice va l.length vc) rfl (w.heap.size + 1) (by simp)
  have hz : w.heap.size + 2 ≤ ((w.alloc (.cells #[.string (bs x), .int .i64 g, .slice ua l.length uc] 37)).alloc (.cells #[.string (bs x), .int .i64 g, .slice va l.length vc] 37)).heap.size := by simp
  go_enter Tryd.func29, Tryd.ntmps29
  go_wp2_with fail
  obtain ⟨W0, hW0⟩ : ∃ W, ((w.alloc (.cells #[.string (bs x), .int .i64 g, .slice ua l.length uc] 37)).alloc (.cells #[.string (bs x), .int .i64 g, .slice va l.length vc] 37)) = W := ⟨_, rfl⟩
  rw [hW0] at hb2 c2 d2 hz ⊢
  clear hW0 hbb hb1
  go_loopw [30] (fun i wr => ∃ (k : Nat), i = .int .i64 k ∧ k ≤ l.length ∧ Below W0.heap.size W0 wr) (fun i _ => l.length - (intOf i).toNat)
  case atStart => exact ⟨0, rfl, Nat.zero_le _, Below.refl _ _⟩
  case round =>
    obtain ⟨k, rfl, hk, hB⟩ := hrel
    by_cases hk1 : k = l.length
    · subst hk1
      go_wp2
      go_ret
      exact ⟨rfl, hb2.trans (hB.mono hb2.size)⟩
    · have hk2 : k < l.length := by omega
      obtain ⟨b, o, rfl, hlt⟩ := hu.some (by omega)
      obtain ⟨b', o', rfl, hlt'⟩ := hv.some (by omega)
      obtain ⟨t, ht⟩ : ∃ t, l[k]? = some t := ⟨_, List.getElem?_eq_getElem hk2⟩
      obtain ⟨e1, e2⟩ := ((hu.below hb2 (Nat.le_refl _)).below hB (Nat.le_refl _)).cells ht
      obtain ⟨f1, f2⟩ := ((hv.below hb2 (Nat.le_refl _)).below hB (Nat.le_refl _)).cells ht
      have g1 := (hB.cell (p := ⟨w.heap.size, 2, none⟩) (by show w.heap.size < _; omega)).trans c2
      have g2 := (hB.cell (p := ⟨w.heap.size + 1, 2, none⟩) (by show w.heap.size + 1 < _; omega)).trans d2
      obtain ⟨n, s⟩ := t
      simp only at e1 e2 f1 f2
      have q3 := str_same s
      have hBd := below_drew hB
      clear ht
      go_wp2_with fail
      first
        | (go_region_held3 (fun w' => w'.cell? ⟨w.heap.size, 2, none⟩ = some (.slice (some ⟨b, o, none⟩) l.length uc) ∧ w'.cell? ⟨w.heap.size + 1, 2, none⟩ = some (.slice (some ⟨b', o', none⟩) l.length vc) ∧ w'.cell? ⟨b, o + k * 2, none⟩ = some (.int .i64 n) ∧ w'.cell? ⟨b, o + k * 2 + 1, none⟩ = some (.string (bs s)) ∧ w'.cell? ⟨b', o' + k * 2, none⟩ = some (.int .i64 n) ∧ w'.cell? ⟨b', o' + k * 2 + 1, none⟩ = some (.string (bs s))) (go_keep) (fail)
           all_goals go_wp2
           all_goals go_roundw
           case rel => exact ⟨k + 1, by go_num, hk2, hBd⟩
           case measure => simp [intOf]; omega)
        | (go_wp2
           all_goals go_roundw
           case rel => exact ⟨k + 1, by go_num, hk2, hB⟩
           case measure => simp [intOf]; omega)
end Go.Proofs.YtifalaigfinciaaDoor
