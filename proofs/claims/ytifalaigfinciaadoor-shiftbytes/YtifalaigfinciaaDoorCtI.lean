import Derived.Test.YtifalaigfinciaaDoorCtE
namespace Go.Proofs.YtifalaigfinciaaDoor
open Go.RowKit
attribute [local go_sem ↓] Go.wp_at_zero Go.wp_at_succ

/-- A slice whose block, if it has one, was laid from n on. -/
def Fr (n : Nat) (u : Value) : Prop := ∀ k, u.ownBlock = some k → n ≤ k
theorem Fr.nil (n : Nat) : Fr n (.slice none 0 0) := fun k hk => by simp [Value.ownBlock] at hk
theorem Tp_new_at (w : World) (n : Int) (t : List UInt8) (e : TypeId) (B : Nat) (hB : w.heap.size = B) : Tp (w.alloc (.cells #[.int .i64 n, .string (bs t)] e)) (.slice (some ⟨B, 0, none⟩) 1 1) [(n, t)] := by
  subst hB; exact Tp_new w n t e
set_option maxRecDepth 20000 in
set_option maxHeartbeats 2000000 in
theorem ref_any (x : ByteArray) (g : Int) (l : List Tg) (v : Value) (w : World) (hll : l.length ≤ 1000) (hv : Tl w v l) :
    Calls Tryd.prog 24 #[.agg #[.string x, .int .i64 g, v]] w fun e W' => ∃ u, e = .returned (.agg #[.string x, .int .i64 g, u]) ∧ Tp W' u l ∧ Fr w.heap.size u ∧ Below w.heap.size w W' := by
  obtain ⟨va, vc, rfl⟩ := hv.slice
  have hb1 : Below w.heap.size w (w.alloc (.cells #[.string x, .int .i64 g, .slice va l.length vc] 24)) := (Below.refl _ w).alloc (Nat.le_refl _) _
  have hb2 := hb1.alloc hb1.size (.cells #[.string ⟨#[]⟩, .int .i64 0, .slice none 0 0] 37)
  have hb3 := hb2.alloc hb2.size (.cells #[.string x, .int .i64 g, .slice none 0 0] 37)
  have r1 : (((w.alloc (.cells #[.string x, .int .i64 g, .slice va l.length vc] 24)).alloc (.cells #[.string ⟨#[]⟩, .int .i64 0, .slice none 0 0] 37)).alloc (.cells #[.string x, .int .i64 g, .slice none 0 0] 37)).heap[w.heap.size + 1]? = some (.cells #[.string ⟨#[]⟩, .int .i64 0, .slice none 0 0] 37) := by
    have h1 : ((w.alloc (.cells #[.string x, .int .i64 g, .slice va l.length vc] 24)).alloc (.cells #[.string ⟨#[]⟩, .int .i64 0, .slice none 0 0] 37)).heap[w.heap.size + 1]? = some (.cells #[.string ⟨#[]⟩, .int .i64 0, .slice none 0 0] 37) := by
      have := heap_alloc_new (w.alloc (.cells #[.string x, .int .i64 g, .slice va l.length vc] 24)) (.cells #[.string ⟨#[]⟩, .int .i64 0, .slice none 0 0] 37)
      simpa using this
    have h2 : Below (w.heap.size + 2) ((w.alloc (.cells #[.string x, .int .i64 g, .slice va l.length vc] 24)).alloc (.cells #[.string ⟨#[]⟩, .int .i64 0, .slice none 0 0] 37)) (((w.alloc (.cells #[.string x, .int .i64 g, .slice va l.length vc] 24)).alloc (.cells #[.string ⟨#[]⟩, .int .i64 0, .slice none 0 0] 37)).alloc (.cells #[.string x, .int .i64 g, .slice none 0 0] 37)) := (Below.refl _ _).alloc (by simp) _
    exact (h2.block (w.heap.size + 1) (by omega)).trans h1
  have r2 : (((w.alloc (.cells #[.string x, .int .i64 g, .slice va l.length vc] 24)).alloc (.cells #[.string ⟨#[]⟩, .int .i64 0, .slice none 0 0] 37)).alloc (.cells #[.string x, .int .i64 g, .slice none 0 0] 37)).heap[w.heap.size + 2]? = some (.cells #[.string x, .int .i64 g, .slice none 0 0] 37) := by
    have := heap_alloc_new ((w.alloc (.cells #[.string x, .int .i64 g, .slice va l.length vc] 24)).alloc (.cells #[.string ⟨#[]⟩, .int .i64 0, .slice none 0 0] 37)) (.cells #[.string x, .int .i64 g, .slice none 0 0] 37)
    simpa using this
  have hz : w.heap.size + 3 ≤ (((w.alloc (.cells #[.string x, .int .i64 g, .slice va l.length vc] 24)).alloc (.cells #[.string ⟨#[]⟩, .int .i64 0, .slice none 0 0] 37)).alloc (.cells #[.string x, .int .i64 g, .slice none 0 0] 37)).heap.size := by simp
  go_enter Tryd.func24, Tryd.ntmps24
  go_wp2
  obtain ⟨W0, hW0⟩ : ∃ W, (((w.alloc (.cells #[.string x, .int .i64 g, .slice va l.length vc] 24)).alloc (.cells #[.string ⟨#[]⟩, .int .i64 0, .slice none 0 0] 37)).alloc (.cells #[.string x, .int .i64 g, .slice none 0 0] 37)) = W := ⟨_, rfl⟩
  rw [hW0] at hb3 r1 r2 hz ⊢
  clear hW0 hb1 hb2
  go_loopw [14] (fun i wr => ∃ (k : Nat) (u : Value), i = .int .i64 k ∧ k ≤ l.length ∧ wr.heap[w.heap.size + 1]? = some (.cells #[.string ⟨#[]⟩, .int .i64 0, .slice none 0 0] 37) ∧ wr.heap[w.heap.size + 2]? = some (.cells #[.string x, .int .i64 g, u] 37) ∧ wr.ownsRow (w.heap.size + 3) 104 2 u k (tcs (l.take k)) ∧ Below w.heap.size w wr ∧ w.heap.size + 3 ≤ wr.heap.size)
    (fun i _ => l.length - (intOf i).toNat)
  case atStart => exact ⟨0, .slice none 0 0, rfl, Nat.zero_le _, r1, r2, by simpa [tcs] using World.ownsRow_nil W0 (w.heap.size + 3) 104 2, hb3, hz⟩
  case round =>
    obtain ⟨k, u, rfl, hk, r1', r2', hown, hB, hz'⟩ := hrel
    obtain ⟨ua, uc, rfl⟩ := owns_slice hown
    have s0 := cell_block r2' 0 _ rfl
    have s1 := cell_block r2' 1 _ rfl
    have s2 := cell_block r2' 2 _ rfl
    by_cases hk1 : k = l.length
    · subst hk1
      rw [List.take_length] at hown
      have f0 := frozen_block r1' 0
      have f1 := frozen_block r1' 1
      have f2 := frozen_block r1' 2
      have q0 := cell_block r1' 0 _ rfl
      have q1 := cell_block r1' 1 _ rfl
      have q2 := cell_block r1' 2 _ rfl
      go_wp2
      have hr := set3 r1' (.string x) (.int .i64 g) (.slice ua l.length uc)
      have z1 := cell_block hr 0 _ rfl
      have z2 := cell_block hr 1 _ rfl
      have z3 := cell_block hr 2 _ rfl
      have hBz : Below w.heap.size w (((wr.setCell ⟨w.heap.size + 1, 0, none⟩ (.string x)).setCell ⟨w.heap.size + 1, 1, none⟩ (.int .i64 g)).setCell ⟨w.heap.size + 1, 2, none⟩ (.slice ua l.length uc)) := ((hB.setCell (p := ⟨w.heap.size + 1, 0, none⟩) (by show w.heap.size ≤ w.heap.size + 1; omega) _).setCell (p := ⟨w.heap.size + 1, 1, none⟩) (by show w.heap.size ≤ w.heap.size + 1; omega) _).setCell (p := ⟨w.heap.size + 1, 2, none⟩) (by show w.heap.size ≤ w.heap.size + 1; omega) _
      have hoz := owns_set (owns_set (owns_set hown (B := w.heap.size + 1) (by omega) 0 (.string x)) (B := w.heap.size + 1) (by omega) 1 (.int .i64 g)) (B := w.heap.size + 1) (by omega) 2 (.slice ua l.length uc)
      have hTz := Tp.of_owns hoz
      exact bodyPost_ret (v := .agg #[.string x, .int .i64 g, .slice ua l.length uc]) (by simp [results, Tryd.f24, go_sem, z1, z2, z3]) rfl ⟨_, rfl, hTz, fun j hj => by have := (hown.lt j hj).1; omega, hBz⟩
    · have hk2 : k < l.length := by omega
      obtain ⟨b, o, rfl, hlt⟩ := hv.some (by omega)
      obtain ⟨t, ht⟩ : ∃ t, l[k]? = some t := ⟨_, List.getElem?_eq_getElem hk2⟩
      have hvB := hv.below hB (Nat.le_refl _)
      obtain ⟨hc1, hc2⟩ := hvB.cells ht
      have htk : tcs (l.take (k + 1)) = tcs (l.take k) ++ tcs [t] := by rw [List.take_add_one, ht, tcs_append]; rfl
      have HTK : Hid (tcs (l.take (k + 1)) = tcs (l.take k) ++ tcs [t]) := htk
      obtain ⟨n, s⟩ := t
      simp only at hc1 hc2
      obtain ⟨X, hX⟩ : ∃ X, tcs (l.take k) = X := ⟨_, rfl⟩
      rw [hX] at hown HTK
      clear ht hvB htk hX
      have hl1 : w.heap.size + 2 < wr.heap.size := by omega
      have hown4 := (hown.alloc (.cells #[.int .i64 n, .string (bs s)] 105))
      have hB4 := hB.alloc hB.size (.cells #[.int .i64 n, .string (bs s)] 105)
      go_wp2_with (first
        | (at_builtin; refine wpList_append_tags 35 104 Tryd.underlying35 Tryd.info104 rfl _ _ rfl (w.heap.size + 3) _ k X rfl (hown4.alloc _) _ [(n, s)] rfl (Tp_new_at _ n s 104 (wr.heap.size + 1) (by simp)) (by simp; omega) (by simp; omega) ?_; intro v7 w7 hown7 hg7; rw [List.length_singleton] at hown7; obtain ⟨a7, c7, rfl⟩ := owns_slice hown7; have g1 := (((hg7.block (w.heap.size + 1) (by omega)).trans (((Below.refl (w.heap.size + 3) (wr.alloc (.cells #[.int .i64 n, .string (bs s)] 105))).alloc (by simp; omega) (.cells #[.int .i64 n, .string (bs s)] 104)).block (w.heap.size + 1) (by omega))).trans (((Below.refl (w.heap.size + 3) wr).alloc (by omega) (.cells #[.int .i64 n, .string (bs s)] 105)).block (w.heap.size + 1) (by omega))).trans r1'; have g2 := (((hg7.block (w.heap.size + 2) (by omega)).trans (((Below.refl (w.heap.size + 3) (wr.alloc (.cells #[.int .i64 n, .string (bs s)] 105))).alloc (by simp; omega) (.cells #[.int .i64 n, .string (bs s)] 104)).block (w.heap.size + 2) (by omega))).trans (((Below.refl (w.heap.size + 3) wr).alloc (by omega) (.cells #[.int .i64 n, .string (bs s)] 105)).block (w.heap.size + 2) (by omega))).trans r2'; have y2 := cell_block g2 2 _ rfl; have y3 := frozen_block g2 2; have hB7 := (hB4.alloc hB4.size (.cells #[.int .i64 n, .string (bs s)] 104)).trans (hg7.mono (by omega)); have hz7 := Nat.le_trans (show w.heap.size + 3 ≤ ((wr.alloc (.cells #[.int .i64 n, .string (bs s)] 105)).alloc (.cells #[.int .i64 n, .string (bs s)] 104)).heap.size from by simp; omega) hg7.size))
      have hr := set1 g2 2 (.slice a7 (k + 1) c7)
      go_roundw
      case rel => exact ⟨k + 1, .slice a7 (k + 1) c7, by go_num, hk2, (Below.heap_setCell _ _ _ _ (by show w.heap.size + 1 ≠ w.heap.size + 2; omega)).trans g1, hr, by rw [HTK.out]; exact owns_set hown7 (by omega) 2 _, hB7.setCell (p := ⟨w.heap.size + 2, 2, none⟩) (by show w.heap.size ≤ w.heap.size + 2; omega) _, by simp only [World.setCell, Array.size_modify]; omega⟩
      case measure => simp [intOf]; omega
end Go.Proofs.YtifalaigfinciaaDoor
