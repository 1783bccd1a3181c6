/- A certificate for the plain text, and the same certificates, walked. -/
import Derived.Test.YtmggfkhfiggloaaDoorMsC
namespace Go.Proofs.YtmggfkhfiggloaaDoor
open Go.RowKit
attribute [local go_sem ↓] Go.wp_at_zero Go.wp_at_succ

/-- v is a slice of just these tags: two cells each. -/
def Tl (w : World) (v : Value) (l : List Tg) : Prop :=
  (l = [] ∧ ∃ a c, v = .slice a 0 c) ∨ ∃ b o cap, v = .slice (some ⟨b, o, none⟩) l.length cap ∧ b < w.heap.size ∧ ∀ (i : Nat) t, l[i]? = some t → w.cell? ⟨b, o + i * 2, none⟩ = some (.int .i64 t.1) ∧ w.cell? ⟨b, o + i * 2 + 1, none⟩ = some (.string (bs t.2))
theorem Tl.below {w w' : World} {v : Value} {l : List Tg} (h : Tl w v l) {B : Nat} (hb : Below B w w') (hB : w.heap.size ≤ B) : Tl w' v l := by
  rcases h with h | ⟨b, o, cap, rfl, hlt, h⟩
  · exact .inl h
  · exact .inr ⟨b, o, cap, rfl, Nat.lt_of_lt_of_le hlt hb.size, fun i t ht => ⟨(hb.cell (p := ⟨b, o + i * 2, none⟩) (by show b < B; omega)).trans (h i t ht).1, (hb.cell (p := ⟨b, o + i * 2 + 1, none⟩) (by show b < B; omega)).trans (h i t ht).2⟩⟩
theorem Tl.slice {w : World} {v : Value} {l : List Tg} (h : Tl w v l) : ∃ a c, v = .slice a l.length c := by
  rcases h with ⟨rfl, a, c, rfl⟩ | ⟨b, o, cap, rfl, _⟩
  · exact ⟨a, c, rfl⟩
  · exact ⟨_, _, rfl⟩
theorem Tl.cells {w : World} {b o cap : Nat} {l : List Tg} (h : Tl w (.slice (some ⟨b, o, none⟩) l.length cap) l) {k : Nat} {t : Tg} (ht : l[k]? = some t) : w.cell? ⟨b, o + k * 2, none⟩ = some (.int .i64 t.1) ∧ w.cell? ⟨b, o + k * 2 + 1, none⟩ = some (.string (bs t.2)) := by
  rcases h with ⟨rfl, _⟩ | ⟨vb, vo, vcap, hve, _, hvc⟩
  · cases ht
  · injection hve with hva _ hvcap
    injection hva with hva
    injection hva with h1 h2
    subst h1 h2
    exact hvc k t ht
theorem Tl.some {w : World} {a : Option Addr} {cap : Nat} {l : List Tg} (h : Tl w (.slice a l.length cap) l) (hl : 0 < l.length) : ∃ b o, a = some ⟨b, o, none⟩ ∧ b < w.heap.size := by
  rcases h with ⟨rfl, _⟩ | ⟨vb, vo, vcap, hve, hlt, _⟩
  · simp at hl
  · injection hve with hva _ _
    exact ⟨vb, vo, hva, hlt⟩
theorem Tp.tl {w : World} {v : Value} {l : List Tg} (h : Tp w v l) : Tl w v l := by
  rcases h with ⟨rfl, rfl⟩ | ⟨rfl, a, cap, rfl⟩ | ⟨b, o, cap, h1, _, h2⟩
  · exact .inl ⟨rfl, none, 0, rfl⟩
  · exact .inl ⟨rfl, some a, cap, rfl⟩
  · exact .inr ⟨b, o, cap, h1, h2⟩
theorem cell_block {w : World} {B : Nat} {cs : Array Value} {t : TypeId} {fr : Nat × Nat} (h : w.heap[B]? = some (.cells cs t fr)) (j : Nat) (u : Value) (hu : cs[j]? = some u) : w.cell? ⟨B, j, none⟩ = some u := by
  unfold World.cell?; simp only [h]; exact hu
theorem frozen_block {w : World} {B : Nat} {cs : Array Value} {t : TypeId} (h : w.heap[B]? = some (.cells cs t)) (j : Nat) : w.frozen? ⟨B, j, none⟩ = false := by
  unfold World.frozen?; simp [h]
theorem Tp_new (w : World) (n : Int) (t : List UInt8) (e : TypeId) : Tp (w.alloc (.cells #[.int .i64 n, .string (bs t)] e)) (.slice (some ⟨w.heap.size, 0, none⟩) 1 1) [(n, t)] := by
  refine .inr <| .inr ⟨w.heap.size, 0, 1, rfl, Nat.le_refl _, by simp, fun i a ha => ?_⟩
  have hh := heap_alloc_new w (.cells #[.int .i64 n, .string (bs t)] e)
  match i, ha with
  | 0, ha =>
    simp at ha; subst ha
    exact ⟨cell_block hh 0 _ rfl, cell_block hh 1 _ rfl⟩
  | i + 1, ha => simp at ha
theorem cell_new (w : World) (cs : Array Value) (t : TypeId) (j : Nat) (u : Value) (h : cs[j]? = some u) (B : Nat) (hB : w.heap.size = B) : (w.alloc (.cells cs t)).cell? ⟨B, j, none⟩ = some u := by
  subst hB
  have hh := heap_alloc_new w (.cells cs t)
  unfold World.cell?
  simp only [hh]
  exact h
theorem set1 {w : World} {B : Nat} {cs : Array Value} {t : TypeId} {fr : Nat × Nat} (h : w.heap[B]? = some (.cells cs t fr)) (j : Nat) (a : Value) :
    (w.setCell ⟨B, j, none⟩ a).heap[B]? = some (.cells (cs.setIfInBounds j a) t fr) := by
  unfold World.setCell
  simp only [Array.getElem?_modify, if_true, h, Option.map_some]
  rfl
theorem set3 {w : World} {B : Nat} {p q r : Value} {t : TypeId} (h : w.heap[B]? = some (.cells #[p, q, r] t)) (a b c : Value) :
    (((w.setCell ⟨B, 0, none⟩ a).setCell ⟨B, 1, none⟩ b).setCell ⟨B, 2, none⟩ c).heap[B]? = some (.cells #[a, b, c] t) :=
  set1 (set1 (set1 h 0 a) 1 b) 2 c
theorem owns_set {w : World} {base n : Nat} {e : TypeId} {s : Nat} {v : Value} {xs : List Value} (h : w.ownsRow base e s v n xs) {B : Nat} (hB : B < base) (j : Nat) (u : Value) : (w.setCell ⟨B, j, none⟩ u).ownsRow base e s v n xs := by
  obtain ⟨hl, h | ⟨g, cap, cur, h1, h2, h3, h4⟩⟩ := h
  · exact ⟨hl, .inl h⟩
  · exact ⟨hl, .inr ⟨g, cap, cur, h1, h2, (Below.heap_setCell _ _ _ _ (by show g ≠ B; omega)).trans h3, h4⟩⟩
theorem Tryd.info92e : (Tryd.prog.info? 92).map (fun i => (i.zero, i.size, i.bytes)) = some (some (.agg #[.int .i64 0, .string ⟨#[]⟩]), 2, 24) := by kernel_rfl
theorem Tp_new_at (w : World) (n : Int) (t : List UInt8) (e : TypeId) (B : Nat) (hB : w.heap.size = B) : Tp (w.alloc (.cells #[.int .i64 n, .string (bs t)] e)) (.slice (some ⟨B, 0, none⟩) 1 1) [(n, t)] := by
  subst hB; exact Tp_new w n t e
set_option maxRecDepth 20000 in
set_option maxHeartbeats 2000000 in
theorem ref_any (x : ByteArray) (g : Int) (l : List Tg) (v : Value) (w : World) (hll : l.length ≤ 1000) (hv : Tl w v l) :
    Calls Tryd.prog 19 #[.agg #[.string x, .int .i64 g, v]] w fun e W' => ∃ u, e = .returned (.agg #[.string x, .int .i64 g, u]) ∧ W'.ownsRow w.heap.size 92 2 u l.length (tcs l) ∧ Below w.heap.size w W' := by
  obtain ⟨va, vc, rfl⟩ := hv.slice
  have hb1 : Below w.heap.size w (w.alloc (.cells #[.string x, .int .i64 g, .slice va l.length vc] 49)) := (Below.refl _ w).alloc (Nat.le_refl _) _
  have hb2 := hb1.alloc hb1.size (.cells #[.string ⟨#[]⟩, .int .i64 0, .slice none 0 0] 44)
  have hb3 := hb2.alloc hb2.size (.cells #[.string x, .int .i64 g, .slice none 0 0] 44)
  have r1 : (((w.alloc (.cells #[.string x, .int .i64 g, .slice va l.length vc] 49)).alloc (.cells #[.string ⟨#[]⟩, .int .i64 0, .slice none 0 0] 44)).alloc (.cells #[.string x, .int .i64 g, .slice none 0 0] 44)).heap[w.heap.size + 1]? = some (.cells #[.string ⟨#[]⟩, .int .i64 0, .slice none 0 0] 44) := by
    have h1 : ((w.alloc (.cells #[.string x, .int .i64 g, .slice va l.length vc] 49)).alloc (.cells #[.string ⟨#[]⟩, .int .i64 0, .slice none 0 0] 44)).heap[w.heap.size + 1]? = some (.cells #[.string ⟨#[]⟩, .int .i64 0, .slice none 0 0] 44) := by
      have := heap_alloc_new (w.alloc (.cells #[.string x, .int .i64 g, .slice va l.length vc] 49)) (.cells #[.string ⟨#[]⟩, .int .i64 0, .slice none 0 0] 44)
      simpa using this
    have h2 : Below (w.heap.size + 2) ((w.alloc (.cells #[.string x, .int .i64 g, .slice va l.length vc] 49)).alloc (.cells #[.string ⟨#[]⟩, .int .i64 0, .slice none 0 0] 44)) (((w.alloc (.cells #[.string x, .int .i64 g, .slice va l.length vc] 49)).alloc (.cells #[.string ⟨#[]⟩, .int .i64 0, .slice none 0 0] 44)).alloc (.cells #[.string x, .int .i64 g, .slice none 0 0] 44)) := (Below.refl _ _).alloc (by simp) _
    exact (h2.block (w.heap.size + 1) (by omega)).trans h1
  have r2 : (((w.alloc (.cells #[.string x, .int .i64 g, .slice va l.length vc] 49)).alloc (.cells #[.string ⟨#[]⟩, .int .i64 0, .slice none 0 0] 44)).alloc (.cells #[.string x, .int .i64 g, .slice none 0 0] 44)).heap[w.heap.size + 2]? = some (.cells #[.string x, .int .i64 g, .slice none 0 0] 44) := by
    have := heap_alloc_new ((w.alloc (.cells #[.string x, .int .i64 g, .slice va l.length vc] 49)).alloc (.cells #[.string ⟨#[]⟩, .int .i64 0, .slice none 0 0] 44)) (.cells #[.string x, .int .i64 g, .slice none 0 0] 44)
    simpa using this
  have hz : w.heap.size + 3 ≤ (((w.alloc (.cells #[.string x, .int .i64 g, .slice va l.length vc] 49)).alloc (.cells #[.string ⟨#[]⟩, .int .i64 0, .slice none 0 0] 44)).alloc (.cells #[.string x, .int .i64 g, .slice none 0 0] 44)).heap.size := by simp
  go_enter Tryd.func19, Tryd.ntmps19
  go_wp2
  obtain ⟨W0, hW0⟩ : ∃ W, (((w.alloc (.cells #[.string x, .int .i64 g, .slice va l.length vc] 49)).alloc (.cells #[.string ⟨#[]⟩, .int .i64 0, .slice none 0 0] 44)).alloc (.cells #[.string x, .int .i64 g, .slice none 0 0] 44)) = W := ⟨_, rfl⟩
  rw [hW0] at hb3 r1 r2 hz ⊢
  clear hW0 hb1 hb2
  go_loopw [14] (fun i wr => ∃ (k : Nat) (u : Value), i = .int .i64 k ∧ k ≤ l.length ∧ wr.heap[w.heap.size + 1]? = some (.cells #[.string ⟨#[]⟩, .int .i64 0, .slice none 0 0] 44) ∧ wr.heap[w.heap.size + 2]? = some (.cells #[.string x, .int .i64 g, u] 44) ∧ wr.ownsRow (w.heap.size + 3) 92 2 u k (tcs (l.take k)) ∧ Below w.heap.size w wr ∧ w.heap.size + 3 ≤ wr.heap.size)
    (fun i _ => l.length - (intOf i).toNat)
  case atStart => exact ⟨0, .slice none 0 0, rfl, Nat.zero_le _, r1, r2, by simpa [tcs] using World.ownsRow_nil W0 (w.heap.size + 3) 92 2, hb3, hz⟩
  case round =>
    obtain ⟨k, u, rfl, hk, r1', r2', hown, hB, hz'⟩ := hrel
    obtain ⟨ua, uc, rfl⟩ := owns_slice hown
    have s0 := cell_block r2' 0 _ rfl
    have s1 := cell_block r2' 1 _ rfl
    have s2 := cell_block r2' 2 _ rfl
    by_cases hk1 : k = l.length
    · subst hk1
      rw [List.take_length] at hown
      have f0 := frozen_block r1' 0
      have f1 := frozen_block r1' 1
      have f2 := frozen_block r1' 2
      have q0 := cell_block r1' 0 _ rfl
      have q1 := cell_block r1' 1 _ rfl
      have q2 := cell_block r1' 2 _ rfl
      go_wp2
      have hr := set3 r1' (.string x) (.int .i64 g) (.slice ua l.length uc)
      have z1 := cell_block hr 0 _ rfl
      have z2 := cell_block hr 1 _ rfl
      have z3 := cell_block hr 2 _ rfl
      have hBz : Below w.heap.size w (((wr.setCell ⟨w.heap.size + 1, 0, none⟩ (.string x)).setCell ⟨w.heap.size + 1, 1, none⟩ (.int .i64 g)).setCell ⟨w.heap.size + 1, 2, none⟩ (.slice ua l.length uc)) := ((hB.setCell (p := ⟨w.heap.size + 1, 0, none⟩) (by show w.heap.size ≤ w.heap.size + 1; omega) _).setCell (p := ⟨w.heap.size + 1, 1, none⟩) (by show w.heap.size ≤ w.heap.size + 1; omega) _).setCell (p := ⟨w.heap.size + 1, 2, none⟩) (by show w.heap.size ≤ w.heap.size + 1; omega) _
      have hoz := owns_set (owns_set (owns_set hown (B := w.heap.size + 1) (by omega) 0 (.string x)) (B := w.heap.size + 1) (by omega) 1 (.int .i64 g)) (B := w.heap.size + 1) (by omega) 2 (.slice ua l.length uc)
      exact bodyPost_ret (v := .agg #[.string x, .int .i64 g, .slice ua l.length uc]) (by simp [results, Tryd.f19, go_sem, z1, z2, z3]) rfl ⟨_, rfl, owns_base hoz (by omega), hBz⟩
    · have hk2 : k < l.length := by omega
      obtain ⟨b, o, rfl, hlt⟩ := hv.some (by omega)
      obtain ⟨t, ht⟩ : ∃ t, l[k]? = some t := ⟨_, List.getElem?_eq_getElem hk2⟩
      have hvB := hv.below hB (Nat.le_refl _)
      obtain ⟨hc1, hc2⟩ := hvB.cells ht
      have htk : tcs (l.take (k + 1)) = tcs (l.take k) ++ tcs [t] := by rw [List.take_add_one, ht, tcs_append]; rfl
      have HTK : Hid (tcs (l.take (k + 1)) = tcs (l.take k) ++ tcs [t]) := htk
      obtain ⟨n, s⟩ := t
      simp only at hc1 hc2
      obtain ⟨X, hX⟩ : ∃ X, tcs (l.take k) = X := ⟨_, rfl⟩
      rw [hX] at hown HTK
      clear ht hvB htk hX
      have hl1 : w.heap.size + 2 < wr.heap.size := by omega
      have hown4 := (hown.alloc (.cells #[.int .i64 n, .string (bs s)] 94))
      have hB4 := hB.alloc hB.size (.cells #[.int .i64 n, .string (bs s)] 94)
      go_wp2_with (first
        | (at_builtin; refine wpList_append_tags 42 92 Tryd.underlying42 Tryd.info92e rfl _ _ rfl (w.heap.size + 3) _ k X rfl (hown4.alloc _) _ [(n, s)] rfl (Tp_new_at _ n s 92 (wr.heap.size + 1) (by simp)) (by simp; omega) (by simp; omega) ?_; intro v7 w7 hown7 hg7; rw [List.length_singleton] at hown7; obtain ⟨a7, c7, rfl⟩ := owns_slice hown7; have g1 := (((hg7.block (w.heap.size + 1) (by omega)).trans (((Below.refl (w.heap.size + 3) (wr.alloc (.cells #[.int .i64 n, .string (bs s)] 94))).alloc (by simp; omega) (.cells #[.int .i64 n, .string (bs s)] 92)).block (w.heap.size + 1) (by omega))).trans (((Below.refl (w.heap.size + 3) wr).alloc (by omega) (.cells #[.int .i64 n, .string (bs s)] 94)).block (w.heap.size + 1) (by omega))).trans r1'; have g2 := (((hg7.block (w.heap.size + 2) (by omega)).trans (((Below.refl (w.heap.size + 3) (wr.alloc (.cells #[.int .i64 n, .string (bs s)] 94))).alloc (by simp; omega) (.cells #[.int .i64 n, .string (bs s)] 92)).block (w.heap.size + 2) (by omega))).trans (((Below.refl (w.heap.size + 3) wr).alloc (by omega) (.cells #[.int .i64 n, .string (bs s)] 94)).block (w.heap.size + 2) (by omega))).trans r2'; have y2 := cell_block g2 2 _ rfl; have y3 := frozen_block g2 2; have hB7 := (hB4.alloc hB4.size (.cells #[.int .i64 n, .string (bs s)] 92)).trans (hg7.mono (by omega)); have hz7 := Nat.le_trans (show w.heap.size + 3 ≤ ((wr.alloc (.cells #[.int .i64 n, .string (bs s)] 94)).alloc (.cells #[.int .i64 n, .string (bs s)] 92)).heap.size from by simp; omega) hg7.size))
      have hr := set1 g2 2 (.slice a7 (k + 1) c7)
      go_roundw
      case rel => exact ⟨k + 1, .slice a7 (k + 1) c7, by go_num, hk2, (Below.heap_setCell _ _ _ _ (by show w.heap.size + 1 ≠ w.heap.size + 2; omega)).trans g1, hr, by rw [HTK.out]; exact owns_set hown7 (by omega) 2 _, hB7.setCell (p := ⟨w.heap.size + 2, 2, none⟩) (by show w.heap.size ≤ w.heap.size + 2; omega) _, by simp only [World.setCell, Array.size_modify]; omega⟩
      case measure => simp [intOf]; omega
set_option maxRecDepth 20000 in
set_option maxHeartbeats 2000000 in
/-- Equal certificates are held equal. -/
theorem same_any (x : List UInt8) (g : Int) (l : List Tg) (u v : Value) (w : World) (hll : l.length ≤ 140737488355328) (hu : Tl w u l) (hv : Tl w v l) :
    Calls Tryd.prog 21 #[.agg #[.string (bs x), .int .i64 g, u], .agg #[.string (bs x), .int .i64 g, v]] w fun e W' => e = .returned (.bool true) ∧ Below w.heap.size w W' := by
  obtain ⟨ua, uc, rfl⟩ := hu.slice
  obtain ⟨va, vc, rfl⟩ := hv.slice
  have q2 := str_same x
  have hb1 : Below w.heap.size w (w.alloc (.cells #[.string (bs x), .int .i64 g, .slice ua l.length uc] 49)) := (Below.refl _ w).alloc (Nat.le_refl _) _
  have hb2 := hb1.alloc hb1.size (.cells #[.string (bs x), .int .i64 g, .slice va l.length vc] 44)
  have hbb : Below (w.heap.size + 1) (w.alloc (.cells #[.string (bs x), .int .i64 g, .slice ua l.length uc] 49)) ((w.alloc (.cells #[.string (bs x), .int .i64 g, .slice ua l.length uc] 49)).alloc (.cells #[.string (bs x), .int .i64 g, .slice va l.length vc] 44)) := (Below.refl _ _).alloc (by simp) _
  have c2 := (hbb.cell (p := ⟨w.heap.size, 2, none⟩) (by simp)).trans (cell_new w _ 49 2 (.slice ua l.length uc) rfl _ rfl)
  have d2 := cell_new (w.alloc (.cells #[.string (bs x), .int .i64 g, .slice ua l.length uc] 49)) #[.string (bs x), .int .i64 g, .slice va l.length vc] 44 2 (.slice va l.length vc) rfl (w.heap.size + 1) (by simp)
  have hz : w.heap.size + 2 ≤ ((w.alloc (.cells #[.string (bs x), .int .i64 g, .slice ua l.length uc] 49)).alloc (.cells #[.string (bs x), .int .i64 g, .slice va l.length vc] 44)).heap.size := by simp
  go_enter Tryd.func21, Tryd.ntmps21
  go_wp2_with fail
  obtain ⟨W0, hW0⟩ : ∃ W, ((w.alloc (.cells #[.string (bs x), .int .i64 g, .slice ua l.length uc] 49)).alloc (.cells #[.string (bs x), .int .i64 g, .slice va l.length vc] 44)) = W := ⟨_, rfl⟩
  rw [hW0] at hb2 c2 d2 hz ⊢
  clear hW0 hbb hb1
  go_loopw [30] (fun i wr => ∃ (k : Nat), i = .int .i64 k ∧ k ≤ l.length ∧ Below W0.heap.size W0 wr) (fun i _ => l.length - (intOf i).toNat)
  case atStart => exact ⟨0, rfl, Nat.zero_le _, Below.refl _ _⟩
  case round =>
    obtain ⟨k, rfl, hk, hB⟩ := hrel
    by_cases hk1 : k = l.length
    · subst hk1
      go_wp2
      go_ret
      exact ⟨rfl, hb2.trans (hB.mono hb2.size)⟩
    · have hk2 : k < l.length := by omega
      obtain ⟨b, o, rfl, hlt⟩ := hu.some (by omega)
      obtain ⟨b', o', rfl, hlt'⟩ := hv.some (by omega)
      obtain ⟨t, ht⟩ : ∃ t, l[k]? = some t := ⟨_, List.getElem?_eq_getElem hk2⟩
      obtain ⟨e1, e2⟩ := ((hu.below hb2 (Nat.le_refl _)).below hB (Nat.le_refl _)).cells ht
      obtain ⟨f1, f2⟩ := ((hv.below hb2 (Nat.le_refl _)).below hB (Nat.le_refl _)).cells ht
      have g1 := (hB.cell (p := ⟨w.heap.size, 2, none⟩) (by show w.heap.size < _; omega)).trans c2
      have g2 := (hB.cell (p := ⟨w.heap.size + 1, 2, none⟩) (by show w.heap.size + 1 < _; omega)).trans d2
      obtain ⟨n, s⟩ := t
      simp only at e1 e2 f1 f2
      have q3 := str_same s
      have hBd := below_drew hB
      clear ht
      go_wp2_with fail
      first
        | (go_region_held3 (fun w' => w'.cell? ⟨w.heap.size, 2, none⟩ = some (.slice (some ⟨b, o, none⟩) l.length uc) ∧ w'.cell? ⟨w.heap.size + 1, 2, none⟩ = some (.slice (some ⟨b', o', none⟩) l.length vc) ∧ w'.cell? ⟨b, o + k * 2, none⟩ = some (.int .i64 n) ∧ w'.cell? ⟨b, o + k * 2 + 1, none⟩ = some (.string (bs s)) ∧ w'.cell? ⟨b', o' + k * 2, none⟩ = some (.int .i64 n) ∧ w'.cell? ⟨b', o' + k * 2 + 1, none⟩ = some (.string (bs s))) (go_keep) (fail)
           all_goals go_wp2
           all_goals go_roundw
           case rel => exact ⟨k + 1, by go_num, hk2, hBd⟩
           case measure => simp [intOf]; omega)
        | (go_wp2
           all_goals go_roundw
           case rel => exact ⟨k + 1, by go_num, hk2, hB⟩
           case measure => simp [intOf]; omega)
end Go.Proofs.YtmggfkhfiggloaaDoor
