import Derived.Test.YtoniohmceaflnaaDoorCtE
namespace Go.Proofs.YtoniohmceaflnaaDoor
open Go.RowKit
attribute [local go_sem ↓] Go.wp_at_zero Go.wp_at_succ

/-- Why a tag can't be added. -/
def addE (x : List UInt8) (g : Int) (l : List Tg) (sg sn : Int) (st tg : List UInt8) : Int :=
  if addFL x g l sg sn st tg ≠ 0 then addFL x g l sg sn st tg else if sn ∈ l.map (·.1) then 42 else 0
theorem addFL_zero {x : List UInt8} {g : Int} {l : List Tg} {sg sn : Int} {st tg : List UInt8} (h : addFL x g l sg sn st tg = 0) : faultL g l = 0 ∧ isP sg sn ∧ sg = g ∧ st = x ∧ tg.length = 16 := by
  unfold addFL at h
  split at h
  · rename_i h1; exact absurd h h1
  split at h
  · cases h
  split at h
  · cases h
  split at h
  · cases h
  rename_i h1 h2 h3 h4
  refine ⟨Decidable.not_not.1 h1, Decidable.not_not.1 h2, Decidable.not_not.1 h3, ?_, ?_⟩
  · apply Decidable.not_not.1; intro h; exact h4 (.inl h)
  · apply Decidable.not_not.1; intro h; exact h4 (.inr h)

theorem cell_block {w : World} {B : Nat} {cs : Array Value} {t : TypeId} {fr : Nat × Nat} (h : w.heap[B]? = some (.cells cs t fr)) (j : Nat) (u : Value) (hu : cs[j]? = some u) : w.cell? ⟨B, j, none⟩ = some u := by
  unfold World.cell?; simp only [h]; exact hu
theorem frozen_block {w : World} {B : Nat} {cs : Array Value} {t : TypeId} (h : w.heap[B]? = some (.cells cs t)) (j : Nat) : w.frozen? ⟨B, j, none⟩ = false := by
  unfold World.frozen?; simp [h]
theorem set1 {w : World} {B : Nat} {cs : Array Value} {t : TypeId} {fr : Nat × Nat} (h : w.heap[B]? = some (.cells cs t fr)) (j : Nat) (a : Value) :
    (w.setCell ⟨B, j, none⟩ a).heap[B]? = some (.cells (cs.setIfInBounds j a) t fr) := by
  unfold World.setCell
  simp only [Array.getElem?_modify, if_true, h, Option.map_some]
  rfl
theorem set3 {w : World} {B : Nat} {p q r : Value} {t : TypeId} (h : w.heap[B]? = some (.cells #[p, q, r] t)) (a b c : Value) :
    (((w.setCell ⟨B, 0, none⟩ a).setCell ⟨B, 1, none⟩ b).setCell ⟨B, 2, none⟩ c).heap[B]? = some (.cells #[a, b, c] t) :=
  set1 (set1 (set1 h 0 a) 1 b) 2 c
theorem owns_set {w : World} {base n : Nat} {e : TypeId} {s : Nat} {v : Value} {xs : List Value} (h : w.ownsRow base e s v n xs) {B : Nat} (hB : B < base) (j : Nat) (u : Value) : (w.setCell ⟨B, j, none⟩ u).ownsRow base e s v n xs := by
  obtain ⟨hl, h | ⟨g, cap, cur, h1, h2, h3, h4⟩⟩ := h
  · exact ⟨hl, .inl h⟩
  · exact ⟨hl, .inr ⟨g, cap, cur, h1, h2, (Below.heap_setCell _ _ _ _ (by show g ≠ B; omega)).trans h3, h4⟩⟩
theorem Tp.some3 {w : World} {b o cap : Nat} {l : List Tg} (h : Tp w (.slice (some ⟨b, o, none⟩) l.length cap) l) (hl : 0 < l.length) : l.length ≤ cap ∧ b < w.heap.size ∧ ∀ (i : Nat) t, l[i]? = some t → w.cell? ⟨b, o + i * 2, none⟩ = some (.int .i64 t.1) ∧ w.cell? ⟨b, o + i * 2 + 1, none⟩ = some (.string (bs t.2)) := by
  rcases h with ⟨rfl, _⟩ | ⟨rfl, _⟩ | ⟨b', o', cap', h1, h2, h3, h4⟩
  · simp at hl
  · simp at hl
  · injection h1 with h1 _ h5
    injection h1 with h1
    injection h1 with h6 h7
    subst h5 h6 h7
    exact ⟨h2, h3, h4⟩
theorem Tp.take {w : World} {b o cap : Nat} {l : List Tg} (h : Tp w (.slice (some ⟨b, o, none⟩) l.length cap) l) (hl : 0 < l.length) (k : Nat) (hk : k ≤ l.length) : Tp w (.slice (some ⟨b, o, none⟩) k cap) (l.take k) := by
  obtain ⟨h1, h2, h3⟩ := h.some3 hl
  refine .inr <| .inr ⟨b, o, cap, by rw [List.length_take, Nat.min_eq_left hk], by rw [List.length_take]; omega, h2, fun i t ht => h3 i t ?_⟩
  rw [List.getElem?_take] at ht
  split at ht
  · exact ht
  · cases ht
theorem Tp.drop {w : World} {b o cap : Nat} {l : List Tg} (h : Tp w (.slice (some ⟨b, o, none⟩) l.length cap) l) (hl : 0 < l.length) (k : Nat) (hk : k ≤ l.length) : Tp w (.slice (some ⟨b, o + k * 2, none⟩) (l.length - k) (cap - k)) (l.drop k) := by
  obtain ⟨h1, h2, h3⟩ := h.some3 hl
  refine .inr <| .inr ⟨b, o + k * 2, cap - k, by rw [List.length_drop], by rw [List.length_drop]; omega, h2, fun i t ht => ?_⟩
  rw [List.getElem?_drop] at ht
  have := h3 (k + i) t ht
  rw [show o + k * 2 + i * 2 = o + (k + i) * 2 from by omega]
  exact this
theorem Tp.mt (w : World) (a : Addr) (cap : Nat) : Tp w (.slice (some a) 0 cap) [] := .inr (.inl ⟨rfl, a, cap, rfl⟩)
theorem Tp_new (w : World) (n : Int) (t : List UInt8) (e : TypeId) : Tp (w.alloc (.cells #[.int .i64 n, .string (bs t)] e)) (.slice (some ⟨w.heap.size, 0, none⟩) 1 1) [(n, t)] := by
  refine .inr <| .inr ⟨w.heap.size, 0, 1, rfl, Nat.le_refl _, by simp, fun i a ha => ?_⟩
  have hh := heap_alloc_new w (.cells #[.int .i64 n, .string (bs t)] e)
  match i, ha with
  | 0, ha =>
    simp at ha; subst ha
    exact ⟨cell_block hh 0 _ rfl, cell_block hh 1 _ rfl⟩
  | i + 1, ha => simp at ha
set_option maxRecDepth 20000 in
set_option maxHeartbeats 4000000 in
theorem Add_any (x : List UInt8) (g : Int) (l : List Tg) (v : Value) (sg sn : Int) (st tg : List UInt8) (w : World) (hll : l.length ≤ 140737488355328) (he : EnvP w) (hv : Tp w v l) :
    Calls Tryd.prog 45 #[.agg #[.string (bs x), .int .i64 g, v], .agg #[.int .i64 sg, .int .i64 sn, .string (bs st), .string (bs tg)]] w fun e W' => ∃ X G T u, e = .returned (.tuple #[.agg #[.string (bs X), .int .i64 G, u], .int .i64 (addE x g l sg sn st tg)]) ∧
      ((addE x g l sg sn st tg = 0 ∧ X = x ∧ G = g ∧ T = insT sn tg l ∧ ∀ k, u.ownBlock = some k → w.heap.size ≤ k) ∨ (addE x g l sg sn st tg ≠ 0 ∧ X = [] ∧ G = 0 ∧ T = [])) ∧ Tp W' u T ∧ Below w.heap.size w W' := by
  obtain ⟨va, vc, rfl⟩ := hv.tl.slice
  have hB0 : Below w.heap.size w (w.alloc (.cells #[.string (bs x), .int .i64 g, .slice va l.length vc] 58)) := (Below.refl _ w).alloc (Nat.le_refl _) _
  have hB1 := hB0.alloc hB0.size (.cells #[.int .i64 sg, .int .i64 sn, .string (bs st), .string (bs tg)] 36)
  have hBa := hB1.alloc hB1.size (.cells #[.string ⟨#[]⟩, .int .i64 0, .slice none 0 0] 58)
  have hBb : Below (w.heap.size + 1) (w.alloc (.cells #[.string (bs x), .int .i64 g, .slice va l.length vc] 58)) (((w.alloc (.cells #[.string (bs x), .int .i64 g, .slice va l.length vc] 58)).alloc (.cells #[.int .i64 sg, .int .i64 sn, .string (bs st), .string (bs tg)] 36)).alloc (.cells #[.string ⟨#[]⟩, .int .i64 0, .slice none 0 0] 58)) := ((Below.refl _ _).alloc (by simp) _).alloc (by simp) _
  have hBc : Below (w.heap.size + 2) ((w.alloc (.cells #[.string (bs x), .int .i64 g, .slice va l.length vc] 58)).alloc (.cells #[.int .i64 sg, .int .i64 sn, .string (bs st), .string (bs tg)] 36)) (((w.alloc (.cells #[.string (bs x), .int .i64 g, .slice va l.length vc] 58)).alloc (.cells #[.int .i64 sg, .int .i64 sn, .string (bs st), .string (bs tg)] 36)).alloc (.cells #[.string ⟨#[]⟩, .int .i64 0, .slice none 0 0] 58)) := (Below.refl _ _).alloc (by simp) _
  have c0 := (hBb.cell (p := ⟨w.heap.size, 0, none⟩) (by simp)).trans (cell_new w _ 58 0 (.string (bs x)) rfl _ rfl)
  have c1 := (hBb.cell (p := ⟨w.heap.size, 1, none⟩) (by simp)).trans (cell_new w _ 58 1 (.int .i64 g) rfl _ rfl)
  have c2 := (hBb.cell (p := ⟨w.heap.size, 2, none⟩) (by simp)).trans (cell_new w _ 58 2 (.slice va l.length vc) rfl _ rfl)
  have d1 := (hBc.cell (p := ⟨w.heap.size + 1, 1, none⟩) (by simp)).trans (cell_new (w.alloc (.cells #[.string (bs x), .int .i64 g, .slice va l.length vc] 58)) _ 36 1 (.int .i64 sn) rfl (w.heap.size + 1) (by simp))
  have d3 := (hBc.cell (p := ⟨w.heap.size + 1, 3, none⟩) (by simp)).trans (cell_new (w.alloc (.cells #[.string (bs x), .int .i64 g, .slice va l.length vc] 58)) _ 36 3 (.string (bs tg)) rfl (w.heap.size + 1) (by simp))
  have r0 : (((w.alloc (.cells #[.string (bs x), .int .i64 g, .slice va l.length vc] 58)).alloc (.cells #[.int .i64 sg, .int .i64 sn, .string (bs st), .string (bs tg)] 36)).alloc (.cells #[.string ⟨#[]⟩, .int .i64 0, .slice none 0 0] 58)).heap[w.heap.size + 2]? = some (.cells #[.string ⟨#[]⟩, .int .i64 0, .slice none 0 0] 58) := by
    have := heap_alloc_new ((w.alloc (.cells #[.string (bs x), .int .i64 g, .slice va l.length vc] 58)).alloc (.cells #[.int .i64 sg, .int .i64 sn, .string (bs st), .string (bs tg)] 36)) (.cells #[.string ⟨#[]⟩, .int .i64 0, .slice none 0 0] 58)
    simpa using this
  have hz : w.heap.size + 3 ≤ (((w.alloc (.cells #[.string (bs x), .int .i64 g, .slice va l.length vc] 58)).alloc (.cells #[.int .i64 sg, .int .i64 sn, .string (bs st), .string (bs tg)] 36)).alloc (.cells #[.string ⟨#[]⟩, .int .i64 0, .slice none 0 0] 58)).heap.size := by simp
  have hv2 := hv.below hBa (Nat.le_refl _)
  have hea := he.next hBa
  have hfa := addFault_any x g l _ sg sn st tg _ hll hea hv2.tl
  clear hB1
  clear hB0 hBb hBc
  obtain ⟨R, hR⟩ : ∃ R, addE x g l sg sn st tg = R := ⟨_, rfl⟩
  rw [hR]
  have HR : Hid (addE x g l sg sn st tg = R) := hR
  clear hR
  by_cases hf : addFL x g l sg sn st tg = 0
  · rw [hf] at hfa
    have HF : Hid (addFL x g l sg sn st tg = 0) := hf
    obtain ⟨z1, z2, rfl, rfl, z3⟩ := addFL_zero hf
    obtain ⟨g0, g4, hl16, hmem⟩ := fault_zero z1
    have HS : Hid (l.Pairwise (fun a b => a.1 < b.1)) := by
      have : tagsF (-1) l = 0 := by unfold faultL at z1; split at z1; cases z1; exact z1
      exact (tags_sorted this).2
    clear hf z1 hmem
    go_enter Tryd.func45, Tryd.ntmps45
    go_wp2_with fail
    refine hfa.mono ?_
    clear hfa
    rintro e w1 ⟨rfl, hb1⟩
    have hB1 := hBa.trans (hb1.mono hBa.size)
    have k0 := (hb1.cell (p := ⟨w.heap.size, 0, none⟩) (by show w.heap.size < _; omega)).trans c0
    have k1 := (hb1.cell (p := ⟨w.heap.size, 1, none⟩) (by show w.heap.size < _; omega)).trans c1
    have k2 := (hb1.cell (p := ⟨w.heap.size, 2, none⟩) (by show w.heap.size < _; omega)).trans c2
    have r1 := (hb1.block (w.heap.size + 2) (by omega)).trans r0
    have m1 := (hb1.cell (p := ⟨w.heap.size + 1, 1, none⟩) (by show w.heap.size + 1 < _; omega)).trans d1
    have m3 := (hb1.cell (p := ⟨w.heap.size + 1, 3, none⟩) (by show w.heap.size + 1 < _; omega)).trans d3
    have hz1 := Nat.le_trans hz hb1.size
    have hv1 := hv2.below hb1 (Nat.le_refl _)
    clear c0 c1 c2 d1 d3 r0 hb1 hea hBa hz hv2
    go_wp2_with fail
    go_loopw [7] (fun i wr => ∃ (k : Nat), i = .int .i64 k ∧ k ≤ l.length ∧ Hid (∀ t ∈ l.take k, t.1 < sn) ∧ Below w1.heap.size w1 wr)
      (fun i _ => l.length - (intOf i).toNat)
    case atStart => exact ⟨0, rfl, Nat.zero_le _, (fun t ht => by simp at ht), Below.refl _ _⟩
    case round =>
      obtain ⟨k, rfl, hk, HT, hB⟩ := hrel
      have j0 := (hB.cell (p := ⟨w.heap.size, 0, none⟩) (by show w.heap.size < _; omega)).trans k0
      have j1 := (hB.cell (p := ⟨w.heap.size, 1, none⟩) (by show w.heap.size < _; omega)).trans k1
      have j2 := (hB.cell (p := ⟨w.heap.size, 2, none⟩) (by show w.heap.size < _; omega)).trans k2
      have n1 := (hB.cell (p := ⟨w.heap.size + 1, 1, none⟩) (by show w.heap.size + 1 < _; omega)).trans m1
      have n3 := (hB.cell (p := ⟨w.heap.size + 1, 3, none⟩) (by show w.heap.size + 1 < _; omega)).trans m3
      have rb := (hB.block (w.heap.size + 2) (by omega)).trans r1
      have hvr := hv1.below hB (Nat.le_refl _)
      have hBr := hB1.trans (hB.mono hB1.size)
      have hzr := Nat.le_trans hz1 hB.size
      have hBd := below_drew hB
      obtain ⟨i0, hi, hz0, hz1', hz2'⟩ := info_parts Tryd.info94
      have hBdd := below_drew hBd
      by_cases hk1 : k = l.length
      · subst hk1
        have HM : Hid (sn ∉ l.map (·.1)) := place_mem HS.out HT.out hk (.inl rfl)
        have HI : Hid (insT sn tg l = l ++ [(sn, tg)]) := by
          show insT sn tg l = l ++ [(sn, tg)]
          obtain ⟨h1, h2⟩ := place_at HT.out hk (.inl rfl)
          rw [insT, h1, h2, List.take_length, List.drop_length]
        have hsh : (l = [] ∧ va = none ∧ vc = 0) ∨ (l = [] ∧ ∃ a, va = some a) ∨ (∃ b o, va = some ⟨b, o, none⟩ ∧ l.length ≤ vc) := by
          rcases hv1 with ⟨h1, h2⟩ | ⟨h1, a, cap, h2⟩ | ⟨b, o, cap, h2, h3, _⟩
          · injection h2 with h2 _ h3; exact .inl ⟨h1, h2, h3⟩
          · injection h2 with h2 _ h3; exact .inr (.inl ⟨h1, a, h2⟩)
          · injection h2 with h2 _ h4; subst h4; exact .inr (.inr ⟨b, o, h2, h3⟩)
        rcases hsh with ⟨rfl, rfl, rfl⟩ | ⟨rfl, a, rfl⟩ | ⟨b, o, rfl, hcap⟩
        · simp only [List.length_nil] at *
          go_wp2_with fail
          go_region
          all_goals go_wp2_with fail
          all_goals go_region
          all_goals
            go_wp2_with (first
              | (at_make; refine wpList_make_own _ rfl _ _ 56 rfl w1.heap.size 94 i0 (.agg #[.int .i64 0, .string ⟨#[]⟩]) 2 Tryd.underlying56 hi hz0 hz1' .i64 .i64 _ (0 + 1) rfl rfl (by omega) (by rw [hz2']; omega) (by unfold maxLen; omega) hB.size ?_; intro w5 hown5 hg5; have hb5 := hBdd.grown hg5 hB.size (fun q hq => by cases hq); have y5 := (hb5.cell (p := ⟨w.heap.size, 2, none⟩) (by show w.heap.size < _; omega)).trans k2)
              | (at_builtin; refine wpList_append_tags 56 94 Tryd.underlying56 Tryd.info94 rfl _ _ rfl w1.heap.size _ (0 + 1) _ rfl hown7 _ [] rfl (Tp.nil _) (by simp; try omega) hb7.size ?_; intro v8 w8 hown8 hg8; obtain ⟨a8, c8, rfl⟩ := owns_slice hown8; have hb8 := hb7.trans hg8; have x8 := (hb8.cell (p := ⟨w.heap.size, 0, none⟩) (by show w.heap.size < _; omega)).trans k0; have y8 := (hb8.cell (p := ⟨w.heap.size, 1, none⟩) (by show w.heap.size < _; omega)).trans k1; have rb8 := (hb8.block (w.heap.size + 2) (by omega)).trans r1; have f1 := frozen_block rb8 0; have f2 := frozen_block rb8 1; have f3 := frozen_block rb8 2; have s1 := cell_block rb8 0 _ rfl; have s2 := cell_block rb8 1 _ rfl; have s3 := cell_block rb8 2 _ rfl)
              | (at_builtin; refine wpList_append_tags 56 94 Tryd.underlying56 Tryd.info94 rfl _ _ rfl w1.heap.size _ 0 _ rfl (hown6.alloc _) _ [(sn, tg)] rfl (Tp_new w6 sn tg 94) (by simp; try omega) (by simp; omega) ?_; intro v7 w7 hown7 hg7; rw [List.length_singleton] at hown7; obtain ⟨a7, c7, rfl⟩ := owns_slice hown7; have hb7 := (hb6.alloc hb6.size (.cells #[.int .i64 sn, .string (bs tg)] 94)).trans hg7; have x7 := (hb7.cell (p := ⟨w.heap.size, 2, none⟩) (by show w.heap.size < _; omega)).trans k2)
              | (at_builtin; refine wpList_append_tags 56 94 Tryd.underlying56 Tryd.info94 rfl _ _ rfl w1.heap.size _ 0 [] rfl hown5 _ [] rfl (Tp.nil _) (by simp; try omega) hb5.size ?_; intro v6 w6 hown6 hg6; rw [List.length_nil, Nat.add_zero] at hown6; obtain ⟨a6, c6, rfl⟩ := owns_slice hown6; have hb6 := hb5.trans hg6; have hs6 := hb6.size; have x6 := (hb6.cell (p := ⟨w.heap.size + 1, 1, none⟩) (by show w.heap.size + 1 < _; omega)).trans m1; have y6 := (hb6.cell (p := ⟨w.heap.size + 1, 3, none⟩) (by show w.heap.size + 1 < _; omega)).trans m3))
            have hr := set3 rb8 (.string (bs st)) (.int .i64 sg) (.slice a8 (0 + 1 + 0) c8)
            have q1 := cell_block hr 0 _ rfl
            have q2 := cell_block hr 1 _ rfl
            have q3 := cell_block hr 2 _ rfl
            have hb9 := hB1.trans (hb8.mono hB1.size)
            have hBz : Below w.heap.size w (((w8.setCell ⟨w.heap.size + 2, 0, none⟩ (.string (bs st))).setCell ⟨w.heap.size + 2, 1, none⟩ (.int .i64 sg)).setCell ⟨w.heap.size + 2, 2, none⟩ (.slice a8 (0 + 1 + 0) c8)) := ((hb9.setCell (p := ⟨w.heap.size + 2, 0, none⟩) (by show w.heap.size ≤ w.heap.size + 2; omega) _).setCell (p := ⟨w.heap.size + 2, 1, none⟩) (by show w.heap.size ≤ w.heap.size + 2; omega) _).setCell (p := ⟨w.heap.size + 2, 2, none⟩) (by show w.heap.size ≤ w.heap.size + 2; omega) _
            have hoz := owns_set (owns_set (owns_set hown8 (B := w.heap.size + 2) (by omega) 0 (.string (bs st))) (B := w.heap.size + 2) (by omega) 1 (.int .i64 sg)) (B := w.heap.size + 2) (by omega) 2 (.slice a8 (0 + 1 + 0) c8)
            have hTz : Tp _ (.slice a8 (0 + 1 + 0) c8) (insT sn tg []) := Tp.of_owns (e := 94) (base := w1.heap.size) (by rw [HI.out]; simpa [tcs] using hoz)
            have e0 : R = 0 := by rw [← HR.out, addE, if_neg (fun h => h HF.out), if_neg HM.out]
            rw [e0]
            obtain ⟨WW, hWW⟩ : ∃ WW, (((w8.setCell ⟨w.heap.size + 2, 0, none⟩ (.string (bs st))).setCell ⟨w.heap.size + 2, 1, none⟩ (.int .i64 sg)).setCell ⟨w.heap.size + 2, 2, none⟩ (.slice a8 (0 + 1 + 0) c8)) = WW := ⟨_, rfl⟩
            rw [hWW] at q1 q2 q3 hBz hTz
            show bodyPost _ _ _ _ _ (((w8.setCell ⟨w.heap.size + 2, 0, none⟩ (.string (bs st))).setCell ⟨w.heap.size + 2, 1, none⟩ (.int .i64 sg)).setCell ⟨w.heap.size + 2, 2, none⟩ (.slice a8 (0 + 1 + 0) c8))
            rw [hWW]
            exact bodyPost_ret (v := .tuple #[.agg #[.string (bs st), .int .i64 sg, .slice a8 (0 + 1 + 0) c8], .int .i64 0]) (by simp [results, Tryd.f45, go_sem, q1, q2, q3]) rfl ⟨st, sg, _, _, rfl, .inl ⟨rfl, rfl, rfl, rfl, fun k hk => Nat.le_trans hB1.size (hown8.lt k hk).1⟩, hTz, hBz⟩
        · simp only [List.length_nil] at *
          obtain ⟨P, hP⟩ : ∃ P : Addr, (if vc = 0 then some a else some (a.add 0)) = some P := by split <;> exact ⟨_, rfl⟩
          go_wp2_with fail
          go_region
          all_goals go_wp2_with fail
          all_goals go_region
          all_goals
            go_wp2_with (first
              | (at_make; refine wpList_make_own _ rfl _ _ 56 rfl w1.heap.size 94 i0 (.agg #[.int .i64 0, .string ⟨#[]⟩]) 2 Tryd.underlying56 hi hz0 hz1' .i64 .i64 _ (0 + 1) rfl rfl (by omega) (by rw [hz2']; omega) (by unfold maxLen; omega) hB.size ?_; intro w5 hown5 hg5; have hb5 := hBdd.grown hg5 hB.size (fun q hq => by cases hq); have y5 := (hb5.cell (p := ⟨w.heap.size, 2, none⟩) (by show w.heap.size < _; omega)).trans k2)
              | (at_builtin; refine wpList_append_tags 56 94 Tryd.underlying56 Tryd.info94 rfl _ _ rfl w1.heap.size _ (0 + 1) _ rfl hown7 _ [] rfl (Tp.mt _ _ _) (by simp; try omega) hb7.size ?_; intro v8 w8 hown8 hg8; obtain ⟨a8, c8, rfl⟩ := owns_slice hown8; have hb8 := hb7.trans hg8; have x8 := (hb8.cell (p := ⟨w.heap.size, 0, none⟩) (by show w.heap.size < _; omega)).trans k0; have y8 := (hb8.cell (p := ⟨w.heap.size, 1, none⟩) (by show w.heap.size < _; omega)).trans k1; have rb8 := (hb8.block (w.heap.size + 2) (by omega)).trans r1; have f1 := frozen_block rb8 0; have f2 := frozen_block rb8 1; have f3 := frozen_block rb8 2; have s1 := cell_block rb8 0 _ rfl; have s2 := cell_block rb8 1 _ rfl; have s3 := cell_block rb8 2 _ rfl)
              | (at_builtin; refine wpList_append_tags 56 94 Tryd.underlying56 Tryd.info94 rfl _ _ rfl w1.heap.size _ 0 _ rfl (hown6.alloc _) _ [(sn, tg)] rfl (Tp_new w6 sn tg 94) (by simp; try omega) (by simp; omega) ?_; intro v7 w7 hown7 hg7; rw [List.length_singleton] at hown7; obtain ⟨a7, c7, rfl⟩ := owns_slice hown7; have hb7 := (hb6.alloc hb6.size (.cells #[.int .i64 sn, .string (bs tg)] 94)).trans hg7; have x7 := (hb7.cell (p := ⟨w.heap.size, 2, none⟩) (by show w.heap.size < _; omega)).trans k2)
              | (at_builtin; refine wpList_append_tags 56 94 Tryd.underlying56 Tryd.info94 rfl _ _ rfl w1.heap.size _ 0 [] rfl hown5 _ [] rfl (Tp.mt _ _ _) (by simp; try omega) hb5.size ?_; intro v6 w6 hown6 hg6; rw [List.length_nil, Nat.add_zero] at hown6; obtain ⟨a6, c6, rfl⟩ := owns_slice hown6; have hb6 := hb5.trans hg6; have hs6 := hb6.size; have x6 := (hb6.cell (p := ⟨w.heap.size + 1, 1, none⟩) (by show w.heap.size + 1 < _; omega)).trans m1; have y6 := (hb6.cell (p := ⟨w.heap.size + 1, 3, none⟩) (by show w.heap.size + 1 < _; omega)).trans m3))
            have hr := set3 rb8 (.string (bs st)) (.int .i64 sg) (.slice a8 (0 + 1 + 0) c8)
            have q1 := cell_block hr 0 _ rfl
            have q2 := cell_block hr 1 _ rfl
            have q3 := cell_block hr 2 _ rfl
            have hb9 := hB1.trans (hb8.mono hB1.size)
            have hBz : Below w.heap.size w (((w8.setCell ⟨w.heap.size + 2, 0, none⟩ (.string (bs st))).setCell ⟨w.heap.size + 2, 1, none⟩ (.int .i64 sg)).setCell ⟨w.heap.size + 2, 2, none⟩ (.slice a8 (0 + 1 + 0) c8)) := ((hb9.setCell (p := ⟨w.heap.size + 2, 0, none⟩) (by show w.heap.size ≤ w.heap.size + 2; omega) _).setCell (p := ⟨w.heap.size + 2, 1, none⟩) (by show w.heap.size ≤ w.heap.size + 2; omega) _).setCell (p := ⟨w.heap.size + 2, 2, none⟩) (by show w.heap.size ≤ w.heap.size + 2; omega) _
            have hoz := owns_set (owns_set (owns_set hown8 (B := w.heap.size + 2) (by omega) 0 (.string (bs st))) (B := w.heap.size + 2) (by omega) 1 (.int .i64 sg)) (B := w.heap.size + 2) (by omega) 2 (.slice a8 (0 + 1 + 0) c8)
            have hTz : Tp _ (.slice a8 (0 + 1 + 0) c8) (insT sn tg []) := Tp.of_owns (e := 94) (base := w1.heap.size) (by rw [HI.out]; simpa [tcs] using hoz)
            have e0 : R = 0 := by rw [← HR.out, addE, if_neg (fun h => h HF.out), if_neg HM.out]
            rw [e0]
            obtain ⟨WW, hWW⟩ : ∃ WW, (((w8.setCell ⟨w.heap.size + 2, 0, none⟩ (.string (bs st))).setCell ⟨w.heap.size + 2, 1, none⟩ (.int .i64 sg)).setCell ⟨w.heap.size + 2, 2, none⟩ (.slice a8 (0 + 1 + 0) c8)) = WW := ⟨_, rfl⟩
            rw [hWW] at q1 q2 q3 hBz hTz
            show bodyPost _ _ _ _ _ (((w8.setCell ⟨w.heap.size + 2, 0, none⟩ (.string (bs st))).setCell ⟨w.heap.size + 2, 1, none⟩ (.int .i64 sg)).setCell ⟨w.heap.size + 2, 2, none⟩ (.slice a8 (0 + 1 + 0) c8))
            rw [hWW]
            exact bodyPost_ret (v := .tuple #[.agg #[.string (bs st), .int .i64 sg, .slice a8 (0 + 1 + 0) c8], .int .i64 0]) (by simp [results, Tryd.f45, go_sem, q1, q2, q3]) rfl ⟨st, sg, _, _, rfl, .inl ⟨rfl, rfl, rfl, rfl, fun k hk => Nat.le_trans hB1.size (hown8.lt k hk).1⟩, hTz, hBz⟩
        · obtain ⟨P, hP⟩ : ∃ P : Addr, (if vc = l.length then some (⟨b, o, none⟩ : Addr) else some ⟨b, o + l.length * 2, none⟩) = some P := by split <;> exact ⟨_, rfl⟩
          go_wp2_with fail
          go_region
          all_goals go_wp2_with fail
          all_goals go_region
          all_goals
            go_wp2_with (first
              | (at_make; refine wpList_make_own _ rfl _ _ 56 rfl w1.heap.size 94 i0 (.agg #[.int .i64 0, .string ⟨#[]⟩]) 2 Tryd.underlying56 hi hz0 hz1' .i64 .i64 _ (l.length + 1) rfl rfl (by omega) (by rw [hz2']; omega) (by unfold maxLen; omega) hB.size ?_; intro w5 hown5 hg5; have hb5 := hBdd.grown hg5 hB.size (fun q hq => by cases hq); have t5 := hv1.below hb5 (Nat.le_refl _); have y5 := (hb5.cell (p := ⟨w.heap.size, 2, none⟩) (by show w.heap.size < _; omega)).trans k2)
              | (at_builtin; refine wpList_append_tags 56 94 Tryd.underlying56 Tryd.info94 rfl _ _ rfl w1.heap.size _ (l.length + 1) _ rfl hown7 _ [] rfl (Tp.mt _ _ _) (by simp; omega) hb7.size ?_; intro v8 w8 hown8 hg8; obtain ⟨a8, c8, rfl⟩ := owns_slice hown8; have hb8 := hb7.trans hg8; have x8 := (hb8.cell (p := ⟨w.heap.size, 0, none⟩) (by show w.heap.size < _; omega)).trans k0; have y8 := (hb8.cell (p := ⟨w.heap.size, 1, none⟩) (by show w.heap.size < _; omega)).trans k1; have rb8 := (hb8.block (w.heap.size + 2) (by omega)).trans r1; have f1 := frozen_block rb8 0; have f2 := frozen_block rb8 1; have f3 := frozen_block rb8 2; have s1 := cell_block rb8 0 _ rfl; have s2 := cell_block rb8 1 _ rfl; have s3 := cell_block rb8 2 _ rfl)
              | (at_builtin; refine wpList_append_tags 56 94 Tryd.underlying56 Tryd.info94 rfl _ _ rfl w1.heap.size _ l.length _ rfl (hown6.alloc _) _ [(sn, tg)] rfl (Tp_new w6 sn tg 94) (by simp; omega) (by simp; omega) ?_; intro v7 w7 hown7 hg7; rw [List.length_singleton] at hown7; obtain ⟨a7, c7, rfl⟩ := owns_slice hown7; have hb7 := (hb6.alloc hb6.size (.cells #[.int .i64 sn, .string (bs tg)] 94)).trans hg7; have x7 := (hb7.cell (p := ⟨w.heap.size, 2, none⟩) (by show w.heap.size < _; omega)).trans k2)
              | (at_builtin; refine wpList_append_tags 56 94 Tryd.underlying56 Tryd.info94 rfl _ _ rfl w1.heap.size _ 0 [] rfl hown5 _ l rfl t5 (by simp; omega) hb5.size ?_; intro v6 w6 hown6 hg6; rw [Nat.zero_add, List.nil_append] at hown6; obtain ⟨a6, c6, rfl⟩ := owns_slice hown6; have hb6 := hb5.trans hg6; have hs6 := hb6.size; have x6 := (hb6.cell (p := ⟨w.heap.size + 1, 1, none⟩) (by show w.heap.size + 1 < _; omega)).trans m1; have y6 := (hb6.cell (p := ⟨w.heap.size + 1, 3, none⟩) (by show w.heap.size + 1 < _; omega)).trans m3))
            have hr := set3 rb8 (.string (bs st)) (.int .i64 sg) (.slice a8 (l.length + 1) c8)
            have q1 := cell_block hr 0 _ rfl
            have q2 := cell_block hr 1 _ rfl
            have q3 := cell_block hr 2 _ rfl
            have hb9 := hB1.trans (hb8.mono hB1.size)
            have hBz : Below w.heap.size w (((w8.setCell ⟨w.heap.size + 2, 0, none⟩ (.string (bs st))).setCell ⟨w.heap.size + 2, 1, none⟩ (.int .i64 sg)).setCell ⟨w.heap.size + 2, 2, none⟩ (.slice a8 (l.length + 1) c8)) := ((hb9.setCell (p := ⟨w.heap.size + 2, 0, none⟩) (by show w.heap.size ≤ w.heap.size + 2; omega) _).setCell (p := ⟨w.heap.size + 2, 1, none⟩) (by show w.heap.size ≤ w.heap.size + 2; omega) _).setCell (p := ⟨w.heap.size + 2, 2, none⟩) (by show w.heap.size ≤ w.heap.size + 2; omega) _
            have hoz := owns_set (owns_set (owns_set hown8 (B := w.heap.size + 2) (by omega) 0 (.string (bs st))) (B := w.heap.size + 2) (by omega) 1 (.int .i64 sg)) (B := w.heap.size + 2) (by omega) 2 (.slice a8 (l.length + 1) c8)
            have hTz : Tp _ (.slice a8 (l.length + 1) c8) (insT sn tg l) := Tp.of_owns (e := 94) (base := w1.heap.size) (by rw [HI.out]; rw [List.length_append, List.length_singleton, tcs_append]; rw [List.length_nil, Nat.add_zero] at hoz; simpa [tcs] using hoz)
            have e0 : R = 0 := by rw [← HR.out, addE, if_neg (fun h => h HF.out), if_neg HM.out]
            rw [e0]
            obtain ⟨WW, hWW⟩ : ∃ WW, (((w8.setCell ⟨w.heap.size + 2, 0, none⟩ (.string (bs st))).setCell ⟨w.heap.size + 2, 1, none⟩ (.int .i64 sg)).setCell ⟨w.heap.size + 2, 2, none⟩ (.slice a8 (l.length + 1) c8)) = WW := ⟨_, rfl⟩
            rw [hWW] at q1 q2 q3 hBz hTz
            show bodyPost _ _ _ _ _ (((w8.setCell ⟨w.heap.size + 2, 0, none⟩ (.string (bs st))).setCell ⟨w.heap.size + 2, 1, none⟩ (.int .i64 sg)).setCell ⟨w.heap.size + 2, 2, none⟩ (.slice a8 (l.length + 1) c8))
            rw [hWW]
            exact bodyPost_ret (v := .tuple #[.agg #[.string (bs st), .int .i64 sg, .slice a8 (l.length + 1) c8], .int .i64 0]) (by simp [results, Tryd.f45, go_sem, q1, q2, q3]) rfl ⟨st, sg, _, _, rfl, .inl ⟨rfl, rfl, rfl, rfl, fun k hk => Nat.le_trans hB1.size (hown8.lt k hk).1⟩, hTz, hBz⟩
      · have hk2 : k < l.length := by omega
        obtain ⟨b, o, rfl, hlt⟩ := hvr.tl.some (by omega)
        obtain ⟨t, ht⟩ : ∃ t, l[k]? = some t := ⟨_, List.getElem?_eq_getElem hk2⟩
        obtain ⟨hc1, hc2⟩ := hvr.tl.cells ht
        have HK : Hid (l[k]? = some t) := ht
        have HTn : Hid (∀ a ∈ l.take (k + 1), a.1 < sn) ∨ sn ≤ t.1 := by
          by_cases h : t.1 < sn
          · left
            intro a ha
            rw [List.take_add_one, ht] at ha
            rcases List.mem_append.1 ha with ha | ha
            · exact HT.out a ha
            · simp at ha; subst ha; exact h
          · right; omega
        obtain ⟨n, s⟩ := t
        simp only at hc1 hc2 HTn
        clear ht hc2
        by_cases hn : n < sn
        · go_wp2_with fail
          go_region_held3 (fun w' => w'.cell? ⟨w.heap.size, 2, none⟩ = some (.slice (some ⟨b, o, none⟩) l.length vc) ∧ w'.cell? ⟨b, o + k * 2, none⟩ = some (.int .i64 n) ∧ w'.cell? ⟨w.heap.size + 1, 1, none⟩ = some (.int .i64 sn)) (go_keep) (fail)
          all_goals go_wp2
          all_goals go_roundw
          case rel => exact ⟨k + 1, by go_num, hk2, HTn.resolve_right (by omega), hBd⟩
          case measure => simp [intOf]; omega
        · by_cases hn2 : n = sn
          · subst hn2
            have hmm : n ∈ l.map (·.1) := List.mem_map.2 ⟨(n, s), List.mem_of_getElem? HK.out, rfl⟩
            have e0 : R = 42 := by rw [← HR.out, addE, if_neg (fun h => h HF.out), if_pos hmm]
            have HE0 : Hid (R = 42) := e0
            clear hmm e0
            have f1 := frozen_block rb 0
            have f2 := frozen_block rb 1
            have f3 := frozen_block rb 2
            have s1 := cell_block rb 0 _ rfl
            have s2 := cell_block rb 1 _ rfl
            have s3 := cell_block rb 2 _ rfl
            go_wp2_with fail
            go_region_held3 (fun w' => w'.cell? ⟨w.heap.size, 2, none⟩ = some (.slice (some ⟨b, o, none⟩) l.length vc) ∧ w'.cell? ⟨b, o + k * 2, none⟩ = some (.int .i64 n) ∧ w'.cell? ⟨w.heap.size + 1, 1, none⟩ = some (.int .i64 n)) (go_keep) (fail)
            all_goals go_wp2_with fail
            all_goals go_region_held3 (fun w' => w'.cell? ⟨w.heap.size, 2, none⟩ = some (.slice (some ⟨b, o, none⟩) l.length vc) ∧ w'.cell? ⟨b, o + k * 2, none⟩ = some (.int .i64 n) ∧ w'.cell? ⟨w.heap.size + 1, 1, none⟩ = some (.int .i64 n)) (go_keep) (fail)
            all_goals go_wp2
            all_goals
              have rbd : wr.drew.drew.heap[w.heap.size + 2]? = some (.cells #[.string ⟨#[]⟩, .int .i64 0, .slice none 0 0] 58) := rb
              have hr := set3 rbd (.string ⟨#[]⟩) (.int .i64 0) (.slice none 0 0)
              have z1 := cell_block hr 0 _ rfl
              have z2 := cell_block hr 1 _ rfl
              have z3 := cell_block hr 2 _ rfl
              have hb9 := hB1.trans (hBdd.mono hB1.size)
              have hBz : Below w.heap.size w (((wr.drew.drew.setCell ⟨w.heap.size + 2, 0, none⟩ (.string ⟨#[]⟩)).setCell ⟨w.heap.size + 2, 1, none⟩ (.int .i64 0)).setCell ⟨w.heap.size + 2, 2, none⟩ (.slice none 0 0)) := ((hb9.setCell (p := ⟨w.heap.size + 2, 0, none⟩) (by show w.heap.size ≤ w.heap.size + 2; omega) _).setCell (p := ⟨w.heap.size + 2, 1, none⟩) (by show w.heap.size ≤ w.heap.size + 2; omega) _).setCell (p := ⟨w.heap.size + 2, 2, none⟩) (by show w.heap.size ≤ w.heap.size + 2; omega) _
              rw [HE0.out]
              obtain ⟨WW, hWW⟩ : ∃ WW, (((wr.drew.drew.setCell ⟨w.heap.size + 2, 0, none⟩ (.string ⟨#[]⟩)).setCell ⟨w.heap.size + 2, 1, none⟩ (.int .i64 0)).setCell ⟨w.heap.size + 2, 2, none⟩ (.slice none 0 0)) = WW := ⟨_, rfl⟩
              rw [hWW] at z1 z2 z3 hBz
              show bodyPost _ _ _ _ _ (((wr.drew.drew.setCell ⟨w.heap.size + 2, 0, none⟩ (.string ⟨#[]⟩)).setCell ⟨w.heap.size + 2, 1, none⟩ (.int .i64 0)).setCell ⟨w.heap.size + 2, 2, none⟩ (.slice none 0 0))
              rw [hWW]
              exact bodyPost_ret (v := .tuple #[.agg #[.string ⟨#[]⟩, .int .i64 0, .slice none 0 0], .int .i64 42]) (by simp [results, Tryd.f45, go_sem, z1, z2, z3]) rfl ⟨[], 0, [], .slice none 0 0, rfl, .inr ⟨by decide, rfl, rfl, rfl⟩, Tp.nil _, hBz⟩
          · have HM : Hid (sn ∉ l.map (·.1)) := place_mem HS.out HT.out hk (.inr ⟨_, HK.out, by show sn < n; omega⟩)
            have HI : Hid (insT sn tg l = l.take k ++ (sn, tg) :: l.drop k) := by
              show insT sn tg l = l.take k ++ (sn, tg) :: l.drop k
              obtain ⟨h1, h2⟩ := place_at HT.out hk (.inr ⟨_, HK.out, by show sn ≤ n; omega⟩)
              rw [insT, h1, h2]
            have htkl : (l.take k).length = k := by rw [List.length_take]; omega
            have hdrl : (l.drop k).length = l.length - k := List.length_drop
            have hcv := (hv1.some3 (by omega)).1
            have hvk : ¬ vc = k := by omega
            have hq2 : (n == sn) = false := by simpa using hn2
            go_wp2_with fail
            go_region_held3 (fun w' => w'.cell? ⟨w.heap.size, 2, none⟩ = some (.slice (some ⟨b, o, none⟩) l.length vc) ∧ w'.cell? ⟨b, o + k * 2, none⟩ = some (.int .i64 n) ∧ w'.cell? ⟨w.heap.size + 1, 1, none⟩ = some (.int .i64 sn)) (go_keep) (fail)
            all_goals go_wp2_with fail
            all_goals go_region_held3 (fun w' => w'.cell? ⟨w.heap.size, 2, none⟩ = some (.slice (some ⟨b, o, none⟩) l.length vc) ∧ w'.cell? ⟨b, o + k * 2, none⟩ = some (.int .i64 n) ∧ w'.cell? ⟨w.heap.size + 1, 1, none⟩ = some (.int .i64 sn)) (go_keep) (fail)
            all_goals
              go_wp2_with (first
                | (at_make; refine wpList_make_own _ rfl _ _ 56 rfl w1.heap.size 94 i0 (.agg #[.int .i64 0, .string ⟨#[]⟩]) 2 Tryd.underlying56 hi hz0 hz1' .i64 .i64 _ (l.length + 1) rfl rfl (by omega) (by rw [hz2']; omega) (by unfold maxLen; omega) hB.size ?_; intro w5 hown5 hg5; have hb5 := hBdd.grown hg5 hB.size (fun q hq => by cases hq); have t5 := (hv1.take (by omega) k hk).below hb5 (Nat.le_refl _); have u5 := (hv1.drop (by omega) k hk).below hb5 (Nat.le_refl _); have y5 := (hb5.cell (p := ⟨w.heap.size, 2, none⟩) (by show w.heap.size < _; omega)).trans k2)
                | (at_builtin; refine wpList_append_tags 56 94 Tryd.underlying56 Tryd.info94 rfl _ _ rfl w1.heap.size _ (k + 1) _ rfl hown7 _ (l.drop k) rfl u7 (by first | (rw [htkl]; omega) | (rw [hdrl]; omega) | (simp; omega)) hb7.size ?_; intro v8 w8 hown8 hg8; rw [hdrl] at hown8; obtain ⟨M8, hM8⟩ : ∃ M8, k + 1 + (l.length - k) = M8 := ⟨_, rfl⟩; rw [hM8] at hown8; obtain ⟨a8, c8, rfl⟩ := owns_slice hown8; have hb8 := hb7.trans hg8; have x8 := (hb8.cell (p := ⟨w.heap.size, 0, none⟩) (by show w.heap.size < _; omega)).trans k0; have y8 := (hb8.cell (p := ⟨w.heap.size, 1, none⟩) (by show w.heap.size < _; omega)).trans k1; have rb8 := (hb8.block (w.heap.size + 2) (by omega)).trans r1; have f1 := frozen_block rb8 0; have f2 := frozen_block rb8 1; have f3 := frozen_block rb8 2; have s1 := cell_block rb8 0 _ rfl; have s2 := cell_block rb8 1 _ rfl; have s3 := cell_block rb8 2 _ rfl)
                | (at_builtin; refine wpList_append_tags 56 94 Tryd.underlying56 Tryd.info94 rfl _ _ rfl w1.heap.size _ k _ rfl (hown6.alloc _) _ [(sn, tg)] rfl (Tp_new w6 sn tg 94) (by first | (rw [htkl]; omega) | (rw [hdrl]; omega) | (simp; omega)) (by simp; omega) ?_; intro v7 w7 hown7 hg7; rw [List.length_singleton] at hown7; obtain ⟨a7, c7, rfl⟩ := owns_slice hown7; have hb7 := (hb6.alloc hb6.size (.cells #[.int .i64 sn, .string (bs tg)] 94)).trans hg7; have t7 := (hv1.take (by omega) k hk).below hb7 (Nat.le_refl _); have u7 := (hv1.drop (by omega) k hk).below hb7 (Nat.le_refl _); have x7 := (hb7.cell (p := ⟨w.heap.size, 2, none⟩) (by show w.heap.size < _; omega)).trans k2)
                | (at_builtin; refine wpList_append_tags 56 94 Tryd.underlying56 Tryd.info94 rfl _ _ rfl w1.heap.size _ 0 [] rfl hown5 _ (l.take k) rfl t5 (by first | (rw [htkl]; omega) | (rw [hdrl]; omega) | (simp; omega)) hb5.size ?_; intro v6 w6 hown6 hg6; rw [Nat.zero_add, List.nil_append, htkl] at hown6; obtain ⟨a6, c6, rfl⟩ := owns_slice hown6; have hb6 := hb5.trans hg6; have hs6 := hb6.size; have x6 := (hb6.cell (p := ⟨w.heap.size + 1, 1, none⟩) (by show w.heap.size + 1 < _; omega)).trans m1; have y6 := (hb6.cell (p := ⟨w.heap.size + 1, 3, none⟩) (by show w.heap.size + 1 < _; omega)).trans m3))
              have hr := set3 rb8 (.string (bs st)) (.int .i64 sg) (.slice a8 M8 c8)
              have q1 := cell_block hr 0 _ rfl
              have q2 := cell_block hr 1 _ rfl
              have q3 := cell_block hr 2 _ rfl
              have hb9 := hB1.trans (hb8.mono hB1.size)
              have hBz : Below w.heap.size w (((w8.setCell ⟨w.heap.size + 2, 0, none⟩ (.string (bs st))).setCell ⟨w.heap.size + 2, 1, none⟩ (.int .i64 sg)).setCell ⟨w.heap.size + 2, 2, none⟩ (.slice a8 M8 c8)) := ((hb9.setCell (p := ⟨w.heap.size + 2, 0, none⟩) (by show w.heap.size ≤ w.heap.size + 2; omega) _).setCell (p := ⟨w.heap.size + 2, 1, none⟩) (by show w.heap.size ≤ w.heap.size + 2; omega) _).setCell (p := ⟨w.heap.size + 2, 2, none⟩) (by show w.heap.size ≤ w.heap.size + 2; omega) _
              have hoz := owns_set (owns_set (owns_set hown8 (B := w.heap.size + 2) (by omega) 0 (.string (bs st))) (B := w.heap.size + 2) (by omega) 1 (.int .i64 sg)) (B := w.heap.size + 2) (by omega) 2 (.slice a8 M8 c8)
              have hTz : Tp _ (.slice a8 M8 c8) (insT sn tg l) := Tp.of_owns (e := 94) (base := w1.heap.size) (by rw [HI.out]; rw [List.length_append, List.length_cons, htkl, hdrl, show k + (l.length - k + 1) = M8 from by omega, tcs_append]; simpa [tcs] using hoz)
              have e0 : R = 0 := by rw [← HR.out, addE, if_neg (fun h => h HF.out), if_neg HM.out]
              rw [e0]
              obtain ⟨WW, hWW⟩ : ∃ WW, (((w8.setCell ⟨w.heap.size + 2, 0, none⟩ (.string (bs st))).setCell ⟨w.heap.size + 2, 1, none⟩ (.int .i64 sg)).setCell ⟨w.heap.size + 2, 2, none⟩ (.slice a8 M8 c8)) = WW := ⟨_, rfl⟩
              rw [hWW] at q1 q2 q3 hBz hTz
              show bodyPost _ _ _ _ _ (((w8.setCell ⟨w.heap.size + 2, 0, none⟩ (.string (bs st))).setCell ⟨w.heap.size + 2, 1, none⟩ (.int .i64 sg)).setCell ⟨w.heap.size + 2, 2, none⟩ (.slice a8 M8 c8))
              rw [hWW]
              exact bodyPost_ret (v := .tuple #[.agg #[.string (bs st), .int .i64 sg, .slice a8 M8 c8], .int .i64 0]) (by simp [results, Tryd.f45, go_sem, q1, q2, q3]) rfl ⟨st, sg, _, _, rfl, .inl ⟨rfl, rfl, rfl, rfl, fun k hk => Nat.le_trans hB1.size (hown8.lt k hk).1⟩, hTz, hBz⟩
  · have hq : (addFL x g l sg sn st tg != 0) = true := by simpa using hf
    have e4 : R = addFL x g l sg sn st tg := by rw [← HR.out, addE, if_pos hf]
    rw [e4]
    obtain ⟨E, hE⟩ : ∃ E, addFL x g l sg sn st tg = E := ⟨_, rfl⟩
    rw [hE] at hq hfa hf ⊢
    clear hE HR e4
    have HNF : Hid (E ≠ 0) := hf
    clear hf
    go_enter Tryd.func45, Tryd.ntmps45
    go_wp2_with fail
    refine hfa.mono ?_
    rintro e w1 ⟨rfl, hb1⟩
    have hB1 := hBa.trans (hb1.mono hBa.size)
    have r1 := (hb1.block (w.heap.size + 2) (by omega)).trans r0
    have f1 := frozen_block r1 0
    have f2 := frozen_block r1 1
    have f3 := frozen_block r1 2
    have s1 := cell_block r1 0 _ rfl
    have s2 := cell_block r1 1 _ rfl
    have s3 := cell_block r1 2 _ rfl
    go_wp2
    have hr := set3 r1 (.string ⟨#[]⟩) (.int .i64 0) (.slice none 0 0)
    have z1 := cell_block hr 0 _ rfl
    have z2 := cell_block hr 1 _ rfl
    have z3 := cell_block hr 2 _ rfl
    have hBz : Below w.heap.size w (((w1.setCell ⟨w.heap.size + 2, 0, none⟩ (.string ⟨#[]⟩)).setCell ⟨w.heap.size + 2, 1, none⟩ (.int .i64 0)).setCell ⟨w.heap.size + 2, 2, none⟩ (.slice none 0 0)) := ((hB1.setCell (p := ⟨w.heap.size + 2, 0, none⟩) (by show w.heap.size ≤ w.heap.size + 2; omega) _).setCell (p := ⟨w.heap.size + 2, 1, none⟩) (by show w.heap.size ≤ w.heap.size + 2; omega) _).setCell (p := ⟨w.heap.size + 2, 2, none⟩) (by show w.heap.size ≤ w.heap.size + 2; omega) _
    obtain ⟨WW, hWW⟩ : ∃ WW, (((w1.setCell ⟨w.heap.size + 2, 0, none⟩ (.string ⟨#[]⟩)).setCell ⟨w.heap.size + 2, 1, none⟩ (.int .i64 0)).setCell ⟨w.heap.size + 2, 2, none⟩ (.slice none 0 0)) = WW := ⟨_, rfl⟩
    have hWW' : (((w1.setCell ⟨w.heap.size + 1 + 1, 0, none⟩ (.string ⟨#[]⟩)).setCell ⟨w.heap.size + 1 + 1, 1, none⟩ (.int .i64 0)).setCell ⟨w.heap.size + 1 + 1, 2, none⟩ (.slice none 0 0)) = WW := hWW
    rw [hWW] at z1 z2 z3 hBz
    rw [hWW']
    refine bodyPost_ret (v := .tuple #[.agg #[.string ⟨#[]⟩, .int .i64 0, .slice none 0 0], .int .i64 E]) (by simp [results, Tryd.f45, go_sem, z1, z2, z3]) rfl ⟨[], 0, [], .slice none 0 0, rfl, .inr ⟨HNF.out, rfl, rfl, rfl⟩, Tp.nil _, hBz⟩
end Go.Proofs.YtoniohmceaflnaaDoor
