import Derived.Test.YtoniohmceaflnabDoorCtK
import Derived.Test.YtoniohmceaflnabDoorCtG
namespace Go.Proofs.YtoniohmceaflnabDoor
open Go.RowKit
attribute [local go_sem ↓] Go.wp_at_zero Go.wp_at_succ

theorem ins_len (n : Int) (t : List UInt8) (l : List Tg) : (insT n t l).length = l.length + 1 := by
  obtain ⟨m, h1, h2, h3, _⟩ := split_at n l
  rw [insT, h2, h3, List.length_append, List.length_cons, List.length_take, List.length_drop]
  omega
theorem Tp.setB {w : World} {v : Value} {l : List Tg} (h : Tp w v l) {B : Nat} (hB : ∀ k, v.ownBlock = some k → l ≠ [] → k ≠ B) (j : Nat) (u : Value) : Tp (w.setCell ⟨B, j, none⟩ u) v l := by
  rcases h with h | h | ⟨b, o, cap, rfl, hc, hlt, h⟩
  · exact .inl h
  · exact .inr (.inl h)
  · refine .inr <| .inr ⟨b, o, cap, rfl, hc, by simpa [World.setCell] using hlt, fun i t ht => ?_⟩
    have hne : b ≠ B := hB b rfl (by rintro rfl; cases ht)
    exact ⟨(cell_other (p := ⟨b, o + i * 2, none⟩) hne j u).trans (h i t ht).1, (cell_other (p := ⟨b, o + i * 2 + 1, none⟩) hne j u).trans (h i t ht).2⟩
theorem Tp.lt {w : World} {v : Value} {l : List Tg} (h : Tp w v l) (hl : l ≠ []) : ∀ k, v.ownBlock = some k → k < w.heap.size := by
  intro k hk
  rcases h with ⟨rfl, _⟩ | ⟨rfl, _⟩ | ⟨b, o, cap, rfl, hc, hlt, h⟩
  · exact absurd rfl hl
  · exact absurd rfl hl
  · simp [Value.ownBlock] at hk; omega
set_option maxRecDepth 20000 in
set_option maxHeartbeats 4000000 in
theorem adds_any (x : List UInt8) (g : Int) (l : List Tg) (v : Value) (sg sn : Int) (st tg : List UInt8) (w : World) (he : EnvP w) (hv : Tp w v l) :
    Calls Tryd.prog 3 #[.agg #[.string (bs x), .int .i64 g, v], .agg #[.int .i64 sg, .int .i64 sn, .string (bs st), .string (bs tg)]] w fun e W' => e = .returned (.bool true) ∧ Below w.heap.size w W' := by
  obtain ⟨va, vc, rfl⟩ := hv.tl.slice
  have hb1 : Below w.heap.size w (w.alloc (.cells #[.string (bs x), .int .i64 g, .slice va l.length vc] 24)) := (Below.refl _ w).alloc (Nat.le_refl _) _
  have hb2 := hb1.alloc hb1.size (.cells #[.int .i64 sg, .int .i64 sn, .string (bs st), .string (bs tg)] 28)
  have hbb : Below (w.heap.size + 1) (w.alloc (.cells #[.string (bs x), .int .i64 g, .slice va l.length vc] 24)) ((w.alloc (.cells #[.string (bs x), .int .i64 g, .slice va l.length vc] 24)).alloc (.cells #[.int .i64 sg, .int .i64 sn, .string (bs st), .string (bs tg)] 28)) := (Below.refl _ _).alloc (by simp) _
  have c0 := (hbb.cell (p := ⟨w.heap.size, 0, none⟩) (by simp)).trans (cell_new w _ 24 0 (.string (bs x)) rfl _ rfl)
  have c1 := (hbb.cell (p := ⟨w.heap.size, 1, none⟩) (by simp)).trans (cell_new w _ 24 1 (.int .i64 g) rfl _ rfl)
  have c2 := (hbb.cell (p := ⟨w.heap.size, 2, none⟩) (by simp)).trans (cell_new w _ 24 2 (.slice va l.length vc) rfl _ rfl)
  have d0 := cell_new (w.alloc (.cells #[.string (bs x), .int .i64 g, .slice va l.length vc] 24)) #[.int .i64 sg, .int .i64 sn, .string (bs st), .string (bs tg)] 28 0 (.int .i64 sg) rfl (w.heap.size + 1) (by simp)
  have d1 := cell_new (w.alloc (.cells #[.string (bs x), .int .i64 g, .slice va l.length vc] 24)) #[.int .i64 sg, .int .i64 sn, .string (bs st), .string (bs tg)] 28 1 (.int .i64 sn) rfl (w.heap.size + 1) (by simp)
  have d2 := cell_new (w.alloc (.cells #[.string (bs x), .int .i64 g, .slice va l.length vc] 24)) #[.int .i64 sg, .int .i64 sn, .string (bs st), .string (bs tg)] 28 2 (.string (bs st)) rfl (w.heap.size + 1) (by simp)
  have d3 := cell_new (w.alloc (.cells #[.string (bs x), .int .i64 g, .slice va l.length vc] 24)) #[.int .i64 sg, .int .i64 sn, .string (bs st), .string (bs tg)] 28 3 (.string (bs tg)) rfl (w.heap.size + 1) (by simp)
  have hz : w.heap.size + 2 ≤ ((w.alloc (.cells #[.string (bs x), .int .i64 g, .slice va l.length vc] 24)).alloc (.cells #[.int .i64 sg, .int .i64 sn, .string (bs st), .string (bs tg)] 28)).heap.size := by simp
  have hvb := hv.below hb2 (Nat.le_refl _)
  have heb := he.next hb2
  go_enter Tryd.func3, Tryd.ntmps3
  go_wp2_with fail
  refine (large4_any (bs x) g va l.length vc _).mono ?_
  rintro e w1 ⟨rfl, hb3⟩
  have hB1 := hb2.trans (hb3.mono hb2.size)
  have he1 := heb.next hb3
  by_cases hL : (decide ((40 : Int) < l.length) || decide ((20000 : Int) < (bs x).size)) = true
  · rw [hL]
    go_wp2_with (go_at_call 8; refine (one4_any w1 he1).mono ?_; rintro e w2 ⟨rfl, hb4⟩)
    go_ret
    exact ⟨rfl, hB1.trans (hb4.mono hB1.size)⟩
  · have hL2 : (decide ((40 : Int) < l.length) || decide ((20000 : Int) < (bs x).size)) = false := by simpa using hL
    have hl40 : l.length ≤ 40 := by
      have := hL2
      simp only [Bool.or_eq_false_iff, decide_eq_false_iff_not] at this
      omega
    rw [hL2]
    clear hL hL2
    have hv1 := hvb.below hb3 (Nat.le_refl _)
    have k0 := (hb3.cell (p := ⟨w.heap.size, 0, none⟩) (by show w.heap.size < _; omega)).trans c0
    have k1 := (hb3.cell (p := ⟨w.heap.size, 1, none⟩) (by show w.heap.size < _; omega)).trans c1
    have k2 := (hb3.cell (p := ⟨w.heap.size, 2, none⟩) (by show w.heap.size < _; omega)).trans c2
    have m0 := (hb3.cell (p := ⟨w.heap.size + 1, 0, none⟩) (by show w.heap.size + 1 < _; omega)).trans d0
    have m1 := (hb3.cell (p := ⟨w.heap.size + 1, 1, none⟩) (by show w.heap.size + 1 < _; omega)).trans d1
    have m2 := (hb3.cell (p := ⟨w.heap.size + 1, 2, none⟩) (by show w.heap.size + 1 < _; omega)).trans d2
    have m3 := (hb3.cell (p := ⟨w.heap.size + 1, 3, none⟩) (by show w.heap.size + 1 < _; omega)).trans d3
    have hz1 := Nat.le_trans hz hb3.size
    clear c0 c1 c2 d0 d1 d2 d3 hb3 hb2 hb1 hbb hvb heb hz
    have hA := Add_any x g l _ sg sn st tg w1 (by omega) he1 hv1
    obtain ⟨R, hR⟩ : ∃ R, addE x g l sg sn st tg = R := ⟨_, rfl⟩
    rw [hR] at hA
    go_wp2_with fail
    refine hA.mono ?_
    clear hA
    rintro e w2 ⟨X, G, T, u, rfl, hcase, hTp, hb4⟩
    obtain ⟨ua, uc, rfl⟩ := hTp.tl.slice
    have hB2 := hB1.trans (hb4.mono hB1.size)
    have hW3 := hB2.alloc hB2.size (.cells #[.string (bs X), .int .i64 G, .slice ua T.length uc] 24)
    have h13 : Below w1.heap.size w1 (w2.alloc (.cells #[.string (bs X), .int .i64 G, .slice ua T.length uc] 24)) := hb4.alloc hb4.size (.cells #[.string (bs X), .int .i64 G, .slice ua T.length uc] 24)
    have he3 : EnvP (w2.alloc (.cells #[.string (bs X), .int .i64 G, .slice ua T.length uc] 24)) := he.next hW3
    have hv3 := hv1.below h13 (Nat.le_refl _)
    have hTA := hTp.below ((Below.refl w2.heap.size w2).alloc (Nat.le_refl _) (.cells #[.string (bs X), .int .i64 G, .slice ua T.length uc] 24)) (Nat.le_refl _)
    have a0 := cell_new w2 #[.string (bs X), .int .i64 G, .slice ua T.length uc] 24 0 (.string (bs X)) rfl _ rfl
    have a1 := cell_new w2 #[.string (bs X), .int .i64 G, .slice ua T.length uc] 24 1 (.int .i64 G) rfl _ rfl
    have a2 := cell_new w2 #[.string (bs X), .int .i64 G, .slice ua T.length uc] 24 2 (.slice ua T.length uc) rfl _ rfl
    have ha3 : w2.heap.size < (w2.alloc (.cells #[.string (bs X), .int .i64 G, .slice ua T.length uc] 24)).heap.size := by simp
    have hT40 : T.length ≤ 140737488355328 := by
      rcases hcase with ⟨_, _, _, h, _⟩ | ⟨_, _, _, h⟩
      · rw [h, ins_len]; omega
      · rw [h]; simp
    have hRf : ∀ W, Below (w2.alloc (.cells #[.string (bs X), .int .i64 G, .slice ua T.length uc] 24)).heap.size (w2.alloc (.cells #[.string (bs X), .int .i64 G, .slice ua T.length uc] 24)) W → Calls Tryd.prog 11 #[.agg #[.string (bs x), .int .i64 g, .slice va l.length vc]] W fun e W' => (∃ ra rc, e = .returned (.agg #[.string (bs x), .int .i64 g, .slice ra l.length rc]) ∧ Tp W' (.slice ra l.length rc) l) ∧ Below W.heap.size W W' := by
      intro W hW
      refine (ref_any (bs x) g l _ W (by omega) (hv3.below hW (Nat.le_refl _)).tl).mono ?_
      rintro e w' ⟨u, rfl, h1, h2⟩
      obtain ⟨ra, rc, rfl⟩ := h1.tl.slice
      exact ⟨⟨ra, rc, rfl, h1⟩, h2⟩
    have hAd : ∀ W ra rc, Tl W (.slice ra l.length rc) l → Calls Tryd.prog 10 #[.agg #[.string (bs x), .int .i64 g, .slice ra l.length rc], .agg #[.int .i64 sg, .int .i64 sn], .string (bs st), .string (bs tg)] W fun e W' => (∃ ta tc, e = .returned (.tuple #[.agg #[.string (bs X), .int .i64 G, .slice ta T.length tc], .int .i64 R]) ∧ Tp W' (.slice ta T.length tc) T ∧ ∀ k, (Value.slice ta T.length tc).ownBlock = some k → T ≠ [] → W.heap.size ≤ k) ∧ Below W.heap.size W W' := by
      intro W ra rc hT
      refine (rAdd_any x g l _ sg sn st tg W (by omega) hT).mono ?_
      rw [hR]
      rintro e w' ⟨X', G', T', u, rfl, h1, h2, h3⟩
      have hh : X' = X ∧ G' = G ∧ T' = T ∧ ∀ k, u.ownBlock = some k → T ≠ [] → W.heap.size ≤ k := by
        rcases hcase with ⟨z, rfl, rfl, rfl, _⟩ | ⟨z, rfl, rfl, rfl⟩
        · rcases h1 with ⟨_, rfl, rfl, rfl, hf⟩ | ⟨z2, _⟩
          · exact ⟨rfl, rfl, rfl, fun k hk _ => hf k hk⟩
          · exact absurd z z2
        · rcases h1 with ⟨z2, _⟩ | ⟨_, rfl, rfl, rfl⟩
          · exact absurd z2 z
          · exact ⟨rfl, rfl, rfl, fun k hk h => absurd rfl h⟩
      obtain ⟨rfl, rfl, rfl, hf⟩ := hh
      obtain ⟨ta, tc, rfl⟩ := h2.tl.slice
      exact ⟨⟨ta, tc, rfl, h2, hf⟩, h3⟩
    clear hcase hR hTp hv1 hv
    go_wp2_with fail
    have n0 := (h13.cell (p := ⟨w.heap.size, 0, none⟩) (by show w.heap.size < w1.heap.size; omega)).trans k0
    have n1 := (h13.cell (p := ⟨w.heap.size, 1, none⟩) (by show w.heap.size < w1.heap.size; omega)).trans k1
    have n2 := (h13.cell (p := ⟨w.heap.size, 2, none⟩) (by show w.heap.size < w1.heap.size; omega)).trans k2
    have n3 := (h13.cell (p := ⟨w.heap.size + 1, 0, none⟩) (by show w.heap.size + 1 < w1.heap.size; omega)).trans m0
    have n4 := (h13.cell (p := ⟨w.heap.size + 1, 1, none⟩) (by show w.heap.size + 1 < w1.heap.size; omega)).trans m1
    have n5 := (h13.cell (p := ⟨w.heap.size + 1, 2, none⟩) (by show w.heap.size + 1 < w1.heap.size; omega)).trans m2
    have n6 := (h13.cell (p := ⟨w.heap.size + 1, 3, none⟩) (by show w.heap.size + 1 < w1.heap.size; omega)).trans m3
    obtain ⟨W3, hW3e⟩ : ∃ W, (w2.alloc (.cells #[.string (bs X), .int .i64 G, .slice ua T.length uc] 24)) = W := ⟨_, rfl⟩
    rw [hW3e] at hW3 h13 he3 hv3 hTA a0 a1 a2 ha3 hRf n0 n1 n2 n3 n4 n5 n6 ⊢
    clear hW3e
    have e0 := World.new_ne W3 _ n0
    have e1 := World.new_ne W3 _ n1
    have e2 := World.new_ne W3 _ n2
    have e3 := World.new_ne W3 _ n3
    have e4 := World.new_ne W3 _ n4
    have e5 := World.new_ne W3 _ n5
    have e6 := World.new_ne W3 _ n6
    go_region_held3 (fun w' => w'.cell? ⟨w.heap.size, 0, none⟩ = some (.string (bs x)) ∧ w'.cell? ⟨w.heap.size, 1, none⟩ = some (.int .i64 g) ∧ w'.cell? ⟨w.heap.size, 2, none⟩ = some (.slice va l.length vc) ∧ w'.cell? ⟨w.heap.size + 1, 0, none⟩ = some (.int .i64 sg) ∧ w'.cell? ⟨w.heap.size + 1, 1, none⟩ = some (.int .i64 sn) ∧ w'.cell? ⟨w.heap.size + 1, 2, none⟩ = some (.string (bs st)) ∧ w'.cell? ⟨w.heap.size + 1, 3, none⟩ = some (.string (bs tg))) (go_keep)
      (first
        | (go_at_call 11; refine (hRf W3.drew (below_drew (Below.refl _ _))).mono ?_; rintro e w4 ⟨⟨ra, rc, rfl, hT4⟩, hb5⟩; have hB4 : Below W3.heap.size W3 w4 := (below_drew (Below.refl W3.heap.size W3)).trans hb5; have hB14 := h13.trans (hB4.mono h13.size); have p0 := (hB14.cell (p := ⟨w.heap.size, 0, none⟩) (by show w.heap.size < w1.heap.size; omega)).trans k0; have p1 := (hB14.cell (p := ⟨w.heap.size, 1, none⟩) (by show w.heap.size < w1.heap.size; omega)).trans k1; have p2 := (hB14.cell (p := ⟨w.heap.size, 2, none⟩) (by show w.heap.size < w1.heap.size; omega)).trans k2; have p3 := (hB14.cell (p := ⟨w.heap.size + 1, 0, none⟩) (by show w.heap.size + 1 < w1.heap.size; omega)).trans m0; have p4 := (hB14.cell (p := ⟨w.heap.size + 1, 1, none⟩) (by show w.heap.size + 1 < w1.heap.size; omega)).trans m1; have p5 := (hB14.cell (p := ⟨w.heap.size + 1, 2, none⟩) (by show w.heap.size + 1 < w1.heap.size; omega)).trans m2; have p6 := (hB14.cell (p := ⟨w.heap.size + 1, 3, none⟩) (by show w.heap.size + 1 < w1.heap.size; omega)).trans m3; have q0 := World.new_ne w4 _ p0; have q1 := World.new_ne w4 _ p1; have q2 := World.new_ne w4 _ p2; have q3 := World.new_ne w4 _ p3; have q4 := World.new_ne w4 _ p4; have q5 := World.new_ne w4 _ p5; have q6 := World.new_ne w4 _ p6)
        | (go_at_call 11; refine (hRf (W3.drew.alloc (.cells #[.string ⟨#[]⟩, .int .i64 0, .slice none 0 0] 36)) ((below_drew (Below.refl _ _)).alloc (Nat.le_refl _) _)).mono ?_; rintro e w4 ⟨⟨ra, rc, rfl, hT4⟩, hb5⟩; have hB4 : Below W3.heap.size W3 w4 := ((below_drew (Below.refl W3.heap.size W3)).alloc (Nat.le_refl _) (.cells #[.string ⟨#[]⟩, .int .i64 0, .slice none 0 0] 36)).trans (hb5.mono (by show W3.heap.size ≤ (W3.drew.alloc (.cells #[.string ⟨#[]⟩, .int .i64 0, .slice none 0 0] 36)).heap.size; simp)); have hB14 := h13.trans (hB4.mono h13.size); have p0 := (hB14.cell (p := ⟨w.heap.size, 0, none⟩) (by show w.heap.size < w1.heap.size; omega)).trans k0; have p1 := (hB14.cell (p := ⟨w.heap.size, 1, none⟩) (by show w.heap.size < w1.heap.size; omega)).trans k1; have p2 := (hB14.cell (p := ⟨w.heap.size, 2, none⟩) (by show w.heap.size < w1.heap.size; omega)).trans k2; have p3 := (hB14.cell (p := ⟨w.heap.size + 1, 0, none⟩) (by show w.heap.size + 1 < w1.heap.size; omega)).trans m0; have p4 := (hB14.cell (p := ⟨w.heap.size + 1, 1, none⟩) (by show w.heap.size + 1 < w1.heap.size; omega)).trans m1; have p5 := (hB14.cell (p := ⟨w.heap.size + 1, 2, none⟩) (by show w.heap.size + 1 < w1.heap.size; omega)).trans m2; have p6 := (hB14.cell (p := ⟨w.heap.size + 1, 3, none⟩) (by show w.heap.size + 1 < w1.heap.size; omega)).trans m3; have q0 := World.new_ne w4 _ p0; have q1 := World.new_ne w4 _ p1; have q2 := World.new_ne w4 _ p2; have q3 := World.new_ne w4 _ p3; have q4 := World.new_ne w4 _ p4; have q5 := World.new_ne w4 _ p5; have q6 := World.new_ne w4 _ p6; have rz4 : w4.heap[W3.heap.size]? = some (.cells #[.string ⟨#[]⟩, .int .i64 0, .slice none 0 0] 36) := (hb5.block W3.heap.size (by show W3.heap.size < (W3.drew.alloc (.cells #[.string ⟨#[]⟩, .int .i64 0, .slice none 0 0] 36)).heap.size; simp)).trans (heap_alloc_new W3.drew (.cells #[.string ⟨#[]⟩, .int .i64 0, .slice none 0 0] 36)); have hz4 : W3.heap.size < w4.heap.size := (Array.getElem?_eq_some_iff.1 rz4).1)
        | (go_at_call 10; refine (hAd w4 ra rc hT4.tl).mono ?_; rintro e w5 ⟨⟨ta, tc, rfl, hT5, hf5⟩, hb6⟩; have hB5 : Below W3.heap.size W3 w5 := hB4.trans (hb6.mono hB4.size); have hB15 := h13.trans (hB5.mono h13.size); have t0 := (hB15.cell (p := ⟨w.heap.size, 0, none⟩) (by show w.heap.size < w1.heap.size; omega)).trans k0; have t1 := (hB15.cell (p := ⟨w.heap.size, 1, none⟩) (by show w.heap.size < w1.heap.size; omega)).trans k1; have t2 := (hB15.cell (p := ⟨w.heap.size, 2, none⟩) (by show w.heap.size < w1.heap.size; omega)).trans k2; have t3 := (hB15.cell (p := ⟨w.heap.size + 1, 0, none⟩) (by show w.heap.size + 1 < w1.heap.size; omega)).trans m0; have t4 := (hB15.cell (p := ⟨w.heap.size + 1, 1, none⟩) (by show w.heap.size + 1 < w1.heap.size; omega)).trans m1; have t5 := (hB15.cell (p := ⟨w.heap.size + 1, 2, none⟩) (by show w.heap.size + 1 < w1.heap.size; omega)).trans m2; have t6 := (hB15.cell (p := ⟨w.heap.size + 1, 3, none⟩) (by show w.heap.size + 1 < w1.heap.size; omega)).trans m3; have o0 := World.new_ne w5 _ t0; have o1 := World.new_ne w5 _ t1; have o2 := World.new_ne w5 _ t2; have o3 := World.new_ne w5 _ t3; have o4 := World.new_ne w5 _ t4; have o5 := World.new_ne w5 _ t5; have o6 := World.new_ne w5 _ t6; try (have rz5 := (hb6.block W3.heap.size hz4).trans rz4; have f1 := frozen_block rz5 0; have f2 := frozen_block rz5 1; have f3 := frozen_block rz5 2; have s1 := cell_block rz5 0 _ rfl; have s2 := cell_block rz5 1 _ rfl; have s3 := cell_block rz5 2 _ rfl))
        | (go_at_call 10; refine (hAd (w4.alloc (.cells #[.string ⟨#[]⟩, .int .i64 0, .slice none 0 0] 36)) ra rc (hT4.below ((Below.refl w4.heap.size w4).alloc (Nat.le_refl _) (.cells #[.string ⟨#[]⟩, .int .i64 0, .slice none 0 0] 36)) (Nat.le_refl _)).tl).mono ?_; rintro e w5 ⟨⟨ta, tc, rfl, hT5, hf5⟩, hb6⟩; have hB5 : Below W3.heap.size W3 w5 := (hB4.alloc hB4.size (.cells #[.string ⟨#[]⟩, .int .i64 0, .slice none 0 0] 36)).trans (hb6.mono (Nat.le_trans hB4.size (by simp))); have hB15 := h13.trans (hB5.mono h13.size); have t0 := (hB15.cell (p := ⟨w.heap.size, 0, none⟩) (by show w.heap.size < w1.heap.size; omega)).trans k0; have t1 := (hB15.cell (p := ⟨w.heap.size, 1, none⟩) (by show w.heap.size < w1.heap.size; omega)).trans k1; have t2 := (hB15.cell (p := ⟨w.heap.size, 2, none⟩) (by show w.heap.size < w1.heap.size; omega)).trans k2; have t3 := (hB15.cell (p := ⟨w.heap.size + 1, 0, none⟩) (by show w.heap.size + 1 < w1.heap.size; omega)).trans m0; have t4 := (hB15.cell (p := ⟨w.heap.size + 1, 1, none⟩) (by show w.heap.size + 1 < w1.heap.size; omega)).trans m1; have t5 := (hB15.cell (p := ⟨w.heap.size + 1, 2, none⟩) (by show w.heap.size + 1 < w1.heap.size; omega)).trans m2; have t6 := (hB15.cell (p := ⟨w.heap.size + 1, 3, none⟩) (by show w.heap.size + 1 < w1.heap.size; omega)).trans m3; have o0 := World.new_ne w5 _ t0; have o1 := World.new_ne w5 _ t1; have o2 := World.new_ne w5 _ t2; have o3 := World.new_ne w5 _ t3; have o4 := World.new_ne w5 _ t4; have o5 := World.new_ne w5 _ t5; have o6 := World.new_ne w5 _ t6; have rz5 : w5.heap[w4.heap.size]? = some (.cells #[.string ⟨#[]⟩, .int .i64 0, .slice none 0 0] 36) := (hb6.block w4.heap.size (by simp)).trans (heap_alloc_new w4 (.cells #[.string ⟨#[]⟩, .int .i64 0, .slice none 0 0] 36)); have f1 := frozen_block rz5 0; have f2 := frozen_block rz5 1; have f3 := frozen_block rz5 2; have s1 := cell_block rz5 0 _ rfl; have s2 := cell_block rz5 1 _ rfl; have s3 := cell_block rz5 2 _ rfl))
    all_goals
      have hz5 := hB5.size
      have hz13 := h13.size
      have hz01 := hB1.size
      first
      | (have g0 := cell_new w5 #[.string (bs X), .int .i64 G, .slice ta T.length tc] 36 0 (.string (bs X)) rfl _ rfl
         have g1 := cell_new w5 #[.string (bs X), .int .i64 G, .slice ta T.length tc] 36 1 (.int .i64 G) rfl _ rfl
         have g2 := cell_new w5 #[.string (bs X), .int .i64 G, .slice ta T.length tc] 36 2 (.slice ta T.length tc) rfl _ rfl
         have hba := (Below.refl w5.heap.size w5).alloc (Nat.le_refl _) (.cells #[.string (bs X), .int .i64 G, .slice ta T.length tc] 36)
         have hB6 := hB5.alloc hB5.size (.cells #[.string (bs X), .int .i64 G, .slice ta T.length tc] 36)
         have b0 := (hB6.cell (p := ⟨w2.heap.size, 0, none⟩) ha3).trans a0
         have b1 := (hB6.cell (p := ⟨w2.heap.size, 1, none⟩) ha3).trans a1
         have b2 := (hB6.cell (p := ⟨w2.heap.size, 2, none⟩) ha3).trans a2
         have t6 := hTA.below hB6 (Nat.le_refl _)
         have u6 := hT5.below hba (Nat.le_refl _)
         have b6 : Below w.heap.size w (w5.alloc (.cells #[.string (bs X), .int .i64 G, .slice ta T.length tc] 36)) := hW3.trans (hB6.mono hW3.size)
         obtain ⟨W6, hW6⟩ : ∃ W, (w5.alloc (.cells #[.string (bs X), .int .i64 G, .slice ta T.length tc] 36)) = W := ⟨_, rfl⟩
         rw [hW6] at g0 g1 g2 b0 b1 b2 t6 u6 b6
         rw [hW6]
         clear hW6 hba hB6
         obtain ⟨DB, hDB⟩ : ∃ n, w5.heap.size = n := ⟨_, rfl⟩
         rw [hDB] at g0 g1 g2 ⊢)
      | (have hr := set3 rz5 (.string (bs X)) (.int .i64 G) (.slice ta T.length tc)
         have g0 := cell_block hr 0 (.string (bs X)) rfl
         have g1 := cell_block hr 1 (.int .i64 G) rfl
         have g2 := cell_block hr 2 (.slice ta T.length tc) rfl
         have hne : w2.heap.size ≠ W3.heap.size := (by omega)
         have b0 := ((((cell_other (p := ⟨w2.heap.size, 0, none⟩) hne 2 (.slice ta T.length tc)).trans (cell_other hne 1 (.int .i64 G))).trans (cell_other hne 0 (.string (bs X)))).trans (hB5.cell (p := ⟨w2.heap.size, 0, none⟩) ha3)).trans a0
         have b1 := ((((cell_other (p := ⟨w2.heap.size, 1, none⟩) hne 2 (.slice ta T.length tc)).trans (cell_other hne 1 (.int .i64 G))).trans (cell_other hne 0 (.string (bs X)))).trans (hB5.cell (p := ⟨w2.heap.size, 1, none⟩) ha3)).trans a1
         have b2 := ((((cell_other (p := ⟨w2.heap.size, 2, none⟩) hne 2 (.slice ta T.length tc)).trans (cell_other hne 1 (.int .i64 G))).trans (cell_other hne 0 (.string (bs X)))).trans (hB5.cell (p := ⟨w2.heap.size, 2, none⟩) ha3)).trans a2
         have hfa : ∀ k, (Value.slice ua T.length uc).ownBlock = some k → T ≠ [] → k ≠ W3.heap.size := (fun k hk hn => by have h9 := hTA.lt hn k hk; omega)
         have hfb : ∀ k, (Value.slice ta T.length tc).ownBlock = some k → T ≠ [] → k ≠ W3.heap.size := (fun k hk hn => by have h9 := hf5 k hk hn; have h8 : w4.heap.size ≤ k := h9; omega)
         have t6 := (((hTA.below hB5 (Nat.le_refl _)).setB hfa 0 (.string (bs X))).setB hfa 1 (.int .i64 G)).setB hfa 2 (.slice ta T.length tc)
         have u6 := ((hT5.setB hfb 0 (.string (bs X))).setB hfb 1 (.int .i64 G)).setB hfb 2 (.slice ta T.length tc)
         have hB35 : Below w.heap.size w w5 := hW3.trans (hB5.mono hW3.size)
         have hle : w.heap.size ≤ W3.heap.size := (by omega)
         have b6 := ((hB35.setCell (p := ⟨W3.heap.size, 0, none⟩) hle (.string (bs X))).setCell (p := ⟨W3.heap.size, 1, none⟩) hle (.int .i64 G)).setCell (p := ⟨W3.heap.size, 2, none⟩) hle (.slice ta T.length tc)
         obtain ⟨W6, hW6⟩ : ∃ W, (((w5.setCell ⟨W3.heap.size, 0, none⟩ (.string (bs X))).setCell ⟨W3.heap.size, 1, none⟩ (.int .i64 G)).setCell ⟨W3.heap.size, 2, none⟩ (.slice ta T.length tc)) = W := ⟨_, rfl⟩
         rw [hW6] at g0 g1 g2 b0 b1 b2 t6 u6 b6
         rw [hW6]
         clear hW6 hr hne hfa hfb
         obtain ⟨DB, hDB⟩ : ∃ n, W3.heap.size = n := ⟨_, rfl⟩
         rw [hDB] at g0 g1 g2 ⊢)
      | (have hr := set3 rz5 (.string (bs X)) (.int .i64 G) (.slice ta T.length tc)
         have g0 := cell_block hr 0 (.string (bs X)) rfl
         have g1 := cell_block hr 1 (.int .i64 G) rfl
         have g2 := cell_block hr 2 (.slice ta T.length tc) rfl
         have hne : w2.heap.size ≠ w4.heap.size := (by have h7 := hB4.size; omega)
         have b0 := ((((cell_other (p := ⟨w2.heap.size, 0, none⟩) hne 2 (.slice ta T.length tc)).trans (cell_other hne 1 (.int .i64 G))).trans (cell_other hne 0 (.string (bs X)))).trans (hB5.cell (p := ⟨w2.heap.size, 0, none⟩) ha3)).trans a0
         have b1 := ((((cell_other (p := ⟨w2.heap.size, 1, none⟩) hne 2 (.slice ta T.length tc)).trans (cell_other hne 1 (.int .i64 G))).trans (cell_other hne 0 (.string (bs X)))).trans (hB5.cell (p := ⟨w2.heap.size, 1, none⟩) ha3)).trans a1
         have b2 := ((((cell_other (p := ⟨w2.heap.size, 2, none⟩) hne 2 (.slice ta T.length tc)).trans (cell_other hne 1 (.int .i64 G))).trans (cell_other hne 0 (.string (bs X)))).trans (hB5.cell (p := ⟨w2.heap.size, 2, none⟩) ha3)).trans a2
         have hfa : ∀ k, (Value.slice ua T.length uc).ownBlock = some k → T ≠ [] → k ≠ w4.heap.size := (fun k hk hn => by have h9 := hTA.lt hn k hk; have h7 := hB4.size; omega)
         have hfb : ∀ k, (Value.slice ta T.length tc).ownBlock = some k → T ≠ [] → k ≠ w4.heap.size := (fun k hk hn => by have h9 := hf5 k hk hn; have h8 : (w4.alloc (.cells #[.string ⟨#[]⟩, .int .i64 0, .slice none 0 0] 36)).heap.size ≤ k := h9; simp at h8; omega)
         have t6 := (((hTA.below hB5 (Nat.le_refl _)).setB hfa 0 (.string (bs X))).setB hfa 1 (.int .i64 G)).setB hfa 2 (.slice ta T.length tc)
         have u6 := ((hT5.setB hfb 0 (.string (bs X))).setB hfb 1 (.int .i64 G)).setB hfb 2 (.slice ta T.length tc)
         have hB35 : Below w.heap.size w w5 := hW3.trans (hB5.mono hW3.size)
         have hle : w.heap.size ≤ w4.heap.size := (by have h7 := hB4.size; omega)
         have b6 := ((hB35.setCell (p := ⟨w4.heap.size, 0, none⟩) hle (.string (bs X))).setCell (p := ⟨w4.heap.size, 1, none⟩) hle (.int .i64 G)).setCell (p := ⟨w4.heap.size, 2, none⟩) hle (.slice ta T.length tc)
         obtain ⟨W6, hW6⟩ : ∃ W, (((w5.setCell ⟨w4.heap.size, 0, none⟩ (.string (bs X))).setCell ⟨w4.heap.size, 1, none⟩ (.int .i64 G)).setCell ⟨w4.heap.size, 2, none⟩ (.slice ta T.length tc)) = W := ⟨_, rfl⟩
         rw [hW6] at g0 g1 g2 b0 b1 b2 t6 u6 b6
         rw [hW6]
         clear hW6 hr hne hfa hfb
         obtain ⟨DB, hDB⟩ : ∃ n, w4.heap.size = n := ⟨_, rfl⟩
         rw [hDB] at g0 g1 g2 ⊢)
    all_goals
      have he6 := he.next b6
      clear a0 a1 a2 hTA hT5
      go_wp2_with (first
        | (go_at_call 12; refine (same_any X G T _ _ W6 hT40 t6.tl u6.tl).mono ?_; rintro e w7 ⟨rfl, hb7⟩)
        | (go_at_call 8; refine (one4_any w7 (he6.next hb7)).mono ?_; rintro e w8 ⟨rfl, hb8⟩))
      go_ret
      exact ⟨rfl, (b6.trans (hb7.mono b6.size)).trans (hb8.mono (Nat.le_trans b6.size hb7.size))⟩
end Go.Proofs.YtoniohmceaflnabDoor
