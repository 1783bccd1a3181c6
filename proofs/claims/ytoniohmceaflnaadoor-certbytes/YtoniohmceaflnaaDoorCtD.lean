import Derived.Test.YtoniohmceaflnaaDoorCtC
namespace Go.Proofs.YtoniohmceaflnaaDoor
open Go.RowKit
attribute [local go_sem ↓] Go.wp_at_zero Go.wp_at_succ

/-- Why a tag can't be added, whoever's tags are there. -/
def addFL (x : List UInt8) (g : Int) (l : List Tg) (sg sn : Int) (st tg : List UInt8) : Int :=
  if faultL g l ≠ 0 then faultL g l else if ¬ isP sg sn then 1 else if sg ≠ g then 41 else if st ≠ x ∨ tg.length ≠ 16 then 4 else 0
theorem str_same (a : List UInt8) : ((bs a).toList == (bs a).toList) = true := by simp
theorem str_other {a b : List UInt8} (h : a ≠ b) : ((bs a).toList == (bs b).toList) = false := str_ne (fun e => h (bs_inj e))

theorem cell_new (w : World) (cs : Array Value) (t : TypeId) (j : Nat) (u : Value) (h : cs[j]? = some u) (B : Nat) (hB : w.heap.size = B) : (w.alloc (.cells cs t)).cell? ⟨B, j, none⟩ = some u := by
  subst hB
  have hh := heap_alloc_new w (.cells cs t)
  unfold World.cell?
  simp only [hh]
  exact h
set_option maxRecDepth 20000 in
set_option maxHeartbeats 2000000 in
theorem addFault_any (x : List UInt8) (g : Int) (l : List Tg) (v : Value) (sg sn : Int) (st tg : List UInt8) (w : World) (hll : l.length ≤ 140737488355328) (he : EnvP w) (hv : Tl w v l) :
    Calls Tryd.prog 59 #[.agg #[.string (bs x), .int .i64 g, v], .agg #[.int .i64 sg, .int .i64 sn, .string (bs st), .string (bs tg)]] w fun e W' => e = .returned (.int .i64 (addFL x g l sg sn st tg)) ∧ Below w.heap.size w W' := by
  obtain ⟨va, vc, rfl⟩ := hv.slice
  have hB0 : Below w.heap.size w (w.alloc (.cells #[.string (bs x), .int .i64 g, .slice va l.length vc] 58)) := (Below.refl _ w).alloc (Nat.le_refl _) _
  have hBa := hB0.alloc hB0.size (.cells #[.int .i64 sg, .int .i64 sn, .string (bs st), .string (bs tg)] 36)
  have hBb : Below (w.heap.size + 1) (w.alloc (.cells #[.string (bs x), .int .i64 g, .slice va l.length vc] 58)) ((w.alloc (.cells #[.string (bs x), .int .i64 g, .slice va l.length vc] 58)).alloc (.cells #[.int .i64 sg, .int .i64 sn, .string (bs st), .string (bs tg)] 36)) := (Below.refl _ _).alloc (by simp) _
  have c0 := (hBb.cell (p := ⟨w.heap.size, 0, none⟩) (by simp)).trans (cell_new w _ 58 0 _ rfl _ rfl)
  have c1 := (hBb.cell (p := ⟨w.heap.size, 1, none⟩) (by simp)).trans (cell_new w _ 58 1 _ rfl _ rfl)
  have d0 := cell_new (w.alloc (.cells #[.string (bs x), .int .i64 g, .slice va l.length vc] 58)) #[.int .i64 sg, .int .i64 sn, .string (bs st), .string (bs tg)] 36 0 _ rfl (w.heap.size + 1) (by simp)
  have d1 := cell_new (w.alloc (.cells #[.string (bs x), .int .i64 g, .slice va l.length vc] 58)) #[.int .i64 sg, .int .i64 sn, .string (bs st), .string (bs tg)] 36 1 _ rfl (w.heap.size + 1) (by simp)
  have d2 := cell_new (w.alloc (.cells #[.string (bs x), .int .i64 g, .slice va l.length vc] 58)) #[.int .i64 sg, .int .i64 sn, .string (bs st), .string (bs tg)] 36 2 _ rfl (w.heap.size + 1) (by simp)
  have d3 := cell_new (w.alloc (.cells #[.string (bs x), .int .i64 g, .slice va l.length vc] 58)) #[.int .i64 sg, .int .i64 sn, .string (bs st), .string (bs tg)] 36 3 _ rfl (w.heap.size + 1) (by simp)
  have hz : w.heap.size + 2 ≤ ((w.alloc (.cells #[.string (bs x), .int .i64 g, .slice va l.length vc] 58)).alloc (.cells #[.int .i64 sg, .int .i64 sn, .string (bs st), .string (bs tg)] 36)).heap.size := by simp
  have hfa := fault_any (bs x) g l _ _ hll (hv.below hBa (Nat.le_refl _))
  have hea := he.next hBa
  clear hB0 hBb
  obtain ⟨R, hR⟩ : ∃ R, addFL x g l sg sn st tg = R := ⟨_, rfl⟩
  rw [hR]
  have HR : Hid (addFL x g l sg sn st tg = R) := hR
  clear hR
  by_cases hf : faultL g l = 0
  · rw [hf] at hfa
    have HF : Hid (faultL g l = 0) := hf
    clear hf
    go_enter Tryd.func59, Tryd.ntmps59
    go_wp2_with fail
    refine hfa.mono ?_
    clear hfa
    rintro e w1 ⟨rfl, hb1⟩
    have hB1 := hBa.trans (hb1.mono hBa.size)
    have k0 := (hb1.cell (p := ⟨w.heap.size, 0, none⟩) (by show w.heap.size < _; omega)).trans c0
    have k1 := (hb1.cell (p := ⟨w.heap.size, 1, none⟩) (by show w.heap.size < _; omega)).trans c1
    have m0 := (hb1.cell (p := ⟨w.heap.size + 1, 0, none⟩) (by show w.heap.size + 1 < _; omega)).trans d0
    have m1 := (hb1.cell (p := ⟨w.heap.size + 1, 1, none⟩) (by show w.heap.size + 1 < _; omega)).trans d1
    have m2 := (hb1.cell (p := ⟨w.heap.size + 1, 2, none⟩) (by show w.heap.size + 1 < _; omega)).trans d2
    have m3 := (hb1.cell (p := ⟨w.heap.size + 1, 3, none⟩) (by show w.heap.size + 1 < _; omega)).trans d3
    have hz1 := Nat.le_trans hz hb1.size
    have he1 := hea.next hb1
    have hN := Name_any sg sn w1 he1
    clear c0 c1 d0 d1 d2 d3 hb1 hea hBa hz
    by_cases hp : isP sg sn
    · have e1 : nameE sg sn = 0 := if_pos hp
      rw [e1] at hN
      have HP : Hid (isP sg sn) := hp
      clear e1 hp
      obtain ⟨NV, hNV⟩ : ∃ NV, nameV sg sn = NV := ⟨_, rfl⟩
      rw [hNV] at hN
      clear hNV
      go_wp2_with fail
      refine hN.mono ?_
      clear hN
      rintro e w2 ⟨rfl, hb2⟩
      have hB2 := hB1.trans (hb2.mono hB1.size)
      have k0' := (hb2.cell (p := ⟨w.heap.size, 0, none⟩) (by show w.heap.size < _; omega)).trans k0
      have k1' := (hb2.cell (p := ⟨w.heap.size, 1, none⟩) (by show w.heap.size < _; omega)).trans k1
      have m0' := (hb2.cell (p := ⟨w.heap.size + 1, 0, none⟩) (by show w.heap.size + 1 < _; omega)).trans m0
      have m2' := (hb2.cell (p := ⟨w.heap.size + 1, 2, none⟩) (by show w.heap.size + 1 < _; omega)).trans m2
      have m3' := (hb2.cell (p := ⟨w.heap.size + 1, 3, none⟩) (by show w.heap.size + 1 < _; omega)).trans m3
      clear k0 k1 m0 m1 m2 m3 hb2 he1 hB1
      by_cases c1 : sg = g
      · subst c1
        by_cases c2 : st = x
        · subst c2
          have q2 := str_same st
          by_cases c3 : tg.length = 16
          · have q3 : (((bs tg).size : Int) != 16) = false := by rw [bs_size, c3]; rfl
            go_wp2
            go_ret
            have e4 : R = 0 := by rw [← HR.out]; simp [addFL, HF.out, HP.out, c3]
            rw [e4]
            exact ⟨rfl, hB2⟩
          · have q3 : (((bs tg).size : Int) != 16) = true := by rw [bs_size]; simp; omega
            go_wp2
            go_ret
            have e4 : R = 4 := by rw [← HR.out]; simp [addFL, HF.out, HP.out, c3]
            rw [e4]
            exact ⟨rfl, hB2⟩
        · have q2 := str_other c2
          go_wp2
          go_ret
          have e4 : R = 4 := by rw [← HR.out]; simp [addFL, HF.out, HP.out, c2]
          rw [e4]
          exact ⟨rfl, hB2⟩
      · have q1 : (sg != g) = true := by simpa using c1
        go_wp2
        go_ret
        have e4 : R = 41 := by rw [← HR.out]; simp [addFL, HF.out, HP.out, c1]
        rw [e4]
        exact ⟨rfl, hB2⟩
    · have e1 : nameE sg sn = 1 := if_neg hp
      have e2 : nameV sg sn = [] := if_neg hp
      rw [e1, e2] at hN
      have HP : Hid (¬ isP sg sn) := hp
      clear e1 e2 hp
      go_wp2_with fail
      refine hN.mono ?_
      rintro e w2 ⟨rfl, hb2⟩
      have hB2 := hB1.trans (hb2.mono hB1.size)
      go_wp2
      go_ret
      have e4 : R = 1 := by rw [← HR.out, addFL, if_neg (by simp [HF.out]), if_pos HP.out]
      rw [e4]
      exact ⟨rfl, hB2⟩
  · have hq : (faultL g l != 0) = true := by simpa using hf
    have e4 : R = faultL g l := by rw [← HR.out, addFL, if_pos hf]
    rw [e4]
    obtain ⟨E, hE⟩ : ∃ E, faultL g l = E := ⟨_, rfl⟩
    rw [hE] at hq hfa ⊢
    clear hE hf HR e4
    go_enter Tryd.func59, Tryd.ntmps59
    go_wp2_with fail
    refine hfa.mono ?_
    rintro e w1 ⟨rfl, hb1⟩
    have hB1 := hBa.trans (hb1.mono hBa.size)
    go_wp2
    go_ret
    exact ⟨rfl, hB1⟩
end Go.Proofs.YtoniohmceaflnaaDoor
