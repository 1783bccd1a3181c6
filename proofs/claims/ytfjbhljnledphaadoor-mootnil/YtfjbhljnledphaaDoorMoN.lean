/- Moots: a nil moot, walked. -/
import Derived.Test.YtfjbhljnledphaaDoorMoE
namespace Go.Proofs.YtfjbhljnledphaaDoor
open Go.RowKit
attribute [local go_sem ↓] Go.wp_at_zero Go.wp_at_succ

theorem isA_t {c n : Int} (h : isA c n = true) : 0 ≤ c ∧ c ≤ 7 ∧ 1 ≤ n ∧ n ≤ 1099511627776 := by
  unfold isA at h
  rw [Bool.and_eq_true] at h
  obtain ⟨a, b⟩ := wi_t h.1
  obtain ⟨c, d⟩ := wi_t h.2
  exact ⟨a, b, c, d⟩
theorem MDo_nil (c n k g s : Int) (w : World) :
    Calls Tryd.prog 4 #[.pointer none, .int .i64 c, .int .i64 n, .agg #[.int .i64 k, .int .i64 g, .int .i64 s]] w fun e W' => e = .returned (.tuple #[.int .i64 0, .bool false, .int .i64 (if isA c n = true then 7 else 1)]) ∧ Below w.heap.size w W' := by
  cases hA : isA c n with
  | false => exact MDo_bad c n k g s none w hA
  | true =>
    have hb0 : Below w.heap.size w (w.alloc (.cells #[.int .i64 k, .int .i64 g, .int .i64 s] 23)) := (Below.refl _ w).alloc (Nat.le_refl _) _
    have hI := fun W => isAsker_any c n W
    rw [hA] at hI
    rw [if_pos rfl]
    clear hA
    go_enter Tryd.func4, Tryd.ntmps4
    go_wp2_with (go_at_call 9; refine (hI _).mono ?_; rintro e w1 ⟨rfl, h9⟩; subst w1)
    exact bodyPost_ret (v := .tuple #[.int .i64 0, .bool false, .int .i64 7]) (by simp [results, Tryd.f4, go_sem]) rfl ⟨rfl, hb0⟩
set_option maxRecDepth 20000 in
theorem MGet_nil (n : Int) (w : World) : Calls Tryd.prog 5 #[.pointer none, .int .i64 n] w fun e W' => e = .returned (.tuple #[.agg (cf 0 (.slice none 0 0) 0 0 0 0), .int .i64 6]) ∧ Below w.heap.size w W' := by
  have hb0 : Below w.heap.size w (w.alloc (.cells (cf 0 (.slice none 0 0) 0 0 0 0) 33)) := (Below.refl _ w).alloc (Nat.le_refl _) _
  have r0 := heap_alloc_new w (.cells (cf 0 (.slice none 0 0) 0 0 0 0) 33)
  obtain ⟨W0, hW0⟩ : ∃ W, w.alloc (.cells (cf 0 (.slice none 0 0) 0 0 0 0) 33) = W := ⟨_, rfl⟩
  rw [hW0] at hb0 r0
  have HV : Hid (w.alloc (.cells (cf 0 (.slice none 0 0) 0 0 0 0) 33) = W0) := hW0
  have R0 : Hid (W0.heap[w.heap.size]? = some (.cells (cf 0 (.slice none 0 0) 0 0 0 0) 33)) := r0
  clear hW0 r0
  go_enter Tryd.func5, Tryd.ntmps5
  go_upto_region 1 with fail
  rw [HV.out]
  clear HV
  go_wp2_with (first
    | (refine wpList_store_mid rfl 33 _ _ rfl w.heap.size 0 (cf 0 (.slice none 0 0) 0 0 0 0) rfl rfl (blk_there R0.out 0 6 (Nat.le_refl _)) Tryd.size33 (cf_ones _ _ _ _ _ _ _ _) ?_))
  have k4 := blk_range (blk_set R0.out (L := cfL 0 (.slice none 0 0) 0 0 0 0) rfl)
  exact bodyPost_ret (v := .tuple #[.agg (cf 0 (.slice none 0 0) 0 0 0 0), .int .i64 6]) (results_two rfl rfl rfl (res25 k4 rfl)) rfl ⟨rfl, blk_below (Nat.le_refl _) _ _ _ hb0⟩
set_option maxRecDepth 20000 in
theorem MLast_nil (w : World) : Calls Tryd.prog 6 #[.pointer none] w fun e W' => e = .returned (.agg (cf 0 (.slice none 0 0) 0 0 0 0)) ∧ Below w.heap.size w W' := by
  have hb0 : Below w.heap.size w (w.alloc (.cells (cf 0 (.slice none 0 0) 0 0 0 0) 33)) := (Below.refl _ w).alloc (Nat.le_refl _) _
  have r0 := heap_alloc_new w (.cells (cf 0 (.slice none 0 0) 0 0 0 0) 33)
  obtain ⟨W0, hW0⟩ : ∃ W, w.alloc (.cells (cf 0 (.slice none 0 0) 0 0 0 0) 33) = W := ⟨_, rfl⟩
  rw [hW0] at hb0 r0
  have HV : Hid (w.alloc (.cells (cf 0 (.slice none 0 0) 0 0 0 0) 33) = W0) := hW0
  have R0 : Hid (W0.heap[w.heap.size]? = some (.cells (cf 0 (.slice none 0 0) 0 0 0 0) 33)) := r0
  clear hW0 r0
  go_enter Tryd.func6, Tryd.ntmps6
  go_upto_region 1 with fail
  rw [HV.out]
  clear HV
  go_wp2_with (first
    | (refine wpList_store_mid rfl 33 _ _ rfl w.heap.size 0 (cf 0 (.slice none 0 0) 0 0 0 0) rfl rfl (blk_there R0.out 0 6 (Nat.le_refl _)) Tryd.size33 (cf_ones _ _ _ _ _ _ _ _) ?_))
  have k4 := blk_range (blk_set R0.out (L := cfL 0 (.slice none 0 0) 0 0 0 0) rfl)
  exact bodyPost_ret (v := .agg (cf 0 (.slice none 0 0) 0 0 0 0)) (results_one rfl rfl (res25 k4 rfl)) rfl ⟨rfl, blk_below (Nat.le_refl _) _ _ _ hb0⟩
theorem MText_nil (w : World) : Calls Tryd.prog 7 #[.pointer none] w fun e W' => e = .returned (.string ⟨#[]⟩) ∧ Below w.heap.size w W' := by
  have hb0 := Below.refl w.heap.size w
  go_enter Tryd.func7, Tryd.ntmps7
  go_wp2
  go_ret
  exact ⟨rfl, hb0⟩
set_option maxRecDepth 20000 in
set_option maxHeartbeats 4000000 in
theorem mnil_any (c n k g s : Int) (w : World) :
    Calls Tryd.prog 3 #[.agg #[.int .i64 c, .int .i64 n, .int .i64 k, .int .i64 g, .int .i64 s]] w fun e W' => e = .returned (.bool true) ∧ Below w.heap.size w W' := by
  have hG := fun W => MGet_nil n W
  have hD := fun W => MDo_nil c n k g s W
  have hL := fun W => MLast_nil W
  have hX := fun W => MText_nil W
  have hT := fun W => one_any W
  have hb0 : Below w.heap.size w (w.alloc (.cells #[.int .i64 c, .int .i64 n, .int .i64 k, .int .i64 g, .int .i64 s] 25)) := (Below.refl _ w).alloc (Nat.le_refl _) _
  have r0 := heap_alloc_new w (.cells #[.int .i64 c, .int .i64 n, .int .i64 k, .int .i64 g, .int .i64 s] 25)
  obtain ⟨W0, hW0⟩ : ∃ W, w.alloc (.cells #[.int .i64 c, .int .i64 n, .int .i64 k, .int .i64 g, .int .i64 s] 25) = W := ⟨_, rfl⟩
  have hsz : w.heap.size < W0.heap.size := by rw [← hW0]; simp
  rw [hW0] at hb0 r0
  have HV : Hid (w.alloc (.cells #[.int .i64 c, .int .i64 n, .int .i64 k, .int .i64 g, .int .i64 s] 25) = W0) := hW0
  have x0 := cellB r0 0 _ rfl
  have x1 := cellB r0 1 _ rfl
  have x2 := cellB r0 2 _ rfl
  have x3 := cellB r0 3 _ rfl
  have x4 := cellB r0 4 _ rfl
  have HB : Hid (Below w.heap.size w W0 ∧ W0.heap[w.heap.size]? = some (.cells #[.int .i64 c, .int .i64 n, .int .i64 k, .int .i64 g, .int .i64 s] 25) ∧ w.heap.size < W0.heap.size) := ⟨hb0, r0, hsz⟩
  obtain ⟨E, hE⟩ : ∃ E, isA c n = E := ⟨_, rfl⟩
  rw [hE] at hD
  have HE : Hid (isA c n = E) := hE
  clear hW0 r0 hb0 hsz hE
  go_enter Tryd.func3, Tryd.ntmps3
  go_upto_region 2 with fail
  rw [HV.out]
  clear HV
  obtain ⟨F, hF⟩ : ∃ F : Int, (if E = true then 7 else 1) = F := ⟨_, rfl⟩
  rw [hF] at hD
  have HF : Hid ((if E = true then 7 else 1) = F) := hF
  clear hF
  go_upto_region 3 with (first
    | (go_at_call 4; refine (hD _).mono ?_; rintro e w1 ⟨rfl, hb1⟩; have H1 : Hid (Below W0.heap.size W0 w1) := hb1; clear hb1))
  clear x0 x1 x2 x3 x4 hD
  obtain ⟨hb0, r0, hsz⟩ := HB.out
  have r1 := (H1.out.block _ hsz).trans r0
  have hbw1 := hb0.trans (H1.out.mono hb0.size)
  have hsz1 : w.heap.size < w1.heap.size := Nat.lt_of_lt_of_le hsz H1.out.size
  have x0 := cellB r1 0 _ rfl
  have x1 := cellB r1 1 _ rfl
  have HB1 : Hid (Below w.heap.size w w1) := hbw1
  clear hb0 r0 hsz r1 hbw1 hsz1 HB H1
  have key : E = false ∧ (c < 0 ∨ (0 ≤ c ∧ 7 < c) ∨ (0 ≤ c ∧ c ≤ 7 ∧ n < 1) ∨ (0 ≤ c ∧ c ≤ 7 ∧ 1 ≤ n ∧ 1099511627776 < n)) ∨ E = true ∧ 0 ≤ c ∧ c ≤ 7 ∧ 1 ≤ n ∧ n ≤ 1099511627776 := by
    cases E with
    | true => exact .inr ⟨rfl, isA_t HE.out⟩
    | false =>
      refine .inl ⟨rfl, ?_⟩
      have h1 : ¬ (0 ≤ c ∧ c ≤ 7 ∧ 1 ≤ n ∧ n ≤ 1099511627776) := fun ⟨q1, q2, q3, q4⟩ => by
        have h2 := HE.out
        unfold isA wi at h2
        rw [decide_eq_true q1, decide_eq_true q2, decide_eq_true q3, decide_eq_true q4] at h2
        cases h2
      omega
  rcases key with ⟨rfl, q | ⟨q0, q⟩ | ⟨q0, q1, q⟩ | ⟨q0, q1, q2, q⟩⟩ | ⟨rfl, q0, q1, q2, q3⟩
  · have hFv : F = 1 := HF.out.symm
    subst hFv
    go_upto_region 5 with (first
      | (go_at_call 5; refine (hG _).mono ?_; rintro e w2 ⟨rfl, hb2⟩; have H2 : Hid (Below w1.heap.size w1 w2) := hb2; clear hb2))
    have hbA := HB1.out.trans ((H2.out.alloc H2.out.size (.cells (cf 0 (.slice none 0 0) 0 0 0 0) 33)).mono HB1.out.size)
    obtain ⟨W3, hW3⟩ : ∃ W, w2.alloc (.cells (cf 0 (.slice none 0 0) 0 0 0 0) 33) = W := ⟨_, rfl⟩
    rw [hW3] at hbA ⊢
    have HBA : Hid (Below w.heap.size w W3) := hbA
    have z3 : ∀ W, (Instr.field 33 (.agg (cf 0 (.slice none 0 0) 0 0 0 0)) 0).run Tryd.prog W = .ok (.int .i64 0) W := fun W => fld0 0 _ 0 0 0 0 W
    clear hW3 hbA H2 hG
    go_wp2_with (first
      | (go_at_call 6; refine (hL _).mono ?_; rintro e w4 ⟨rfl, hb4⟩; have hB4 := HBA.out.trans (hb4.mono HBA.out.size); clear hb4)
      | (go_at_call 7; refine (hX _).mono ?_; rintro e w5 ⟨rfl, hb5⟩; have hB5 := hB4.trans (hb5.mono hB4.size); clear hb5)
      | (go_at_call 8; refine (hT _).mono ?_; rintro e w6 ⟨rfl, hb6⟩; have hB6 := hB5.trans (hb6.mono hB5.size); clear hb6))
    go_ret
    exact ⟨rfl, hB6⟩
  · have q9 : ¬ c ≤ 7 := by omega
    have hFv : F = 1 := HF.out.symm
    subst hFv
    go_upto_region 5 with (first
      | (go_at_call 5; refine (hG _).mono ?_; rintro e w2 ⟨rfl, hb2⟩; have H2 : Hid (Below w1.heap.size w1 w2) := hb2; clear hb2))
    have hbA := HB1.out.trans ((H2.out.alloc H2.out.size (.cells (cf 0 (.slice none 0 0) 0 0 0 0) 33)).mono HB1.out.size)
    obtain ⟨W3, hW3⟩ : ∃ W, w2.alloc (.cells (cf 0 (.slice none 0 0) 0 0 0 0) 33) = W := ⟨_, rfl⟩
    rw [hW3] at hbA ⊢
    have HBA : Hid (Below w.heap.size w W3) := hbA
    have z3 : ∀ W, (Instr.field 33 (.agg (cf 0 (.slice none 0 0) 0 0 0 0)) 0).run Tryd.prog W = .ok (.int .i64 0) W := fun W => fld0 0 _ 0 0 0 0 W
    clear hW3 hbA H2 hG
    go_wp2_with (first
      | (go_at_call 6; refine (hL _).mono ?_; rintro e w4 ⟨rfl, hb4⟩; have hB4 := HBA.out.trans (hb4.mono HBA.out.size); clear hb4)
      | (go_at_call 7; refine (hX _).mono ?_; rintro e w5 ⟨rfl, hb5⟩; have hB5 := hB4.trans (hb5.mono hB4.size); clear hb5)
      | (go_at_call 8; refine (hT _).mono ?_; rintro e w6 ⟨rfl, hb6⟩; have hB6 := hB5.trans (hb6.mono hB5.size); clear hb6))
    go_ret
    exact ⟨rfl, hB6⟩
  · have q9 : ¬ 1 ≤ n := by omega
    have hFv : F = 1 := HF.out.symm
    subst hFv
    go_upto_region 5 with (first
      | (go_at_call 5; refine (hG _).mono ?_; rintro e w2 ⟨rfl, hb2⟩; have H2 : Hid (Below w1.heap.size w1 w2) := hb2; clear hb2))
    have hbA := HB1.out.trans ((H2.out.alloc H2.out.size (.cells (cf 0 (.slice none 0 0) 0 0 0 0) 33)).mono HB1.out.size)
    obtain ⟨W3, hW3⟩ : ∃ W, w2.alloc (.cells (cf 0 (.slice none 0 0) 0 0 0 0) 33) = W := ⟨_, rfl⟩
    rw [hW3] at hbA ⊢
    have HBA : Hid (Below w.heap.size w W3) := hbA
    have z3 : ∀ W, (Instr.field 33 (.agg (cf 0 (.slice none 0 0) 0 0 0 0)) 0).run Tryd.prog W = .ok (.int .i64 0) W := fun W => fld0 0 _ 0 0 0 0 W
    clear hW3 hbA H2 hG
    go_wp2_with (first
      | (go_at_call 6; refine (hL _).mono ?_; rintro e w4 ⟨rfl, hb4⟩; have hB4 := HBA.out.trans (hb4.mono HBA.out.size); clear hb4)
      | (go_at_call 7; refine (hX _).mono ?_; rintro e w5 ⟨rfl, hb5⟩; have hB5 := hB4.trans (hb5.mono hB4.size); clear hb5)
      | (go_at_call 8; refine (hT _).mono ?_; rintro e w6 ⟨rfl, hb6⟩; have hB6 := hB5.trans (hb6.mono hB5.size); clear hb6))
    go_ret
    exact ⟨rfl, hB6⟩
  · have q9 : ¬ n ≤ 1099511627776 := by omega
    have hFv : F = 1 := HF.out.symm
    subst hFv
    go_upto_region 5 with (first
      | (go_at_call 5; refine (hG _).mono ?_; rintro e w2 ⟨rfl, hb2⟩; have H2 : Hid (Below w1.heap.size w1 w2) := hb2; clear hb2))
    have hbA := HB1.out.trans ((H2.out.alloc H2.out.size (.cells (cf 0 (.slice none 0 0) 0 0 0 0) 33)).mono HB1.out.size)
    obtain ⟨W3, hW3⟩ : ∃ W, w2.alloc (.cells (cf 0 (.slice none 0 0) 0 0 0 0) 33) = W := ⟨_, rfl⟩
    rw [hW3] at hbA ⊢
    have HBA : Hid (Below w.heap.size w W3) := hbA
    have z3 : ∀ W, (Instr.field 33 (.agg (cf 0 (.slice none 0 0) 0 0 0 0)) 0).run Tryd.prog W = .ok (.int .i64 0) W := fun W => fld0 0 _ 0 0 0 0 W
    clear hW3 hbA H2 hG
    go_wp2_with (first
      | (go_at_call 6; refine (hL _).mono ?_; rintro e w4 ⟨rfl, hb4⟩; have hB4 := HBA.out.trans (hb4.mono HBA.out.size); clear hb4)
      | (go_at_call 7; refine (hX _).mono ?_; rintro e w5 ⟨rfl, hb5⟩; have hB5 := hB4.trans (hb5.mono hB4.size); clear hb5)
      | (go_at_call 8; refine (hT _).mono ?_; rintro e w6 ⟨rfl, hb6⟩; have hB6 := hB5.trans (hb6.mono hB5.size); clear hb6))
    go_ret
    exact ⟨rfl, hB6⟩
  · have hFv : F = 7 := HF.out.symm
    subst hFv
    go_upto_region 5 with (first
      | (go_at_call 5; refine (hG _).mono ?_; rintro e w2 ⟨rfl, hb2⟩; have H2 : Hid (Below w1.heap.size w1 w2) := hb2; clear hb2))
    have hbA := HB1.out.trans ((H2.out.alloc H2.out.size (.cells (cf 0 (.slice none 0 0) 0 0 0 0) 33)).mono HB1.out.size)
    obtain ⟨W3, hW3⟩ : ∃ W, w2.alloc (.cells (cf 0 (.slice none 0 0) 0 0 0 0) 33) = W := ⟨_, rfl⟩
    rw [hW3] at hbA ⊢
    have HBA : Hid (Below w.heap.size w W3) := hbA
    have z3 : ∀ W, (Instr.field 33 (.agg (cf 0 (.slice none 0 0) 0 0 0 0)) 0).run Tryd.prog W = .ok (.int .i64 0) W := fun W => fld0 0 _ 0 0 0 0 W
    clear hW3 hbA H2 hG
    go_wp2_with (first
      | (go_at_call 6; refine (hL _).mono ?_; rintro e w4 ⟨rfl, hb4⟩; have hB4 := HBA.out.trans (hb4.mono HBA.out.size); clear hb4)
      | (go_at_call 7; refine (hX _).mono ?_; rintro e w5 ⟨rfl, hb5⟩; have hB5 := hB4.trans (hb5.mono hB4.size); clear hb5)
      | (go_at_call 8; refine (hT _).mono ?_; rintro e w6 ⟨rfl, hb6⟩; have hB6 := hB5.trans (hb6.mono hB5.size); clear hb6))
    go_ret
    exact ⟨rfl, hB6⟩
end Go.Proofs.YtfjbhljnledphaaDoor
