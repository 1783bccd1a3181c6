/- The law's small case of bells, walked. -/
import Derived.Test.YtemmnojcickcpaaBeK
namespace Go.Proofs.Ytemmnojcickcpaa
open Go.RowKit
attribute [local go_sem ↓] Go.wp_at_zero Go.wp_at_succ

theorem mcs_map (P : List Tm) : mcs P = (P.map (·.1)).map fun n => Value.int .i64 n := by simp [mcs]
theorem Il_mcs {w : World} {u : Value} {P : List Tm} {base : Nat} (h : w.ownsRow base 3 1 u P.length (mcs P)) : Il w u (P.map (·.1)) :=
  Il.of_owns (base := base) (by rw [List.length_map, ← mcs_map]; exact h)
def F3 : Ft := upd (upd (upd (fun _ => none) 3 (some (5, 5))) 1 (some (5, 5))) 2 (some (4, 4))
theorem rings3 : Rings F3 5 [(2, 4, 4), (1, 5, 5), (3, 5, 5)] := by
  refine ⟨fun n d s => ?_, by simp [lessB]⟩
  unfold F3 upd
  simp only [List.mem_cons, List.not_mem_nil, or_false, Prod.mk.injEq]
  by_cases e2 : n = 2
  · subst e2; simp; omega
  · by_cases e1 : n = 1
    · subst e1; simp; omega
    · by_cases e3 : n = 3
      · subst e3; simp; omega
      · simp [e1, e2, e3]
set_option maxRecDepth 20000 in
set_option maxHeartbeats 4000000 in
theorem three_any (w : World) : Calls Try.prog 23 #[] w fun e W' => e = .returned (.bool true) ∧ Below w.heap.size w W' := by
  have hN := New_any w
  go_enter Try.func23, Try.ntmps23
  go_wp2_with fail
  refine hN.mono ?_
  rintro e w1 ⟨rfl, rfl⟩
  have h0 := BelSt.new w w.heap.size (Nat.le_refl _)
  have hB0 : Below w.heap.size w (w.alloc (.cells #[.slice none 0 0, .int .i64 0] 75)) := (Below.refl _ w).alloc (Nat.le_refl _) _
  obtain ⟨W1, hW1⟩ : ∃ W, w.alloc (.cells #[.slice none 0 0, .int .i64 0] 75) = W := ⟨_, rfl⟩
  rw [hW1] at h0 hB0 ⊢
  obtain ⟨B, hB⟩ : ∃ B, w.heap.size = B := ⟨_, rfl⟩
  have HB : Hid (w.heap.size = B) := hB
  rw [hB] at h0 hB0
  rw [show (⟨w.heap.size, 0, none⟩ : Addr) = ⟨B, 0, none⟩ by rw [hB]]
  clear hW1 hN hB
  have hS1 := Set_ok h0 3 5 (by decide) (by decide) (by decide) (by decide) (by decide)
  go_wp2_with fail
  refine hS1.mono ?_
  rintro e w2 ⟨rfl, v2, h2, hm2⟩
  have hB2 := hB0.trans (h0.bel hm2 (Nat.le_refl _))
  have hS2 := Set_ok h2 1 5 (by decide) (by decide) (by decide) (by decide) (by decide)
  clear hS1 h0 hm2 hB0
  go_wp2_with fail
  refine hS2.mono ?_
  rintro e w3 ⟨rfl, v3, h3, hm3⟩
  have hB3 := hB2.trans (h2.bel hm3 (Nat.le_refl _))
  have hS3 := Set_ok h3 2 4 (by decide) (by decide) (by decide) (by decide) (by decide)
  clear hS2 h2 hm3 hB2
  go_wp2_with fail
  refine hS3.mono ?_
  rintro e w4 ⟨rfl, v4, h4, hm4⟩
  have hB4 := hB3.trans (h3.bel hm4 (Nat.le_refl _))
  have h4' : BelSt B w4 B v4 F3 0 := h4
  have hT := Tick_ok h4' 5 (by decide) (by decide) (by decide) (by decide)
  clear hS3 h3 hm4 hB3 h4
  go_wp2_with fail
  refine hT.mono ?_
  rintro e w5 ⟨u, P, v5, rfl, hrow, hri, h5, hm5⟩
  have hP : P = [(2, 4, 4), (1, 5, 5), (3, 5, 5)] := hri.eq rings3
  subst hP
  have hB5 := hB4.trans (h4'.bel hm5 (Nat.le_refl _))
  have hIl := Il_mcs hrow
  clear hT hri hrow h4' hm5 hB4
  obtain ⟨ua, uc, rfl⟩ := hIl.slice
  have hba : Below w5.heap.size w5 (w5.alloc (.cells #[.int .i64 2, .int .i64 1, .int .i64 3] 3)) := (Below.refl _ _).alloc (Nat.le_refl _) _
  have hI2 : Il (w5.alloc (.cells #[.int .i64 2, .int .i64 1, .int .i64 3] 3)) (.slice (some ⟨w5.heap.size, 0, none⟩) 3 3) [2, 1, 3] := by
    refine .inr ⟨w5.heap.size, 0, 3, rfl, by simp, fun i n hn => ?_⟩
    have hh := heap_alloc_new w5 (.cells #[.int .i64 2, .int .i64 1, .int .i64 3] 3)
    rw [Nat.zero_add]
    match i, hn with
    | 0, hn => simp at hn; subst hn; exact cellB hh 0 _ rfl
    | 1, hn => simp at hn; subst hn; exact cellB hh 1 _ rfl
    | 2, hn => simp at hn; subst hn; exact cellB hh 2 _ rfl
    | i + 3, hn => simp at hn
  have hI := Ints_any [2, 1, 3] _ _ _ (hIl.below hba (Nat.le_refl _)) hI2 (by decide)
  have h6 := h5.next hba
  have hNw : ∀ W, Below (w5.alloc (.cells #[.int .i64 2, .int .i64 1, .int .i64 3] 3)).heap.size (w5.alloc (.cells #[.int .i64 2, .int .i64 1, .int .i64 3] 3)) W → Calls Try.prog 29 #[.pointer (some ⟨B, 0, none⟩)] W fun e W' => e = .returned (.int .i64 5) ∧ W' = W := fun W hW => Now_any (h6.next hW)
  clear hIl hI2
  go_wp2_with (first
    | (go_at_call 36; refine hI.mono ?_; rintro e w7 ⟨rfl, hb7⟩)
    | (go_at_call 29; refine (hNw _ hb7).mono ?_; rintro e w8 ⟨rfl, hz⟩; subst hz))
  go_ret
  have hle : B ≤ w5.heap.size := Nat.le_trans h5.base (Nat.le_of_lt h5.lt)
  exact ⟨rfl, by rw [HB.out]; exact (hB5.trans (hba.mono hle)).trans (hb7.mono (Nat.le_trans hle hba.size))⟩
end Go.Proofs.Ytemmnojcickcpaa
