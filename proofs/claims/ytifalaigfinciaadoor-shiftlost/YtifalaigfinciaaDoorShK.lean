/- Nothing settled is lost: where the case is one. -/
import Derived.Test.YtifalaigfinciaaDoorShI
namespace Go.Proofs.YtifalaigfinciaaDoor
open Go.RowKit
attribute [local go_sem ↓] Go.wp_at_zero Go.wp_at_succ

set_option maxRecDepth 20000 in
set_option maxHeartbeats 2000000 in
theorem lost_few1 (f : Nat) (F : Int) (hFf : F = f) (Bad Held In V O : Int) (m : Nat) (batch other : List UInt8) (w : World) (he : Env w)
    (hf : f ≤ 3) (v0 : 0 ≤ V) (v1 : V ≤ 1000) (hm : m ≤ 7) (o0 : 0 ≤ O) (o1 : O < V) (hbl : batch.length ≤ 9000) (hol : other.length ≤ 9000)
    (hfw : f < cntB Bad (3 * f + 1)) :
    Calls Tryd.prog 4 #[.agg #[.int .i64 F, .int .i64 Bad, .int .i64 Held, .int .i64 In, .int .i64 V, .int .i64 ((m : Int) + 1), .int .i64 O], .string (bs batch), .string (bs other)] w fun e W' => e = .returned (.bool true) ∧ Below w.heap.size w W' := by
  have hba := (Below.refl w.heap.size w).alloc (Nat.le_refl _) (.cells #[.int .i64 F, .int .i64 Bad, .int .i64 Held, .int .i64 In, .int .i64 V, .int .i64 ((m : Int) + 1), .int .i64 O] 49)
  have rP := heap_alloc_new w (.cells #[.int .i64 F, .int .i64 Bad, .int .i64 Held, .int .i64 In, .int .i64 V, .int .i64 ((m : Int) + 1), .int .i64 O] 49)
  have s1 : (bs batch).size = batch.length := bs_size _
  have s2 : (bs other).size = other.length := bs_size _
  have hbit : ∀ (s : Int) (W : World), Calls Tryd.prog 14 #[.int .i64 s, .int .i64 (3 * F + 1)] W fun e W' => e = .returned (.int .i64 (cntB s (3 * f + 1))) ∧ W' = W := fun s W => by
    have := bits_any s (3 * f + 1) (by omega) W
    rw [show ((3 * f + 1 : Nat) : Int) = 3 * F + 1 by omega] at this
    exact this
  have HFi : Hid (∀ W, Below w.heap.size w W → Calls Tryd.prog 7 #[] W fun e W' => e = .returned (.bool true) ∧ Below w.heap.size w W') := fun W hW => by
    refine (fills_any W (he.next hW)).mono ?_
    rintro e W' ⟨rfl, hb⟩
    exact ⟨rfl, hW.trans (hb.mono hW.size)⟩
  have h0 : 0 ≤ F := by omega
  have h1 : F ≤ 3 := by omega
  have d0 : decide (F < 0) = false := decide_eq_false (by omega)
  have d1 : decide (3 < F) = false := decide_eq_false (by omega)
  have d2 : decide (V < 0) = false := decide_eq_false (by omega)
  have d3 : decide (1000 < V) = false := decide_eq_false (by omega)
  have d4 : decide ((m : Int) + 1 < 1) = false := decide_eq_false (by omega)
  have d5 : decide (8 < (m : Int) + 1) = false := decide_eq_false (by omega)
  have d6 : decide (O < 0) = false := decide_eq_false (by omega)
  have d7 : decide (V ≤ O) = false := decide_eq_false (by omega)
  have d8 : decide ((9000 : Int) < (batch.length : Int)) = false := decide_eq_false (by omega)
  have d9 : decide ((9000 : Int) < (other.length : Int)) = false := decide_eq_false (by omega)
  obtain ⟨W0, hW0⟩ : ∃ W, w.alloc (.cells #[.int .i64 F, .int .i64 Bad, .int .i64 Held, .int .i64 In, .int .i64 V, .int .i64 ((m : Int) + 1), .int .i64 O] 49) = W := ⟨_, rfl⟩
  have HW : Hid (w.alloc (.cells #[.int .i64 F, .int .i64 Bad, .int .i64 Held, .int .i64 In, .int .i64 V, .int .i64 ((m : Int) + 1), .int .i64 O] 49) = W0) := hW0
  rw [hW0] at hba rP
  have hlP := (Array.getElem?_eq_some_iff.1 rP).1
  obtain ⟨P, hP⟩ : ∃ P, w.heap.size = P := ⟨_, rfl⟩
  have HP : Hid (w.heap.size = P) := hP
  rw [hP] at rP hlP
  have HK : Hid (∀ W, Below W0.heap.size W0 W → (W.cell? ⟨P, 0, none⟩ = some (.int .i64 F) ∧ W.cell? ⟨P, 1, none⟩ = some (.int .i64 Bad) ∧ W.cell? ⟨P, 2, none⟩ = some (.int .i64 Held) ∧ W.cell? ⟨P, 3, none⟩ = some (.int .i64 In) ∧ W.cell? ⟨P, 4, none⟩ = some (.int .i64 V) ∧ W.cell? ⟨P, 5, none⟩ = some (.int .i64 ((m : Int) + 1)) ∧ W.cell? ⟨P, 6, none⟩ = some (.int .i64 O))) := fun W hb => by
    have r := (hb.block _ hlP).trans rP
    exact ⟨cellB r 0 _ rfl, cellB r 1 _ rfl, cellB r 2 _ rfl, cellB r 3 _ rfl, cellB r 4 _ rfl, cellB r 5 _ rfl, cellB r 6 _ rfl⟩
  obtain ⟨k0, k1, k2, k3, k4, k5, k6⟩ := HK.out W0 (Below.refl _ _)
  have HBa : Hid (_) := hba
  obtain ⟨cS, hcS⟩ : ∃ cS : Int → Int, ∀ s, (cntB s (3 * f + 1) : Int) = cS s := ⟨fun s => (cntB s (3 * f + 1) : Int), fun _ => rfl⟩
  have hcB := hcS Bad
  have hcH := hcS Held
  have hcI := hcS In
  have hb1 : ∀ (s : Int) (W : World), Calls Tryd.prog 14 #[.int .i64 s, .int .i64 (3 * F + 1)] W fun e W' => e = .returned (.int .i64 (cS s)) ∧ W' = W := fun s W => by
    have := hbit s W
    rw [hcS] at this
    exact this
  have q1 : decide (F < cS Bad) = true := decide_eq_true (by omega)
  clear hfw hcS hcB hcH hcI hbit hW0 hba rP hP hFf hf hm HK v0 v1 o0 o1 hbl hol
  go_enter Tryd.func4, Tryd.ntmps4
  go_upto_region 1 with fail
  rw [HW.out, HP.out]
  clear HW
  go_upto_region 4 with fail
  go_big_quiet (first | (go_at_call 14; refine Calls.quiet_of_same (hb1 _ _)))
  have hF := HFi.out (W0.drewN nq) (below_drewN HBa.out nq)
  clear hb1
  go_wp2_with (first | (go_at_call 7; refine hF.mono ?_; clear hF; rintro e w1 ⟨rfl, hb1⟩))
  exact bodyPost_ret (v := .bool true) (by simp [results, Tryd.f4, go_sem]) rfl ⟨rfl, hb1⟩
set_option maxRecDepth 20000 in
set_option maxHeartbeats 2000000 in
theorem lost_few2 (f : Nat) (F : Int) (hFf : F = f) (Bad Held In V O : Int) (m : Nat) (batch other : List UInt8) (w : World) (he : Env w)
    (hf : f ≤ 3) (v0 : 0 ≤ V) (v1 : V ≤ 1000) (hm : m ≤ 7) (o0 : 0 ≤ O) (o1 : O < V) (hbl : batch.length ≤ 9000) (hol : other.length ≤ 9000)
    (hfw : cntB Bad (3 * f + 1) ≤ f) (hfw2 : cntB Held (3 * f + 1) < 2 * f + 1) :
    Calls Tryd.prog 4 #[.agg #[.int .i64 F, .int .i64 Bad, .int .i64 Held, .int .i64 In, .int .i64 V, .int .i64 ((m : Int) + 1), .int .i64 O], .string (bs batch), .string (bs other)] w fun e W' => e = .returned (.bool true) ∧ Below w.heap.size w W' := by
  have hba := (Below.refl w.heap.size w).alloc (Nat.le_refl _) (.cells #[.int .i64 F, .int .i64 Bad, .int .i64 Held, .int .i64 In, .int .i64 V, .int .i64 ((m : Int) + 1), .int .i64 O] 49)
  have rP := heap_alloc_new w (.cells #[.int .i64 F, .int .i64 Bad, .int .i64 Held, .int .i64 In, .int .i64 V, .int .i64 ((m : Int) + 1), .int .i64 O] 49)
  have s1 : (bs batch).size = batch.length := bs_size _
  have s2 : (bs other).size = other.length := bs_size _
  have hbit : ∀ (s : Int) (W : World), Calls Tryd.prog 14 #[.int .i64 s, .int .i64 (3 * F + 1)] W fun e W' => e = .returned (.int .i64 (cntB s (3 * f + 1))) ∧ W' = W := fun s W => by
    have := bits_any s (3 * f + 1) (by omega) W
    rw [show ((3 * f + 1 : Nat) : Int) = 3 * F + 1 by omega] at this
    exact this
  have HFi : Hid (∀ W, Below w.heap.size w W → Calls Tryd.prog 7 #[] W fun e W' => e = .returned (.bool true) ∧ Below w.heap.size w W') := fun W hW => by
    refine (fills_any W (he.next hW)).mono ?_
    rintro e W' ⟨rfl, hb⟩
    exact ⟨rfl, hW.trans (hb.mono hW.size)⟩
  have h0 : 0 ≤ F := by omega
  have h1 : F ≤ 3 := by omega
  have d0 : decide (F < 0) = false := decide_eq_false (by omega)
  have d1 : decide (3 < F) = false := decide_eq_false (by omega)
  have d2 : decide (V < 0) = false := decide_eq_false (by omega)
  have d3 : decide (1000 < V) = false := decide_eq_false (by omega)
  have d4 : decide ((m : Int) + 1 < 1) = false := decide_eq_false (by omega)
  have d5 : decide (8 < (m : Int) + 1) = false := decide_eq_false (by omega)
  have d6 : decide (O < 0) = false := decide_eq_false (by omega)
  have d7 : decide (V ≤ O) = false := decide_eq_false (by omega)
  have d8 : decide ((9000 : Int) < (batch.length : Int)) = false := decide_eq_false (by omega)
  have d9 : decide ((9000 : Int) < (other.length : Int)) = false := decide_eq_false (by omega)
  obtain ⟨W0, hW0⟩ : ∃ W, w.alloc (.cells #[.int .i64 F, .int .i64 Bad, .int .i64 Held, .int .i64 In, .int .i64 V, .int .i64 ((m : Int) + 1), .int .i64 O] 49) = W := ⟨_, rfl⟩
  have HW : Hid (w.alloc (.cells #[.int .i64 F, .int .i64 Bad, .int .i64 Held, .int .i64 In, .int .i64 V, .int .i64 ((m : Int) + 1), .int .i64 O] 49) = W0) := hW0
  rw [hW0] at hba rP
  have hlP := (Array.getElem?_eq_some_iff.1 rP).1
  obtain ⟨P, hP⟩ : ∃ P, w.heap.size = P := ⟨_, rfl⟩
  have HP : Hid (w.heap.size = P) := hP
  rw [hP] at rP hlP
  have HK : Hid (∀ W, Below W0.heap.size W0 W → (W.cell? ⟨P, 0, none⟩ = some (.int .i64 F) ∧ W.cell? ⟨P, 1, none⟩ = some (.int .i64 Bad) ∧ W.cell? ⟨P, 2, none⟩ = some (.int .i64 Held) ∧ W.cell? ⟨P, 3, none⟩ = some (.int .i64 In) ∧ W.cell? ⟨P, 4, none⟩ = some (.int .i64 V) ∧ W.cell? ⟨P, 5, none⟩ = some (.int .i64 ((m : Int) + 1)) ∧ W.cell? ⟨P, 6, none⟩ = some (.int .i64 O))) := fun W hb => by
    have r := (hb.block _ hlP).trans rP
    exact ⟨cellB r 0 _ rfl, cellB r 1 _ rfl, cellB r 2 _ rfl, cellB r 3 _ rfl, cellB r 4 _ rfl, cellB r 5 _ rfl, cellB r 6 _ rfl⟩
  obtain ⟨k0, k1, k2, k3, k4, k5, k6⟩ := HK.out W0 (Below.refl _ _)
  have HBa : Hid (_) := hba
  obtain ⟨cS, hcS⟩ : ∃ cS : Int → Int, ∀ s, (cntB s (3 * f + 1) : Int) = cS s := ⟨fun s => (cntB s (3 * f + 1) : Int), fun _ => rfl⟩
  have hcB := hcS Bad
  have hcH := hcS Held
  have hcI := hcS In
  have hb1 : ∀ (s : Int) (W : World), Calls Tryd.prog 14 #[.int .i64 s, .int .i64 (3 * F + 1)] W fun e W' => e = .returned (.int .i64 (cS s)) ∧ W' = W := fun s W => by
    have := hbit s W
    rw [hcS] at this
    exact this
  have q1 : decide (F < cS Bad) = false := decide_eq_false (by omega)
  have q2 : decide (cS Held < 2 * F + 1) = true := decide_eq_true (by omega)
  clear hfw hfw2 hcS hcB hcH hcI hbit hW0 hba rP hP hFf hf hm HK v0 v1 o0 o1 hbl hol
  go_enter Tryd.func4, Tryd.ntmps4
  go_upto_region 1 with fail
  rw [HW.out, HP.out]
  clear HW
  go_upto_region 4 with fail
  go_big_quiet (first | (go_at_call 14; refine Calls.quiet_of_same (hb1 _ _)))
  have hF := HFi.out (W0.drewN nq) (below_drewN HBa.out nq)
  clear hb1
  go_wp2_with (first | (go_at_call 7; refine hF.mono ?_; clear hF; rintro e w1 ⟨rfl, hb1⟩))
  exact bodyPost_ret (v := .bool true) (by simp [results, Tryd.f4, go_sem]) rfl ⟨rfl, hb1⟩
set_option maxRecDepth 20000 in
set_option maxHeartbeats 2000000 in
theorem lost_few3 (f : Nat) (F : Int) (hFf : F = f) (Bad Held In V O : Int) (m : Nat) (batch other : List UInt8) (w : World) (he : Env w)
    (hf : f ≤ 3) (v0 : 0 ≤ V) (v1 : V ≤ 1000) (hm : m ≤ 7) (o0 : 0 ≤ O) (o1 : O < V) (hbl : batch.length ≤ 9000) (hol : other.length ≤ 9000)
    (hfw : cntB Bad (3 * f + 1) ≤ f) (hfw2 : 2 * f + 1 ≤ cntB Held (3 * f + 1)) (hfw3 : cntB In (3 * f + 1) < 2 * f + 1) :
    Calls Tryd.prog 4 #[.agg #[.int .i64 F, .int .i64 Bad, .int .i64 Held, .int .i64 In, .int .i64 V, .int .i64 ((m : Int) + 1), .int .i64 O], .string (bs batch), .string (bs other)] w fun e W' => e = .returned (.bool true) ∧ Below w.heap.size w W' := by
  have hba := (Below.refl w.heap.size w).alloc (Nat.le_refl _) (.cells #[.int .i64 F, .int .i64 Bad, .int .i64 Held, .int .i64 In, .int .i64 V, .int .i64 ((m : Int) + 1), .int .i64 O] 49)
  have rP := heap_alloc_new w (.cells #[.int .i64 F, .int .i64 Bad, .int .i64 Held, .int .i64 In, .int .i64 V, .int .i64 ((m : Int) + 1), .int .i64 O] 49)
  have s1 : (bs batch).size = batch.length := bs_size _
  have s2 : (bs other).size = other.length := bs_size _
  have hbit : ∀ (s : Int) (W : World), Calls Tryd.prog 14 #[.int .i64 s, .int .i64 (3 * F + 1)] W fun e W' => e = .returned (.int .i64 (cntB s (3 * f + 1))) ∧ W' = W := fun s W => by
    have := bits_any s (3 * f + 1) (by omega) W
    rw [show ((3 * f + 1 : Nat) : Int) = 3 * F + 1 by omega] at this
    exact this
  have HFi : Hid (∀ W, Below w.heap.size w W → Calls Tryd.prog 7 #[] W fun e W' => e = .returned (.bool true) ∧ Below w.heap.size w W') := fun W hW => by
    refine (fills_any W (he.next hW)).mono ?_
    rintro e W' ⟨rfl, hb⟩
    exact ⟨rfl, hW.trans (hb.mono hW.size)⟩
  have h0 : 0 ≤ F := by omega
  have h1 : F ≤ 3 := by omega
  have d0 : decide (F < 0) = false := decide_eq_false (by omega)
  have d1 : decide (3 < F) = false := decide_eq_false (by omega)
  have d2 : decide (V < 0) = false := decide_eq_false (by omega)
  have d3 : decide (1000 < V) = false := decide_eq_false (by omega)
  have d4 : decide ((m : Int) + 1 < 1) = false := decide_eq_false (by omega)
  have d5 : decide (8 < (m : Int) + 1) = false := decide_eq_false (by omega)
  have d6 : decide (O < 0) = false := decide_eq_false (by omega)
  have d7 : decide (V ≤ O) = false := decide_eq_false (by omega)
  have d8 : decide ((9000 : Int) < (batch.length : Int)) = false := decide_eq_false (by omega)
  have d9 : decide ((9000 : Int) < (other.length : Int)) = false := decide_eq_false (by omega)
  obtain ⟨W0, hW0⟩ : ∃ W, w.alloc (.cells #[.int .i64 F, .int .i64 Bad, .int .i64 Held, .int .i64 In, .int .i64 V, .int .i64 ((m : Int) + 1), .int .i64 O] 49) = W := ⟨_, rfl⟩
  have HW : Hid (w.alloc (.cells #[.int .i64 F, .int .i64 Bad, .int .i64 Held, .int .i64 In, .int .i64 V, .int .i64 ((m : Int) + 1), .int .i64 O] 49) = W0) := hW0
  rw [hW0] at hba rP
  have hlP := (Array.getElem?_eq_some_iff.1 rP).1
  obtain ⟨P, hP⟩ : ∃ P, w.heap.size = P := ⟨_, rfl⟩
  have HP : Hid (w.heap.size = P) := hP
  rw [hP] at rP hlP
  have HK : Hid (∀ W, Below W0.heap.size W0 W → (W.cell? ⟨P, 0, none⟩ = some (.int .i64 F) ∧ W.cell? ⟨P, 1, none⟩ = some (.int .i64 Bad) ∧ W.cell? ⟨P, 2, none⟩ = some (.int .i64 Held) ∧ W.cell? ⟨P, 3, none⟩ = some (.int .i64 In) ∧ W.cell? ⟨P, 4, none⟩ = some (.int .i64 V) ∧ W.cell? ⟨P, 5, none⟩ = some (.int .i64 ((m : Int) + 1)) ∧ W.cell? ⟨P, 6, none⟩ = some (.int .i64 O))) := fun W hb => by
    have r := (hb.block _ hlP).trans rP
    exact ⟨cellB r 0 _ rfl, cellB r 1 _ rfl, cellB r 2 _ rfl, cellB r 3 _ rfl, cellB r 4 _ rfl, cellB r 5 _ rfl, cellB r 6 _ rfl⟩
  obtain ⟨k0, k1, k2, k3, k4, k5, k6⟩ := HK.out W0 (Below.refl _ _)
  have HBa : Hid (_) := hba
  obtain ⟨cS, hcS⟩ : ∃ cS : Int → Int, ∀ s, (cntB s (3 * f + 1) : Int) = cS s := ⟨fun s => (cntB s (3 * f + 1) : Int), fun _ => rfl⟩
  have hcB := hcS Bad
  have hcH := hcS Held
  have hcI := hcS In
  have hb1 : ∀ (s : Int) (W : World), Calls Tryd.prog 14 #[.int .i64 s, .int .i64 (3 * F + 1)] W fun e W' => e = .returned (.int .i64 (cS s)) ∧ W' = W := fun s W => by
    have := hbit s W
    rw [hcS] at this
    exact this
  have q1 : decide (F < cS Bad) = false := decide_eq_false (by omega)
  have q2 : decide (cS Held < 2 * F + 1) = false := decide_eq_false (by omega)
  have q3 : decide (cS In < 2 * F + 1) = true := decide_eq_true (by omega)
  clear hfw hfw2 hfw3 hcS hcB hcH hcI hbit hW0 hba rP hP hFf hf hm HK v0 v1 o0 o1 hbl hol
  go_enter Tryd.func4, Tryd.ntmps4
  go_upto_region 1 with fail
  rw [HW.out, HP.out]
  clear HW
  go_upto_region 4 with fail
  go_big_quiet (first | (go_at_call 14; refine Calls.quiet_of_same (hb1 _ _)))
  have hF := HFi.out (W0.drewN nq) (below_drewN HBa.out nq)
  clear hb1
  go_wp2_with (first | (go_at_call 7; refine hF.mono ?_; clear hF; rintro e w1 ⟨rfl, hb1⟩))
  exact bodyPost_ret (v := .bool true) (by simp [results, Tryd.f4, go_sem]) rfl ⟨rfl, hb1⟩
end Go.Proofs.YtifalaigfinciaaDoor
