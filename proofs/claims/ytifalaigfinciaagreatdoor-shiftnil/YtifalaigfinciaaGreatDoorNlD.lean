/- A nil ring checks no certificate, no mark and no best order. -/
import Derived.Test.YtifalaigfinciaaGreatDoorNlC
namespace Go.Proofs.YtifalaigfinciaaGreatDoor
open Go.RowKit
attribute [local go_sem ↓] Go.wp_at_zero Go.wp_at_succ

theorem Count_any (x : ByteArray) (g : Int) (a : Option Addr) (n c : Nat) (w : World) : Calls Tryz.prog 32 #[.agg #[.string x, .int .i64 g, .slice a n c]] w fun e W' => e = .returned (.int .i64 n) ∧ Below w.heap.size w W' := by
  go_enter Tryz.func32, Tryz.ntmps32
  go_wp2
  go_ret
  exact ⟨rfl, (Below.refl _ w).alloc (Nat.le_refl _) _⟩
set_option maxRecDepth 20000 in
set_option maxHeartbeats 1000000 in
theorem certCheck_nil (x : List UInt8) (g : Int) (T : List Tg) (u : Value) (w : World) (he : EnvP w) (hll : T.length ≤ 140737488355328) (hT : Tl w u T) :
    Calls Tryz.prog 19 #[.pointer none, .agg #[.string (bs x), .int .i64 g, u], .int .i64 4, .int .i64 3] w fun e W' => ∃ E : Int, e = .returned (.int .i64 E) ∧ E ≠ 0 ∧ Below w.heap.size w W' := by
  obtain ⟨ua, uc, rfl⟩ := hT.slice
  have hb0 : Below w.heap.size w (w.alloc (.cells #[.string (bs x), .int .i64 g, .slice ua T.length uc] 24)) := (Below.refl _ w).alloc (Nat.le_refl _) _
  have rP := heap_alloc_new w (.cells #[.string (bs x), .int .i64 g, .slice ua T.length uc] 24)
  obtain ⟨W0, hW0⟩ : ∃ W, w.alloc (.cells #[.string (bs x), .int .i64 g, .slice ua T.length uc] 24) = W := ⟨_, rfl⟩
  have HW : Hid (w.alloc (.cells #[.string (bs x), .int .i64 g, .slice ua T.length uc] 24) = W0) := hW0
  rw [hW0] at hb0 rP
  obtain ⟨P, hP⟩ : ∃ P, w.heap.size = P := ⟨_, rfl⟩
  have HP : Hid (w.heap.size = P) := hP
  rw [hP] at rP
  have hlP := (Array.getElem?_eq_some_iff.1 rP).1
  have HC : Hid (∀ W, Below W0.heap.size W0 W → (W.cell? ⟨P, 0, none⟩ = some (.string (bs x)) ∧ W.cell? ⟨P, 1, none⟩ = some (.int .i64 g) ∧ W.cell? ⟨P, 2, none⟩ = some (.slice ua T.length uc)) ∧ Tl W (.slice ua T.length uc) T ∧ EnvP W ∧ Below w.heap.size w W) := fun W h => by
    have r := (h.block _ hlP).trans rP
    have hw := hb0.trans (h.mono hb0.size)
    exact ⟨⟨cellB r 0 _ rfl, cellB r 1 _ rfl, cellB r 2 _ rfl⟩, hT.below hw (Nat.le_refl _), he.next hw, hw⟩
  obtain ⟨⟨k0, k1, k2⟩, hT0, _, _⟩ := HC.out W0 (Below.refl _ _)
  have hF := fault_any (bs x) g T _ W0 hll hT0
  obtain ⟨FL, hFL⟩ : ∃ y, faultL g T = y := ⟨_, rfl⟩
  rw [hFL] at hF
  by_cases hf : FL = 0
  · subst hf
    have hisP := fault_isP hFL
    have hTg := fun W (h : Below W0.heap.size W0 W) => checkTags_nil x g T (.slice ua T.length uc) W (HC.out W h).2.2.1 hll (HC.out W h).2.1 hisP
    by_cases hTe : T = []
    · subst hTe
      have HTg : Hid (∀ W, Below W0.heap.size W0 W → Calls Tryz.prog 30 #[.pointer none, .agg #[.string (bs x), .int .i64 g, .slice ua 0 uc], .func (.func 31) #[] #[]] W fun e W' => e = .returned (.int .i64 0) ∧ Below W.heap.size W W') := hTg
      simp only [List.length_nil] at hF k2 HC ⊢
      clear hT hT0 hTg hisP hFL hW0 hP hll rP
      go_enter Tryz.func19, Tryz.ntmps19
      go_upto_region 1 with fail
      simp only [List.length_nil] at HW
      rw [HW.out, HP.out]
      clear HW
      go_upto_region 4 with (first | (go_at_call 29; refine hF.mono ?_; clear hF; rintro e w1 ⟨rfl, h1⟩))
      clear k0 k1 k2
      obtain ⟨⟨k0, k1, k2⟩, _, _, _⟩ := HC.out w1 h1
      have hT1 := HTg.out w1 h1
      go_upto_region 10 with (first | (go_at_call 30; refine hT1.mono ?_; clear hT1; rintro e w2 ⟨rfl, h2⟩))
      have h02 := h1.trans (h2.mono h1.size)
      clear k0 k1 k2
      obtain ⟨⟨k0, k1, k2⟩, _, _, hw2⟩ := HC.out w2 h02
      go_wp2_with (first | (go_at_call 32; refine (Count_any _ _ _ _ _ _).mono ?_; rintro e w3 ⟨rfl, h3⟩))
      exact bodyPost_ret (v := .int .i64 40) (by simp [results, Tryz.f19, go_sem]) rfl ⟨40, rfl, by decide, hw2.trans (h3.mono hw2.size)⟩
    · obtain ⟨m, hm⟩ : ∃ m, T.length = m + 1 := ⟨T.length - 1, by have := List.length_pos_iff.2 hTe; omega⟩
      have HTg : Hid (∀ W, Below W0.heap.size W0 W → Calls Tryz.prog 30 #[.pointer none, .agg #[.string (bs x), .int .i64 g, .slice ua T.length uc], .func (.func 31) #[] #[]] W fun e W' => e = .returned (.int .i64 7) ∧ Below W.heap.size W W') := fun W h => by
        have := hTg W h
        rw [if_neg hTe] at this
        exact this
      obtain ⟨b, o, rfl, _⟩ := hT0.some (by omega)
      obtain ⟨t, ht⟩ : ∃ t, T[m]? = some t := ⟨_, List.getElem?_eq_getElem (by omega)⟩
      have HL : Hid (∀ W, Below W0.heap.size W0 W → W.cell? ⟨b, o + m * 2, none⟩ = some (.int .i64 t.1)) := fun W h => ((HC.out W h).2.1.cells ht).1
      have hm6 : (m : Int) ≤ 140737488355328 := by omega
      have hmp : (0 : Int) < (m : Int) + 1 := by omega
      obtain ⟨n, hn⟩ : ∃ n, t.1 = n := ⟨_, rfl⟩
      rw [hn] at HL
      rw [hm] at hF k2 HC HTg HW ⊢
      clear hT hT0 hTg hisP hFL hW0 hP hll rP hTe ht hn hm
      by_cases hn4 : 4 ≤ n
      · go_enter Tryz.func19, Tryz.ntmps19
        go_upto_region 1 with fail
        rw [HW.out, HP.out]
        clear HW
        go_upto_region 4 with (first | (go_at_call 29; refine hF.mono ?_; clear hF; rintro e w1 ⟨rfl, h1⟩))
        clear k0 k1 k2
        obtain ⟨⟨k0, k1, k2⟩, _, _, hw1⟩ := HC.out w1 h1
        have hl := HL.out w1 h1
        go_wp2
        exact bodyPost_ret (v := .int .i64 41) (by simp [results, Tryz.f19, go_sem]) rfl ⟨41, rfl, by decide, hw1⟩
      · have hn5 : n < 4 := by omega
        go_enter Tryz.func19, Tryz.ntmps19
        go_upto_region 1 with fail
        rw [HW.out, HP.out]
        clear HW
        go_upto_region 4 with (first | (go_at_call 29; refine hF.mono ?_; clear hF; rintro e w1 ⟨rfl, h1⟩))
        clear k0 k1 k2
        obtain ⟨⟨k0, k1, k2⟩, _, _, hw1⟩ := HC.out w1 h1
        have hl := HL.out w1 h1
        have hT1 := HTg.out w1 h1
        go_wp2_with (first | (go_at_call 30; refine hT1.mono ?_; clear hT1; rintro e w2 ⟨rfl, h2⟩))
        exact bodyPost_ret (v := .int .i64 7) (by simp [results, Tryz.f19, go_sem]) rfl ⟨7, rfl, by decide, hw1.trans (h2.mono hw1.size)⟩
  · have hfb : (FL != 0) = true := by simpa using hf
    have HFz : Hid (FL ≠ 0) := hf
    clear hf hFL hT hT0 hW0 hP hll rP
    go_enter Tryz.func19, Tryz.ntmps19
    go_upto_region 1 with fail
    rw [HW.out, HP.out]
    clear HW
    go_wp2_with (first | (go_at_call 29; refine hF.mono ?_; clear hF; rintro e w1 ⟨rfl, h1⟩))
    exact bodyPost_ret (v := .int .i64 FL) (by simp [results, Tryz.f19, go_sem]) rfl ⟨FL, rfl, HFz.out, (HC.out w1 h1).2.2.2⟩
end Go.Proofs.YtifalaigfinciaaGreatDoor
