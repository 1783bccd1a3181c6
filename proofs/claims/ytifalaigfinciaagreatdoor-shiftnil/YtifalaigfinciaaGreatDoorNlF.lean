/- Which changes a nil ring finds right: the empty ones alone. -/
import Derived.Test.YtifalaigfinciaaGreatDoorNlE
namespace Go.Proofs.YtifalaigfinciaaGreatDoor
open Go.RowKit
attribute [local go_sem ↓] Go.wp_at_zero Go.wp_at_succ

/-- Is it an empty change? -/
def goodC (c : Bq) (l : List Bq) : Prop := (1 ≤ c.n ∧ c.n ≤ 1099511627776) ∧ noMark c ∧ l = []
theorem good_sh {c : Bq} {l : List Bq} (h : goodC c l) : shE c l = 0 := by
  obtain ⟨⟨h1, h2⟩, ⟨h3, h4, h5, h6⟩, rfl⟩ := h
  have hs : sizedB c ([] : List Bq).length = true := by simp [sizedB, inR, h3]; omega
  refine (shE_f hs ?_).1
  simp [firstF, h5, h6, faultL, tagsF]
theorem sized_sh {c : Bq} {l : List Bq} (h : shE c l ≠ 1) : 1 ≤ c.n ∧ c.n ≤ 1099511627776 := by
  cases hs : sizedB c l.length
  · exact absurd (shE_1 hs).1 h
  · simp only [sizedB, Bool.and_eq_true, inR, decide_eq_true_eq] at hs
    exact hs.1
set_option maxRecDepth 20000 in
set_option maxHeartbeats 2000000 in
theorem shCheck_nil (c : Bq) (l : List Bq) (mu bu : Value) (w : World) (hc : c.Ok) (hl : ∀ b ∈ l, b.Ok) (hln : l.length ≤ 140737488355328) (he : EnvP w) (hm : Tl w mu c.T) (hb : Ml w.heap.size w bu l) :
    Calls Tryz.prog 6 #[.pointer none, .int .i64 1, .int .i64 1, .agg #[.int .i64 c.n, .int .i64 c.v, .string (bs c.x), .int .i64 c.g, mu, bu]] w fun e W' => ∃ E : Int, e = .returned (.int .i64 E) ∧ (E = 0 ↔ goodC c l) ∧ Below w.heap.size w W' := by
  obtain ⟨ma, mc, rfl⟩ := hm.slice
  obtain ⟨ba, bc, rfl⟩ := hb.slice
  have hb0 : Below w.heap.size w (w.alloc (.cells #[.int .i64 c.n, .int .i64 c.v, .string (bs c.x), .int .i64 c.g, .slice ma c.T.length mc, .slice ba l.length bc] 27)) := (Below.refl _ w).alloc (Nat.le_refl _) _
  have rP := heap_alloc_new w (.cells #[.int .i64 c.n, .int .i64 c.v, .string (bs c.x), .int .i64 c.g, .slice ma c.T.length mc, .slice ba l.length bc] 27)
  obtain ⟨W0, hW0⟩ : ∃ W, w.alloc (.cells #[.int .i64 c.n, .int .i64 c.v, .string (bs c.x), .int .i64 c.g, .slice ma c.T.length mc, .slice ba l.length bc] 27) = W := ⟨_, rfl⟩
  have HW : Hid (w.alloc (.cells #[.int .i64 c.n, .int .i64 c.v, .string (bs c.x), .int .i64 c.g, .slice ma c.T.length mc, .slice ba l.length bc] 27) = W0) := hW0
  rw [hW0] at hb0 rP
  obtain ⟨P, hP⟩ : ∃ P, w.heap.size = P := ⟨_, rfl⟩
  have HP : Hid (w.heap.size = P) := hP
  rw [hP] at rP
  have hlP := (Array.getElem?_eq_some_iff.1 rP).1
  have HC : Hid (∀ W, Below W0.heap.size W0 W → (W.cell? ⟨P, 0, none⟩ = some (.int .i64 c.n) ∧ W.cell? ⟨P, 1, none⟩ = some (.int .i64 c.v) ∧ W.cell? ⟨P, 2, none⟩ = some (.string (bs c.x)) ∧ W.cell? ⟨P, 3, none⟩ = some (.int .i64 c.g) ∧ W.cell? ⟨P, 4, none⟩ = some (.slice ma c.T.length mc) ∧ W.cell? ⟨P, 5, none⟩ = some (.slice ba l.length bc)) ∧ Tl W (.slice ma c.T.length mc) c.T ∧ Ml w.heap.size W (.slice ba l.length bc) l ∧ EnvP W ∧ Below w.heap.size w W) := fun W h => by
    have r := (h.block _ hlP).trans rP
    have hw := hb0.trans (h.mono hb0.size)
    exact ⟨⟨cellB r 0 _ rfl, cellB r 1 _ rfl, cellB r 2 _ rfl, cellB r 3 _ rfl, cellB r 4 _ rfl, cellB r 5 _ rfl⟩, hm.below hw (Nat.le_refl _), hb.below hw, he.next hw, hw⟩
  have hMm : ∀ {n m : Nat} {w : World} {v : Value} {l : List Bq}, Ml n w v l → n ≤ m → Ml m w v l := fun h hm => by
    rcases h with h | ⟨b, o, cap, h1, h2, h3⟩
    · exact .inl h
    · exact .inr ⟨b, o, cap, h1, by omega, h3⟩
  obtain ⟨⟨k0, k1, k2, k3, k4, k5⟩, hT0, hM0, hE0, _⟩ := HC.out W0 (Below.refl _ _)
  have hEc := shEncode_any c l _ _ W0 hc hl hE0 hT0 (hMm hM0 hb0.size)
  have HCM : Hid (∀ W, Below W0.heap.size W0 W → Calls Tryz.prog 11 #[.pointer none, .int .i64 1, .int .i64 1, .agg #[.int .i64 c.n, .int .i64 c.v, .string (bs c.x), .int .i64 c.g, .slice ma c.T.length mc, .slice ba l.length bc]] W fun e W' => ∃ E : Int, e = .returned (.int .i64 E) ∧ (E = 0 ↔ noMark c) ∧ Below W.heap.size W W') := fun W h =>
    checkMark_nil c _ _ W (HC.out W h).2.2.2.1 hc.T (HC.out W h).2.1 ⟨_, _, _, rfl⟩
  have HOk : Hid (∀ b ∈ l, b.Ok) := hl
  have HG : Hid (goodC c l → shE c l = 0) := good_sh
  have HS : Hid (shE c l ≠ 1 → 1 ≤ c.n ∧ c.n ≤ 1099511627776) := sized_sh
  obtain ⟨SV, hSV⟩ : ∃ y, shV c l = y := ⟨_, rfl⟩
  obtain ⟨SE, hSE⟩ : ∃ y, shE c l = y := ⟨_, rfl⟩
  rw [hSV, hSE] at hEc
  rw [hSE] at HG HS
  have i1 : inR 1 0 4 = true := by decide
  have i2 : inR 1 0 3 = true := by decide
  have hln2 : (l.length : Int) ≤ 140737488355328 := by omega
  clear hSV hSE hW0 hP rP hm hb he hT0 hM0 hE0 hc hl hMm hln
  by_cases hS1 : SE = 1
  · have hSb : (SE == 1) = true := by simpa using hS1
    have HN : Hid (¬ goodC c l) := fun h => by have := HG.out h; omega
    have HS1 : Hid (SE = 1) := hS1
    clear hS1 HG HS
    go_enter Tryz.func6, Tryz.ntmps6
    go_upto_region 1 with fail
    rw [HW.out, HP.out]
    clear HW
    go_wp2_with (first
      | (go_at_call 9; refine (within_any _ _ _ _).mono ?_; rintro e w9 ⟨rfl, h9⟩; replace h9 := h9.symm; subst h9)
      | (go_at_call 10; refine hEc.mono ?_; clear hEc; rintro e w1 ⟨rfl, h1⟩))
    exact bodyPost_ret (v := .int .i64 SE) (by simp [results, Tryz.f6, go_sem]) rfl ⟨SE, rfl, ⟨fun h => by have := HS1.out; omega, fun h => absurd h HN.out⟩, (HC.out w1 h1).2.2.2.2⟩
  · have hSb : (SE == 1) = false := by simpa using hS1
    have HSz : Hid (1 ≤ c.n ∧ c.n ≤ 1099511627776) := HS.out hS1
    clear hS1 HG HS
    go_enter Tryz.func6, Tryz.ntmps6
    go_upto_region 1 with fail
    rw [HW.out, HP.out]
    clear HW
    go_upto_region 4 with (first
      | (go_at_call 9; refine (within_any _ _ _ _).mono ?_; rintro e w9 ⟨rfl, h9⟩; replace h9 := h9.symm; subst h9)
      | (go_at_call 10; refine hEc.mono ?_; clear hEc; rintro e w1 ⟨rfl, h1⟩))
    clear k0 k1 k2 k3 k4 k5
    obtain ⟨⟨k0, k1, k2, k3, k4, k5⟩, _, _, _, _⟩ := HC.out w1 h1
    have hM1 := HCM.out w1 h1
    go_upto_region 7 with (first | (go_at_call 11; refine hM1.mono ?_; clear hM1; rintro e w2 ⟨E2, rfl, hE2, h2⟩))
    have h02 := h1.trans (h2.mono h1.size)
    clear k0 k1 k2 k3 k4 k5
    obtain ⟨⟨k0, k1, k2, k3, k4, k5⟩, _, _, _, hw2⟩ := HC.out w2 h02
    by_cases hz : E2 = 0
    · subst hz
      have hno := hE2.1 rfl
      obtain ⟨cn, cv, cx, cg, cT⟩ := c
      obtain ⟨q1, q2, q3, q4⟩ := hno
      simp only at q1 q2 q3 q4
      subst q1 q2 q3 q4
      simp only [List.length_nil] at k0 k1 k2 k3 k4 k5 HC HSz ⊢
      have HNM : Hid (noMark ⟨cn, 0, [], 0, []⟩) := ⟨rfl, rfl, rfl, rfl⟩
      have n1 : 1 ≤ cn := HSz.out.1
      have n2 : cn ≤ 1099511627776 := HSz.out.2
      clear hE2 HCM
      go_wp2
      go_loopw [12, 45] (fun a p wr => a = .int .i64 0 ∧ p = .int .i64 0 ∧ wr = w2) (fun _ _ _ => 0)
      case atStart => exact ⟨rfl, rfl, rfl⟩
      case round =>
        obtain ⟨rfl, rfl, hwr⟩ := hrel
        replace hwr := hwr.symm
        subst hwr
        cases l with
        | nil =>
          go_wp2
          exact bodyPost_ret (v := .int .i64 0) (by simp [results, Tryz.f6, go_sem]) rfl ⟨0, rfl, ⟨fun _ => ⟨HSz.out, HNM.out, rfl⟩, fun _ => rfl⟩, hw2⟩
        | cons b r =>
          obtain ⟨vb, vo, ta, tc, rfl, hvl, d0, d1, d2, d3, d4, hTb⟩ := (HC.out w2 h02).2.2.1.cells (k := 0) (x := b) rfl
          have HN : Hid (¬ goodC ⟨cn, 0, [], 0, []⟩ (b :: r)) := fun h => by cases h.2.2
          rw [Nat.zero_mul, Nat.add_zero] at d0 d1 d2 d3 d4
          have hbT := (HOk.out b (by simp)).T
          have ha3 := (Below.refl w2.heap.size w2).alloc (Nat.le_refl _) (.cells #[.int .i64 b.n, .int .i64 b.v, .string (bs b.x), .int .i64 b.g, .slice ta b.T.length tc] 34)
          have hCB := checkBest_nil b (.slice ta b.T.length tc) _ ((HC.out w2 h02).2.2.2.1.next ha3) hbT (hTb.below ha3 (Nat.le_refl _))
          have HB3 : Hid (Below w.heap.size w (w2.alloc (.cells #[.int .i64 b.n, .int .i64 b.v, .string (bs b.x), .int .i64 b.g, .slice ta b.T.length tc] 34))) := hw2.trans (ha3.mono hw2.size)
          obtain ⟨⟨l0, l1, l2, l3, l4, l5⟩, _, _, _, _⟩ := HC.out _ (h02.alloc h02.size (.cells #[.int .i64 b.n, .int .i64 b.v, .string (bs b.x), .int .i64 b.g, .slice ta b.T.length tc] 34))
          have rX := heap_alloc_new w2 (.cells #[.int .i64 b.n, .int .i64 b.v, .string (bs b.x), .int .i64 b.g, .slice ta b.T.length tc] 34)
          obtain ⟨W3, hW3⟩ : ∃ W, w2.alloc (.cells #[.int .i64 b.n, .int .i64 b.v, .string (bs b.x), .int .i64 b.g, .slice ta b.T.length tc] 34) = W := ⟨_, rfl⟩
          have HW3 : Hid (w2.alloc (.cells #[.int .i64 b.n, .int .i64 b.v, .string (bs b.x), .int .i64 b.g, .slice ta b.T.length tc] 34) = W3) := hW3
          rw [hW3] at hCB HB3 l0 l1 l2 l3 l4 l5 rX
          obtain ⟨X, hX⟩ : ∃ X, w2.heap.size = X := ⟨_, rfl⟩
          have HX : Hid (w2.heap.size = X) := hX
          rw [hX] at rX
          have x0 := cellB rX 0 _ rfl
          have x1 := cellB rX 1 _ rfl
          have x2 := cellB rX 2 _ rfl
          have x3 := cellB rX 3 _ rfl
          have x4 := cellB rX 4 _ rfl
          obtain ⟨m, hm⟩ : ∃ m, (b :: r).length = m := ⟨_, rfl⟩
          have hm1 : (0 : Int) < (m : Int) := by rw [← hm]; simp
          have hm2 : (m : Int) ≤ 140737488355328 := by rw [← hm]; exact hln2
          rw [hm] at k5 ⊢
          clear hTb hbT ha3 HC HOk hm hln2 hW3 hX rX l5
          go_upto_region 13 with fail
          rw [HW3.out, HX.out]
          clear HW3
          by_cases j1 : inR b.n 1 8 = true
          · by_cases j2 : inR b.v 0 (cn - 1) = true
            · go_upto_region 16 with (first
                | (go_at_call 9; refine (within_any _ _ _ _).mono ?_; rintro e w9 ⟨rfl, h9⟩; replace h9 := h9.symm; subst h9)
                | (go_at_call 12; refine hCB.mono ?_; clear hCB; rintro e w4 ⟨E, rfl, hE, h4⟩))
              have hq : (E != 0) = true := by simpa using hE
              have HE : Hid (E ≠ 0) := hE
              clear hE
              go_wp2
              exact bodyPost_ret (v := .int .i64 E) (by simp [results, Tryz.f6, go_sem]) rfl ⟨E, rfl, ⟨fun h => absurd h HE.out, fun h => absurd h HN.out⟩, HB3.out.trans (h4.mono HB3.out.size)⟩
            · have j2f : inR b.v 0 (cn - 1) = false := by simpa using j2
              clear j2
              go_wp2_with (first | (go_at_call 9; refine (within_any _ _ _ _).mono ?_; rintro e w9 ⟨rfl, h9⟩; replace h9 := h9.symm; subst h9))
              exact bodyPost_ret (v := .int .i64 4) (by simp [results, Tryz.f6, go_sem]) rfl ⟨4, rfl, ⟨fun h => absurd h (by decide), fun h => absurd h HN.out⟩, HB3.out⟩
          · have j1f : inR b.n 1 8 = false := by simpa using j1
            clear j1
            go_wp2_with (first | (go_at_call 9; refine (within_any _ _ _ _).mono ?_; rintro e w9 ⟨rfl, h9⟩; replace h9 := h9.symm; subst h9))
            exact bodyPost_ret (v := .int .i64 4) (by simp [results, Tryz.f6, go_sem]) rfl ⟨4, rfl, ⟨fun h => absurd h (by decide), fun h => absurd h HN.out⟩, HB3.out⟩
    · have hzb : (E2 != 0) = true := by simpa using hz
      have HN : Hid (E2 ≠ 0 ∧ ¬ goodC c l) := ⟨hz, fun h => hz (hE2.2 h.2.1)⟩
      clear hz hE2
      go_wp2
      exact bodyPost_ret (v := .int .i64 E2) (by simp [results, Tryz.f6, go_sem]) rfl ⟨E2, rfl, ⟨fun h => absurd h HN.out.1, fun h => absurd h HN.out.2⟩, hw2⟩
end Go.Proofs.YtifalaigfinciaaGreatDoor
