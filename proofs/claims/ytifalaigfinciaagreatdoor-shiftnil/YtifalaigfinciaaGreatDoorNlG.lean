/- The law ShiftNil, walked. -/
import Derived.Test.YtifalaigfinciaaGreatDoorNlF
import Derived.Test.YtifalaigfinciaaGreatDoorSiG
namespace Go.Proofs.YtifalaigfinciaaGreatDoor
open Go.RowKit
attribute [local go_sem ↓] Go.wp_at_zero Go.wp_at_succ

theorem large_facts {c : Bq} {l : List Bq} {bl : List Bv} (hm : bl.map (fun b => (b.t, b.tn)) = l.map (fun b => (b.x, b.T.length))) (h : largeL c.T.length c.x bl = false) : l.length ≤ 20 ∧ c.T.length ≤ 30 ∧ c.x.length ≤ 31000 ∧ (∀ b ∈ l, b.T.length ≤ 30 ∧ b.x.length ≤ 31000) := by
  obtain ⟨h1, h2, h3, h4, _⟩ := largeL_false h
  have hl : bl.length = l.length := by have := congrArg List.length hm; rw [List.length_map, List.length_map] at this; exact this
  refine ⟨by omega, h2, h3, fun b hb => ?_⟩
  have hb2 : (b.x, b.T.length) ∈ bl.map (fun b => (b.t, b.tn)) := by rw [hm]; exact List.mem_map.2 ⟨b, hb, rfl⟩
  obtain ⟨d, hd, he⟩ := List.mem_map.1 hb2
  have := h4 d hd
  simp only [Prod.mk.injEq] at he
  rw [← he.1, ← he.2]
  omega
/-- How a change that is not empty is told. -/
theorem not_empty {c : Bq} {l : List Bq} (h : ¬ (noMark c ∧ l = [])) : (c.v == 0) = false ∨ (c.v = 0 ∧ (bs c.x).toList.isEmpty = false) ∨ (c.v = 0 ∧ c.x = [] ∧ (c.g == 0) = false) ∨ (c.v = 0 ∧ c.x = [] ∧ c.g = 0 ∧ ((c.T.length : Int) == 0) = false) ∨ (c.v = 0 ∧ c.x = [] ∧ c.g = 0 ∧ c.T = [] ∧ ((l.length : Int) == 0) = false) := by
  by_cases h1 : c.v = 0
  · by_cases h2 : c.x = []
    · by_cases h3 : c.g = 0
      · by_cases h4 : c.T = []
        · have h5 : l ≠ [] := fun h5 => h ⟨⟨h1, h2, h3, h4⟩, h5⟩
          have := List.length_pos_iff.2 h5
          exact .inr (.inr (.inr (.inr ⟨h1, h2, h3, h4, by rw [beq_eq_false_iff_ne]; omega⟩)))
        · have := List.length_pos_iff.2 h4
          exact .inr (.inr (.inr (.inl ⟨h1, h2, h3, by rw [beq_eq_false_iff_ne]; omega⟩)))
      · exact .inr (.inr (.inl ⟨h1, h2, by simpa using h3⟩))
    · exact .inr (.inl ⟨h1, empty_no h2⟩)
  · exact .inl (by simpa using h1)
set_option maxRecDepth 20000 in
set_option maxHeartbeats 4000000 in
theorem snil_any (c : Bq) (l : List Bq) (ma : Option Addr) (mc : Nat) (bu : Value) (w : World) (hw : ∀ b ∈ c :: l, wf64 b.n ∧ wf64 b.v) (he : Env w) (hm : Tl w (.slice ma c.T.length mc) c.T) (hb : Ml w.heap.size w bu l) :
    Calls Tryz.prog 3 #[.agg #[.int .i64 c.n, .int .i64 c.v, .string (bs c.x), .int .i64 c.g, .slice ma c.T.length mc, bu]] w fun e W' => e = .returned (.bool true) ∧ Below w.heap.size w W' := by
  obtain ⟨ba, bc, rfl⟩ := hb.slice
  have h0 : Below w.heap.size w (w.alloc (.cells #[.int .i64 c.n, .int .i64 c.v, .string (bs c.x), .int .i64 c.g, .slice ma c.T.length mc, .slice ba l.length bc] 27)) := (Below.refl _ w).alloc (Nat.le_refl _) _
  have rP := heap_alloc_new w (.cells #[.int .i64 c.n, .int .i64 c.v, .string (bs c.x), .int .i64 c.g, .slice ma c.T.length mc, .slice ba l.length bc] 27)
  obtain ⟨W0, hW0⟩ : ∃ W, w.alloc (.cells #[.int .i64 c.n, .int .i64 c.v, .string (bs c.x), .int .i64 c.g, .slice ma c.T.length mc, .slice ba l.length bc] 27) = W := ⟨_, rfl⟩
  have HW : Hid (w.alloc (.cells #[.int .i64 c.n, .int .i64 c.v, .string (bs c.x), .int .i64 c.g, .slice ma c.T.length mc, .slice ba l.length bc] 27) = W0) := hW0
  rw [hW0] at h0 rP
  obtain ⟨P, hP⟩ : ∃ P, w.heap.size = P := ⟨_, rfl⟩
  have HP : Hid (w.heap.size = P) := hP
  rw [hP] at rP
  have hlP : P < W0.heap.size := (Array.getElem?_eq_some_iff.1 rP).1
  have Hw : Hid (∀ W, Below W0.heap.size W0 W → Below w.heap.size w W) := fun W h => h0.trans (h.mono h0.size)
  have HC : Hid (∀ W, Below W0.heap.size W0 W → (W.cell? ⟨P, 0, none⟩ = some (.int .i64 c.n) ∧ W.cell? ⟨P, 1, none⟩ = some (.int .i64 c.v) ∧ W.cell? ⟨P, 2, none⟩ = some (.string (bs c.x)) ∧ W.cell? ⟨P, 3, none⟩ = some (.int .i64 c.g) ∧ W.cell? ⟨P, 4, none⟩ = some (.slice ma c.T.length mc) ∧ W.cell? ⟨P, 5, none⟩ = some (.slice ba l.length bc))) := fun W h => by
    have r := (h.block _ hlP).trans rP
    exact ⟨cellB r 0 _ rfl, cellB r 1 _ rfl, cellB r 2 _ rfl, cellB r 3 _ rfl, cellB r 4 _ rfl, cellB r 5 _ rfl⟩
  have HFi : Hid (∀ W, Below W0.heap.size W0 W → Calls Tryz.prog 5 #[] W fun e W' => e = .returned (.bool true) ∧ Below w.heap.size w W') := fun W h => by
    refine (fills_any W (he.next (Hw.out W h))).mono ?_
    rintro e W' ⟨rfl, h2⟩
    exact ⟨rfl, Hw.out _ (h.trans (h2.mono h.size))⟩
  have hMm : ∀ W, Below W0.heap.size W0 W → Ml W.heap.size W (.slice ba l.length bc) l := fun W h => by
    have hwW := Hw.out W h
    rcases hb.below hwW with h | ⟨b, o, cap, h1, h2, h3⟩
    · exact .inl h
    · exact .inr ⟨b, o, cap, h1, Nat.lt_of_lt_of_le h2 hwW.size, h3⟩
  obtain ⟨bl, hbl, hmap⟩ := (hMm W0 (Below.refl _ _)).bl
  have hLg := large_any ⟨c.n, c.v, c.x, c.g, ma, c.T.length, mc, .slice ba l.length bc, bl⟩ W0 hbl
  simp only at hLg
  have hlf := fun h => large_facts (c := c) hmap h
  obtain ⟨k0, k1, k2, k3, k4, k5⟩ := HC.out W0 (Below.refl _ _)
  obtain ⟨LB, hLB⟩ : ∃ y, largeL c.T.length c.x bl = y := ⟨_, rfl⟩
  rw [hLB] at hLg hlf
  cases LB
  · obtain ⟨f1, f2, f3, f4⟩ := hlf rfl
    have hok : ∀ b ∈ c :: l, b.Ok := fun b hb => by
      have hwb := hw b hb
      rcases List.mem_cons.1 hb with rfl | hb
      · exact ⟨hwb.1, hwb.2, by omega, by omega⟩
      · have := f4 b hb; exact ⟨hwb.1, hwb.2, by omega, by omega⟩
    have HCk : Hid (∀ W, Below W0.heap.size W0 W → Calls Tryz.prog 6 #[.pointer none, .int .i64 1, .int .i64 1, .agg #[.int .i64 c.n, .int .i64 c.v, .string (bs c.x), .int .i64 c.g, .slice ma c.T.length mc, .slice ba l.length bc]] W fun e W' => ∃ E : Int, e = .returned (.int .i64 E) ∧ (E = 0 ↔ goodC c l) ∧ Below W.heap.size W W') := fun W h =>
      shCheck_nil c l _ _ W (hok c (by simp)) (fun b hb => hok b (by simp [hb])) (by omega) (he.next (Hw.out W h)).p (hm.below (Hw.out W h) (Nat.le_refl _)) (hMm W h)
    have g1 : (c.T.length : Int) ≤ 30 := by omega
    have g2 : (l.length : Int) ≤ 20 := by omega
    clear hlf hLB hbl hmap hW0 hP h0 rP hm hb he hMm hw hok f1 f2 f3 f4
    go_enter Tryz.func3, Tryz.ntmps3
    go_upto_region 1 with fail
    rw [HW.out, HP.out]
    clear HW
    go_upto_region 4 with (first | (go_at_call 4; refine hLg.mono ?_; clear hLg; rintro e w1 ⟨rfl, h1⟩))
    clear k0 k1 k2 k3 k4 k5
    obtain ⟨k0, k1, k2, k3, k4, k5⟩ := HC.out w1 h1
    have hC1 := HCk.out w1 h1
    go_upto_region 5 with (first | (go_at_call 6; refine hC1.mono ?_; clear hC1; rintro e w2 ⟨E, rfl, hE, h2⟩))
    have h02 := h1.trans (h2.mono h1.size)
    clear k0 k1 k2 k3 k4 k5
    obtain ⟨k0, k1, k2, k3, k4, k5⟩ := HC.out w2 h02
    have hF := HFi.out w2 h02
    by_cases hempty : noMark c ∧ l = []
    · obtain ⟨⟨q1, q2, q3, q4⟩, q5⟩ := hempty
      have hgood : E = 0 ↔ (1 ≤ c.n ∧ c.n ≤ 1099511627776) := ⟨fun h => (hE.1 h).1, fun h => hE.2 ⟨h, ⟨q1, q2, q3, q4⟩, q5⟩⟩
      obtain ⟨cn, cv, cx, cg, cT⟩ := c
      simp only at q1 q2 q3 q4 hgood
      subst q1 q2 q3 q4 q5
      simp only [List.length_nil] at k0 k1 k2 k3 k4 k5 ⊢
      have e0 : bs [] = ⟨#[]⟩ := rfl
      rw [e0] at k2 ⊢
      clear hE HC HCk HFi e0 g1 g2 h1 h2
      by_cases n1 : 1 ≤ cn
      · by_cases n2 : cn ≤ 1099511627776
        · have hE0 := hgood.2 ⟨n1, n2⟩
          subst hE0
          clear hgood
          go_wp2_with (first | (go_at_call 5; refine hF.mono ?_; clear hF; rintro e w3 ⟨rfl, h3⟩))
          exact bodyPost_ret (v := .bool true) (by simp [results, Tryz.f3, go_sem]) rfl ⟨rfl, h3⟩
        · have hEb : (E != 0) = true := by simp; intro h; have := hgood.1 h; omega
          have n3 : 1099511627776 < cn := by omega
          clear hgood n2
          go_wp2_with (first | (go_at_call 5; refine hF.mono ?_; clear hF; rintro e w3 ⟨rfl, h3⟩))
          exact bodyPost_ret (v := .bool true) (by simp [results, Tryz.f3, go_sem]) rfl ⟨rfl, h3⟩
      · have hEb : (E != 0) = true := by simp; intro h; have := hgood.1 h; omega
        have n3 : cn < 1 := by omega
        clear hgood n1
        go_wp2_with (first | (go_at_call 5; refine hF.mono ?_; clear hF; rintro e w3 ⟨rfl, h3⟩))
        exact bodyPost_ret (v := .bool true) (by simp [results, Tryz.f3, go_sem]) rfl ⟨rfl, h3⟩
    · have hEb : (E != 0) = true := by simp; intro h; exact hempty (hE.1 h).2
      have hcs := not_empty hempty
      obtain ⟨cn, cv, cx, cg, cT⟩ := c
      simp only at k0 k1 k2 k3 k4 k5 hcs g1 ⊢
      obtain ⟨m, hm⟩ : ∃ m, cT.length = m := ⟨_, rfl⟩
      obtain ⟨n, hn⟩ : ∃ n, l.length = n := ⟨_, rfl⟩
      have hTm : cT = [] → m = 0 := fun h => by rw [← hm, h]; rfl
      rw [hm] at k4 hcs g1 ⊢
      rw [hn] at k5 hcs g2 ⊢
      have e0 : bs [] = ⟨#[]⟩ := rfl
      clear hE HC HCk HFi hempty h1 h2 hm hn
      rcases hcs with r1 | ⟨rfl, r2⟩ | ⟨rfl, rfl, r3⟩ | ⟨rfl, rfl, rfl, r4⟩ | ⟨rfl, rfl, rfl, r5, r6⟩
      · clear hTm e0
        go_wp2_with (first | (go_at_call 5; refine hF.mono ?_; clear hF; rintro e w3 ⟨rfl, h3⟩))
        exact bodyPost_ret (v := .bool true) (by simp [results, Tryz.f3, go_sem]) rfl ⟨rfl, h3⟩
      · clear hTm e0
        go_wp2_with (first | (go_at_call 5; refine hF.mono ?_; clear hF; rintro e w3 ⟨rfl, h3⟩))
        exact bodyPost_ret (v := .bool true) (by simp [results, Tryz.f3, go_sem]) rfl ⟨rfl, h3⟩
      · rw [e0] at k2 ⊢
        clear hTm e0
        go_wp2_with (first | (go_at_call 5; refine hF.mono ?_; clear hF; rintro e w3 ⟨rfl, h3⟩))
        exact bodyPost_ret (v := .bool true) (by simp [results, Tryz.f3, go_sem]) rfl ⟨rfl, h3⟩
      · rw [e0] at k2 ⊢
        clear hTm e0
        go_wp2_with (first | (go_at_call 5; refine hF.mono ?_; clear hF; rintro e w3 ⟨rfl, h3⟩))
        exact bodyPost_ret (v := .bool true) (by simp [results, Tryz.f3, go_sem]) rfl ⟨rfl, h3⟩
      · have hm0 := hTm r5
        subst hm0
        rw [e0] at k2 ⊢
        clear hTm e0 r5
        go_wp2_with (first | (go_at_call 5; refine hF.mono ?_; clear hF; rintro e w3 ⟨rfl, h3⟩))
        exact bodyPost_ret (v := .bool true) (by simp [results, Tryz.f3, go_sem]) rfl ⟨rfl, h3⟩
  · clear hw hlf hm hb he hMm hW0 hP h0 rP hLB hbl hmap
    go_enter Tryz.func3, Tryz.ntmps3
    go_upto_region 1 with fail
    rw [HW.out, HP.out]
    clear HW
    go_upto_region 2 with (first | (go_at_call 4; refine hLg.mono ?_; clear hLg; rintro e w1 ⟨rfl, h1⟩; have hF := HFi.out w1 h1))
    go_wp2_with (first | (go_at_call 5; refine hF.mono ?_; clear hF; rintro e w2 ⟨rfl, h2⟩))
    exact bodyPost_ret (v := .bool true) (by simp [results, Tryz.f3, go_sem]) rfl ⟨rfl, h2⟩
end Go.Proofs.YtifalaigfinciaaGreatDoor
