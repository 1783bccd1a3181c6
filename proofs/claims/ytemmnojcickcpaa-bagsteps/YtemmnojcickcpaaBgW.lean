/- The law BagSteps, walked. -/
import Derived.Test.YtemmnojcickcpaaBgV
namespace Go.Proofs.Ytemmnojcickcpaa
open Go.RowKit
attribute [local go_sem ↓] Go.wp_at_zero Go.wp_at_succ

theorem betw_prefix (f t : Int) (l : List It) (k d : Nat) : ∃ r, betwTo f t l (k + d) = betwTo f t l k ++ r := by
  induction d with
  | zero => exact ⟨[], by simp⟩
  | succ d ih =>
    obtain ⟨r, hr⟩ := ih
    rw [← Nat.add_assoc, betwTo_succ, hr, List.append_assoc]
    exact ⟨_, rfl⟩
theorem betw_at {f t : Int} {l : List It} {m : Nat} (hm : m < l.length) (hg : goesB f t l m = true) : (betwTo f t l l.length)[(betwTo f t l m).length]? = some m := by
  obtain ⟨d, hd⟩ : ∃ d, l.length = m + 1 + d := ⟨l.length - (m + 1), by omega⟩
  obtain ⟨r, hr⟩ := betw_prefix f t l (m + 1) d
  rw [hd, hr, betwTo_succ, if_pos hg]
  simp
theorem ncs_at (l : List Nat) (i n : Nat) (h : l[i]? = some n) : (ncs l)[i]? = some (.int .i64 n) := by simp [ncs, h]
theorem both_see {base B B2 : Nat} {v v2 : Value} {l : List It} (i : Int) : ∃ b0 b1 b2 b3 E,
    (∀ W, BagAt 70 31 base W B v l 0 → Calls Try.prog 12 #[.pointer (some ⟨B, 0, none⟩), .int .i64 i] W fun e W' => e = .returned (.tuple #[.agg #[.int .i64 b0, .int .i64 b1, .int .i64 b2, .string (bs b3)], .int .i64 E]) ∧ Below W.heap.size W W') ∧
    (∀ W, BagAt 29 38 base W B2 v2 l 0 → Calls Try.prog 13 #[.pointer (some ⟨B2, 0, none⟩), .int .i64 i] W fun e W' => e = .returned (.tuple #[.agg #[.int .i64 b0, .int .i64 b1, .int .i64 b2, .string (bs b3)], .int .i64 E]) ∧ Below W.heap.size W W') := by
  by_cases hi : i < 0 ∨ (l.length : Int) ≤ i
  · exact ⟨0, 0, 0, [], 6, fun W hW => See_no hW i hi, fun W hW => rSee_no hW i hi⟩
  · obtain ⟨k, rfl⟩ := Int.eq_ofNat_of_zero_le (show 0 ≤ i by omega)
    obtain ⟨⟨b0, b1, b2, b3⟩, ha⟩ : ∃ a, l[k]? = some a := ⟨_, List.getElem?_eq_getElem (by omega)⟩
    exact ⟨b0, b1, b2, b3, 0, fun W hW => See_ok hW k b0 b1 b2 b3 ha, fun W hW => rSee_ok hW k b0 b1 b2 b3 ha⟩
set_option maxRecDepth 20000 in
set_option maxHeartbeats 8000000 in
theorem steps_any (sl : List Stp) (moment : Int) (va : Value) (w : World) (hs : Stl w va sl) : Calls Try.prog 3 #[va, .int .i64 moment] w fun e W' => e = .returned (.bool true) ∧ Below w.heap.size w W' := by
  obtain ⟨a0, c0, rfl⟩ := hs.slice
  have hN := New_any w
  by_cases hbig : 300 < sl.length
  · have h1 : decide ((300 : Int) < sl.length) = true := by simp; omega
    clear hbig
    go_enter Try.func3, Try.ntmps3
    go_wp2_with (first
      | (go_at_call 9; refine hN.mono ?_; rintro e w1 ⟨rfl, rfl⟩)
      | (go_at_call 10; refine (three_any _).mono ?_; rintro e wz ⟨rfl, h9⟩))
    go_ret
    exact ⟨rfl, ((Below.refl _ w).alloc (Nat.le_refl _) _).trans (h9.mono (by simp))⟩
  have hq1 : decide ((300 : Int) < sl.length) = false := by simp; omega
  have hsl : sl.length ≤ 300 := by omega
  clear hbig
  go_enter Try.func3, Try.ntmps3
  go_wp2_with (go_at_call 9; refine hN.mono ?_; rintro e w1 ⟨rfl, rfl⟩)
  have h0 := BagAt.new w w.heap.size (Nat.le_refl _)
  have hB0 : Below w.heap.size w (w.alloc (.cells #[.slice none 0 0, .int .i64 0] 70)) := (Below.refl _ w).alloc (Nat.le_refl _) _
  have hK0 : Tw w w.heap.size w.heap.size (.slice none 0 0) (w.heap.size + 1) (.slice none 0 0) [] ((w.alloc (.cells #[.slice none 0 0, .int .i64 0] 70)).alloc (.cells #[.slice none 0 0, .int .i64 0] 29)) := by
    have hb1 : Below (w.alloc (.cells #[.slice none 0 0, .int .i64 0] 70)).heap.size (w.alloc (.cells #[.slice none 0 0, .int .i64 0] 70)) ((w.alloc (.cells #[.slice none 0 0, .int .i64 0] 70)).alloc (.cells #[.slice none 0 0, .int .i64 0] 29)) := (Below.refl _ _).alloc (Nat.le_refl _) _
    have hn := heap_alloc_new (w.alloc (.cells #[.slice none 0 0, .int .i64 0] 70)) (.cells #[.slice none 0 0, .int .i64 0] 29)
    rw [World.size_alloc] at hn
    exact ⟨h0.next hb1, ⟨hn, World.ownsRow_nil _ _ _ _, fun e => (by cases e), by omega⟩, ⟨by omega, fun e => (by cases e), fun e => (by cases e), fun k e => (by cases e)⟩, hB0.trans (hb1.mono hB0.size), fun a ha => (by cases ha)⟩
  obtain ⟨W1, hW1⟩ : ∃ W, (w.alloc (.cells #[.slice none 0 0, .int .i64 0] 70)).alloc (.cells #[.slice none 0 0, .int .i64 0] 29) = W := ⟨_, rfl⟩
  rw [hW1] at hK0 ⊢
  obtain ⟨B2, hB2⟩ : ∃ B, w.heap.size + 1 = B := ⟨_, rfl⟩
  rw [hB2] at hK0 ⊢
  obtain ⟨B, hB⟩ : ∃ B, w.heap.size = B := ⟨_, rfl⟩
  have HB : Hid (w.heap.size = B) := hB
  have hwB : w.heap.size ≤ B := by omega
  rw [hB] at hK0
  rw [show (⟨w.heap.size, 0, none⟩ : Addr) = ⟨B, 0, none⟩ by rw [hB]]
  clear hW1 hN hB hB2 h0 hB0
  go_loopg [35] sl.length (fun gk i wr => ∃ (k : Nat) (v v2 : Value) (l : List It), k + gk = sl.length ∧ i = .int .i64 k ∧ Tw w B B v B2 v2 l wr ∧ Hid (l.length ≤ k))
  case atStart => exact ⟨0, _, _, [], by omega, rfl, hK0, Nat.le_refl _⟩
  case round =>
    obtain ⟨k, v, v2, l, hk, rfl, hK, HL⟩ := hrel
    clear hK0
    by_cases hlt : k < sl.length
    · obtain ⟨⟨q0, q1, q2, q3, q4, q5⟩, hq⟩ : ∃ s, sl[k]? = some s := ⟨_, List.getElem?_eq_getElem hlt⟩
      obtain ⟨b, o, rfl, hbl, x0, x1, x2, x3, x4, x5⟩ := (hs.below hK.bel hwB).at hq
      have k0 : (0 : Int) ≤ (k : Int) := by omega
      have k1 : (k : Int) < (sl.length : Int) := by omega
      have hll : l.length < 4096 := by have := HL.out; omega
      simp only at x0 x1 x2 x3 x4 x5
      clear hq
      go_upto_region 8 with fail
      have hb2 : Below wr.heap.size wr (wr.alloc (.cells #[.int .i64 q0, .int .i64 q1, .int .i64 q2, .int .i64 q3, .int .i64 q4, .string (bs q5)] 33)) := (Below.refl _ _).alloc (Nat.le_refl _) _
      have y2 := heap_alloc_new wr (.cells #[.int .i64 q0, .int .i64 q1, .int .i64 q2, .int .i64 q3, .int .i64 q4, .string (bs q5)] 33)
      have hK2 := hK.next hb2
      have hYB : wr.heap.size ≠ B := by have := hK.bag.lt; omega
      have hYo : v.ownBlock ≠ some wr.heap.size := fun e => by have := (hK.bag.own.lt _ e).2; omega
      have hYB2 : wr.heap.size ≠ B2 := by have := hK.rbag.lt; omega
      have hYo2 : v2.ownBlock ≠ some wr.heap.size := fun e => by have := (hK.rbag.own.lt _ e).2; omega
      obtain ⟨W2, hW2⟩ : ∃ W, (wr.alloc (.cells #[.int .i64 q0, .int .i64 q1, .int .i64 q2, .int .i64 q3, .int .i64 q4, .string (bs q5)] 33)) = W := ⟨_, rfl⟩
      rw [hW2] at y2 hK2 ⊢
      obtain ⟨Y, hY⟩ : ∃ Y, wr.heap.size = Y := ⟨_, rfl⟩
      rw [hY] at y2 hYB hYo hYB2 hYo2 ⊢
      have hYs : Y < W2.heap.size := (Array.getElem?_eq_some_iff.1 y2).1
      have z0 := cellB y2 0 (.int .i64 q0) rfl
      have z1 := cellB y2 1 (.int .i64 q1) rfl
      have z2 := cellB y2 2 (.int .i64 q2) rfl
      have z3 := cellB y2 3 (.int .i64 q3) rfl
      have z4 := cellB y2 4 (.int .i64 q4) rfl
      have z5 := cellB y2 5 (.string (bs q5)) rfl
      have hD := does_any hK2 hll q0 q1 q2 q3 q4 q5
      clear x0 x1 x2 x3 x4 x5 hbl hb2 hW2 hY hK
      go_wp2_with fail
      refine hD.mono ?_
      rintro e w3 ⟨rfl, v3, v3', l', hK3, hl3, hm3⟩
      have y3 := hm3.free hYs hYB hYB2 hYo hYo2 y2
      have HL2 : Hid (l'.length ≤ k + 1) := by show _ ≤ k + 1; have := HL.out; omega
      have hl4 : l'.length ≤ 301 := by have := HL2.out; omega
      clear hD hK2 y2 hYs z0 z1 z2 z3 z4 z5 hYo hYo2 hm3 hl3 HL hll
      obtain ⟨b0, b1, b2, b3, E, hSe, hRe⟩ := both_see (base := B) (B := B) (B2 := B2) (v := v3) (v2 := v3') (l := l') q1
      have z1 := cellB y3 1 (.int .i64 q1) rfl
      have hY3 : Y < w3.heap.size := (Array.getElem?_eq_some_iff.1 y3).1
      go_wp2_with fail
      refine (hSe _ hK3.bag).mono ?_
      rintro e w4 ⟨rfl, hb4⟩
      have y4 := (hb4.block Y hY3).trans y3
      have hK4 := hK3.next hb4
      have hY4 : Y < w4.heap.size := (Array.getElem?_eq_some_iff.1 y4).1
      clear z1 y3 hY3 hK3 hb4 hSe
      go_upto_region 11 with fail
      have hb5 : Below w4.heap.size w4 (w4.alloc (.cells #[.int .i64 b0, .int .i64 b1, .int .i64 b2, .string (bs b3)] 31)) := (Below.refl _ _).alloc (Nat.le_refl _) _
      have x5 := heap_alloc_new w4 (.cells #[.int .i64 b0, .int .i64 b1, .int .i64 b2, .string (bs b3)] 31)
      have y5 := (hb5.block Y hY4).trans y4
      have hK5 := hK4.next hb5
      obtain ⟨W5, hW5⟩ : ∃ W, w4.alloc (.cells #[.int .i64 b0, .int .i64 b1, .int .i64 b2, .string (bs b3)] 31) = W := ⟨_, rfl⟩
      rw [hW5] at x5 y5 hK5 ⊢
      obtain ⟨X, hX⟩ : ∃ X, w4.heap.size = X := ⟨_, rfl⟩
      rw [hX] at x5 ⊢
      have hX5 : X < W5.heap.size := (Array.getElem?_eq_some_iff.1 x5).1
      have hY5 : Y < W5.heap.size := (Array.getElem?_eq_some_iff.1 y5).1
      have z1 := cellB y5 1 (.int .i64 q1) rfl
      clear hW5 hX y4 hY4 hK4 hb5
      go_wp2_with fail
      refine (hRe _ hK5.rbag).mono ?_
      rintro e w6 ⟨rfl, hb6⟩
      have y6 := (hb6.block Y hY5).trans y5
      have x6 := (hb6.block X hX5).trans x5
      have hK6 := hK5.next hb6
      have hY6 : Y < w6.heap.size := (Array.getElem?_eq_some_iff.1 y6).1
      have hX6 : X < w6.heap.size := (Array.getElem?_eq_some_iff.1 x6).1
      clear z1 y5 x5 hY5 hX5 hK5 hb6 hRe
      go_upto_region 14 with fail
      have hb7 : Below w6.heap.size w6 (w6.alloc (.cells #[.int .i64 b0, .int .i64 b1, .int .i64 b2, .string (bs b3)] 38)) := (Below.refl _ _).alloc (Nat.le_refl _) _
      have t7 := heap_alloc_new w6 (.cells #[.int .i64 b0, .int .i64 b1, .int .i64 b2, .string (bs b3)] 38)
      have y7 := (hb7.block Y hY6).trans y6
      have x7 := (hb7.block X hX6).trans x6
      have hK7 := hK6.next hb7
      obtain ⟨W7, hW7⟩ : ∃ W, w6.alloc (.cells #[.int .i64 b0, .int .i64 b1, .int .i64 b2, .string (bs b3)] 38) = W := ⟨_, rfl⟩
      rw [hW7] at x7 y7 t7 hK7 ⊢
      obtain ⟨T, hT⟩ : ∃ T, w6.heap.size = T := ⟨_, rfl⟩
      rw [hT] at t7 ⊢
      have z2 := cellB y7 2 (.int .i64 q2) rfl
      have z3 := cellB y7 3 (.int .i64 q3) rfl
      have hBt := Between_any hK7.bag (by omega) q2 q3
      have hX7 : X < W7.heap.size := (Array.getElem?_eq_some_iff.1 x7).1
      have hY7 : Y < W7.heap.size := (Array.getElem?_eq_some_iff.1 y7).1
      have hT7 : T < W7.heap.size := (Array.getElem?_eq_some_iff.1 t7).1
      clear hW7 hT y6 x6 hY6 hX6 hK6 hb7
      go_wp2_with fail
      refine hBt.mono ?_
      rintro e w8 ⟨u, rfl, hu, hb8⟩
      have y8 := (hb8.block Y hY7).trans y7
      have x8 := (hb8.block X hX7).trans x7
      have t8 := (hb8.block T hT7).trans t7
      have hK8 := hK7.next hb8
      have hX8 : X < w8.heap.size := (Array.getElem?_eq_some_iff.1 x8).1
      have hY8 : Y < w8.heap.size := (Array.getElem?_eq_some_iff.1 y8).1
      have hT8 : T < w8.heap.size := (Array.getElem?_eq_some_iff.1 t8).1
      obtain ⟨ua, uc, rfl⟩ := owns_slice hu
      obtain ⟨ra, rc, hrv⟩ := hK8.rbag.slice
      have c0 := cellB hK8.rbag.blk 0 v3' rfl
      rw [hrv] at c0
      clear z2 z3 y7 x7 t7 hX7 hY7 hT7 hK7 hb8 hBt
      go_wp2_with fail
      subst hrv
      go_loopg [13, 14, 71] l'.length (fun gq ol at_ i wr => ∃ m : Nat, m + gq = l'.length ∧ i = .int .i64 m ∧ ol = .int .i64 (olderN moment (l'.take m)) ∧ at_ = .int .i64 (betwTo q2 q3 l' m).length ∧ Below w8.heap.size w8 wr)
      case atStart => exact ⟨0, by omega, rfl, rfl, rfl, Below.refl _ _⟩
      case round =>
        obtain ⟨m, hm, rfl, rfl, rfl, hbw⟩ := hrel
        rename World => wq
        clear c0
        by_cases hml : m < l'.length
        · obtain ⟨⟨t0, t1, t2, t3⟩, ht⟩ : ∃ t, l'[m]? = some t := ⟨_, List.getElem?_eq_getElem hml⟩
          obtain ⟨g, cap, hgv, hg1, hg2, hg3, hcap, hcs⟩ := hK8.rbag.at (by omega)
          injection hgv with e1 _ e2
          subst e1 e2
          obtain ⟨x0, x1, x2, x3⟩ := hcs m _ ht
          have c0 := (hbw.cell (p := ⟨g, m * 4, none⟩) hg2).trans x0
          have c1 := (hbw.cell (p := ⟨g, m * 4 + 1, none⟩) hg2).trans x1
          have c2 := (hbw.cell (p := ⟨g, m * 4 + 2, none⟩) hg2).trans x2
          have c3 := (hbw.cell (p := ⟨g, m * 4 + 3, none⟩) hg2).trans x3
          have y9 := (hbw.block Y hY8).trans y8
          have m0 : (0 : Int) ≤ (m : Int) := by omega
          have m1 : (m : Int) < (l'.length : Int) := by omega
          have HS : Hid (olderN moment (l'.take (m + 1)) = olderN moment (l'.take m) + if t2 < moment then 1 else 0) := by
            show _ = _
            rw [take_snoc ht, older_snoc]
          have hle := older_le moment (l'.take m)
          rw [List.length_take] at hle
          have hG : goesB q2 q3 l' m = goB q2 q3 (t0, t1, t2, t3) := goes_go ht
          have HQ : Hid (betwTo q2 q3 l' (m + 1) = betwTo q2 q3 l' m ++ if goesB q2 q3 l' m = true then [m] else []) := betwTo_succ q2 q3 l' m
          have HA : Hid (goesB q2 q3 l' m = true → (betwTo q2 q3 l' l'.length)[(betwTo q2 q3 l' m).length]? = some m) := betw_at hml
          have hPl := betwTo_le q2 q3 l' m
          obtain ⟨N, hN⟩ : ∃ N, olderN moment (l'.take m) = N := ⟨_, rfl⟩
          rw [hN] at HS hle ⊢
          obtain ⟨M, hM⟩ : ∃ M, (betwTo q2 q3 l' m).length = M := ⟨_, rfl⟩
          have HQ2 : Hid ((betwTo q2 q3 l' (m + 1)).length = M + if goesB q2 q3 l' m = true then 1 else 0) := by
            show _ = _
            rw [HQ.out, List.length_append, hM]
            by_cases h : goesB q2 q3 l' m = true <;> simp [h]
          rw [hM] at HA hPl ⊢
          have hN4 : N ≤ 4096 := by omega
          have hM4 : M ≤ 4096 := by omega
          simp only at c0 c1 c2 c3
          clear hN hM HQ hcs ht x0 x1 x2 x3 hg1 hg3 hle hPl
          go_upto_region 18 with fail
          have hb9 : Below wq.heap.size wq (wq.alloc (.cells #[.int .i64 t0, .int .i64 t1, .int .i64 t2, .string (bs t3)] 38)) := (Below.refl _ _).alloc (Nat.le_refl _) _
          have s9 := heap_alloc_new wq (.cells #[.int .i64 t0, .int .i64 t1, .int .i64 t2, .string (bs t3)] 38)
          have y9' := (hb9.block Y (Array.getElem?_eq_some_iff.1 y9).1).trans y9
          have hbz := hbw.trans (hb9.mono hbw.size)
          obtain ⟨W9, hW9⟩ : ∃ W, wq.alloc (.cells #[.int .i64 t0, .int .i64 t1, .int .i64 t2, .string (bs t3)] 38) = W := ⟨_, rfl⟩
          rw [hW9] at s9 y9' hbz ⊢
          obtain ⟨Z, hZ⟩ : ∃ Z, wq.heap.size = Z := ⟨_, rfl⟩
          rw [hZ] at s9 ⊢
          have z0 := cellB s9 0 (.int .i64 t0) rfl
          have z1 := cellB s9 1 (.int .i64 t1) rfl
          have z2 := cellB s9 2 (.int .i64 t2) rfl
          have p2 := cellB y9' 2 (.int .i64 q2) rfl
          have p3 := cellB y9' 3 (.int .i64 q3) rfl
          clear hW9 hZ s9 y9 y9' hb9 c0 c1 c2 c3
          by_cases hc : t0 = q2 ∧ t1 = q3
          · obtain ⟨e1, e2⟩ := hc
            have hg : goesB q2 q3 l' m = true := by rw [hG]; simp [goB, e1, e2]
            have HM2 : Hid ((betwTo q2 q3 l' (m + 1)).length = M + 1) := by show _ = _; rw [HQ2.out, if_pos hg]
            have hpl := HA.out hg
            have hMl : M < (betwTo q2 q3 l' l'.length).length := (List.getElem?_eq_some_iff.1 hpl).1
            obtain ⟨gu, cu, huv, hu1, hu2⟩ := hu.form (by omega)
            injection huv with e3 _ e4
            have hu3 : w8.cell? ⟨gu, M, none⟩ = some (.int .i64 m) := by
              rw [e3, e4] at hu
              exact (hu.cellAt M (by omega)).trans (ncs_at _ _ _ hpl)
            have hu4 := (hbz.cell (p := ⟨gu, M, none⟩) hu2).trans hu3
            have hq1' : (t0 == q2) = true := by simp [e1]
            have hq2' : (t1 == q3) = true := by simp [e2]
            have M0 : (0 : Int) ≤ (M : Int) := by omega
            have M1 : (M : Int) < ((betwTo q2 q3 l' l'.length).length : Int) := by omega
            subst e3
            subst e4
            clear e1 e2 hg HQ2 hpl HA hG hu3 hu hu1
            go_wp2
            all_goals
              go_roundg (l'.length - (m + 1))
              case measure => omega
              case rel => exact ⟨m + 1, by omega, by go_num, by rw [HS.out]; first | (rw [if_pos ‹_›]; go_num) | (rw [if_neg (by omega)]; go_num), by rw [HM2.out]; go_num, hbz⟩
          · have hg : ¬ goesB q2 q3 l' m = true := by rw [hG]; simpa [goB] using hc
            have HM2 : Hid ((betwTo q2 q3 l' (m + 1)).length = M) := by show _ = _; rw [HQ2.out, if_neg hg, Nat.add_zero]
            have hcc : t0 ≠ q2 ∨ t0 = q2 ∧ t1 ≠ q3 := by
              by_cases e1 : t0 = q2
              · exact .inr ⟨e1, fun e2 => hc ⟨e1, e2⟩⟩
              · exact .inl e1
            clear hc hg HQ2 HA hG
            rcases hcc with e1 | ⟨e1, e2⟩
            · have hq1' : (t0 == q2) = false := by simp [e1]
              clear e1
              go_wp2
              all_goals
                go_roundg (l'.length - (m + 1))
                case measure => omega
                case rel => exact ⟨m + 1, by omega, by go_num, by rw [HS.out]; first | (rw [if_pos ‹_›]; go_num) | (rw [if_neg (by omega)]; go_num), by rw [HM2.out], hbz⟩
            · have hq1' : (t0 == q2) = true := by simp [e1]
              have hq2' : (t1 == q3) = false := by simp [e2]
              clear e1 e2
              go_wp2
              all_goals
                go_roundg (l'.length - (m + 1))
                case measure => omega
                case rel => exact ⟨m + 1, by omega, by go_num, by rw [HS.out]; first | (rw [if_pos ‹_›]; go_num) | (rw [if_neg (by omega)]; go_num), by rw [HM2.out], hbz⟩
        · have hml2 : m = l'.length := by omega
          subst hml2
          rw [List.take_length]
          have x9 := (hbw.block X hX8).trans x8
          have t9 := (hbw.block T hT8).trans t8
          have hK9 := hK8.next hbw
          have c0 := cellB hK9.rbag.blk 0 (.slice ra l'.length rc) rfl
          have c1 := cellB hK9.rbag.blk 1 (.int .i64 0) rfl
          have p0 := cellB x9 0 (.int .i64 b0) rfl
          have p1 := cellB x9 1 (.int .i64 b1) rfl
          have p2 := cellB x9 2 (.int .i64 b2) rfl
          have p3 := cellB x9 3 (.string (bs b3)) rfl
          have s0 := cellB t9 0 (.int .i64 b0) rfl
          have s1 := cellB t9 1 (.int .i64 b1) rfl
          have s2 := cellB t9 2 (.int .i64 b2) rfl
          have s3 := cellB t9 3 (.string (bs b3)) rfl
          have hX9 : X < wq.heap.size := (Array.getElem?_eq_some_iff.1 x9).1
          have hT9 : T < wq.heap.size := (Array.getElem?_eq_some_iff.1 t9).1
          have hKd := hK9.next (below_drew (Below.refl _ wq))
          have hrf := ref_any b0 b1 b2 b3 wq.drew
          have hLn : ∀ W, BagAt 70 31 B W B v3 l' 0 → Calls Try.prog 16 #[.pointer (some ⟨B, 0, none⟩)] W fun e W' => e = .returned (.int .i64 l'.length) ∧ W' = W := fun W hW => Len_any hW
          have hDr : ∀ W, BagAt 70 31 B W B v3 l' 0 → Calls Try.prog 17 #[.pointer (some ⟨B, 0, none⟩)] W fun e W' => e = .returned (.int .i64 0) ∧ W' = W := fun W hW => Dropped_any hW
          have hOl : ∀ W, BagAt 70 31 B W B v3 l' 0 → Calls Try.prog 18 #[.pointer (some ⟨B, 0, none⟩), .int .i64 moment] W fun e W' => e = .returned (.int .i64 (olderN moment l')) ∧ W' = W := fun W hW => Older_any hW (by omega) moment
          clear hml hm hu x8 t8 y8 hX8 hT8 hY8
          go_wp2_with fail
          go_region_held3 (fun w' => w'.cell? ⟨X, 0, none⟩ = some (.int .i64 b0) ∧ w'.cell? ⟨X, 1, none⟩ = some (.int .i64 b1) ∧ w'.cell? ⟨X, 2, none⟩ = some (.int .i64 b2) ∧ w'.cell? ⟨X, 3, none⟩ = some (.string (bs b3)) ∧ w'.cell? ⟨T, 0, none⟩ = some (.int .i64 b0) ∧ w'.cell? ⟨T, 1, none⟩ = some (.int .i64 b1) ∧ w'.cell? ⟨T, 2, none⟩ = some (.int .i64 b2) ∧ w'.cell? ⟨T, 3, none⟩ = some (.string (bs b3)) ∧ w'.cell? ⟨B2, 0, none⟩ = some (.slice ra l'.length rc) ∧ w'.cell? ⟨B2, 1, none⟩ = some (.int .i64 0)) (go_keep)
            (first
              | (go_at_call 15; refine hrf.mono ?_; rintro e w10 ⟨rfl, hb10⟩; have hKz := hKd.next hb10; have x10 := (hb10.block X hX9).trans x9; have t10 := (hb10.block T hT9).trans t9; have r0 := cellB x10 0 (.int .i64 b0) rfl; have r1 := cellB x10 1 (.int .i64 b1) rfl; have r2 := cellB x10 2 (.int .i64 b2) rfl; have r3 := cellB x10 3 (.string (bs b3)) rfl; have o0 := cellB t10 0 (.int .i64 b0) rfl; have o1 := cellB t10 1 (.int .i64 b1) rfl; have o2 := cellB t10 2 (.int .i64 b2) rfl; have o3 := cellB t10 3 (.string (bs b3)) rfl; have d0 := cellB hKz.rbag.blk 0 (.slice ra l'.length rc) rfl; have d1 := cellB hKz.rbag.blk 1 (.int .i64 0) rfl)
              | (go_at_call 16; refine (hLn _ hKz.bag).mono ?_; rintro e w11 ⟨rfl, hz⟩; subst hz)
              | (go_at_call 17; refine (hDr _ hKz.bag).mono ?_; rintro e w11 ⟨rfl, hz⟩; subst hz)
              | (go_at_call 18; refine (hOl _ hKz.bag).mono ?_; rintro e w11 ⟨rfl, hz⟩; subst hz))
          clear r0 r1 r2 r3 o0 o1 o2 o3 d0 d1 p0 p1 p2 p3 s0 s1 s2 s3 c0 c1
          go_wp2
          go_roundg (sl.length - (k + 1))
          case measure => omega
          case rel => exact ⟨k + 1, v3, _, l', by omega, by go_num, hKz, HL2⟩
    · have hkl : k = sl.length := by omega
      subst hkl
      go_wp2_with (go_at_call 10; refine (three_any _).mono ?_; rintro e wz ⟨rfl, h9⟩)
      go_ret
      exact ⟨rfl, by rw [HB.out]; exact hK.bel.trans (h9.mono hK.le)⟩
end Go.Proofs.Ytemmnojcickcpaa
