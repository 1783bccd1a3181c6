/- The document's one, walked. -/
import Derived.Test.YtdfonbhboncjmaaDoorPcB
namespace Go.Proofs.YtdfonbhboncjmaaDoor
open Go.RowKit Go.Maps
attribute [local go_sem ↓] Go.wp_at_zero Go.wp_at_succ

theorem neq45 (E : Int) (t : List UInt8) (w : World) : (binOp .neq 45 (.agg #[.int .i64 E, .string (bs t)]) (.agg #[.int .i64 0, .string ⟨#[]⟩])).run Tryd.prog w = .ok (.bool (decide ((t, E) ≠ ([], 0)))) w := by
  show (binOp .neq 45 (.agg #[.int .i64 E, .string (bs t)]) (.agg #[.int .i64 0, .string (bs [])])).run Tryd.prog w = _
  go_simp
  rw [bs_tl, bs_tl]
  by_cases h1 : E = 0
  · by_cases h2 : t = []
    · simp [h1, h2]
    · simp [h1, h2]
  · simp [h1]
/-- A call ahead of which this one can't stand. -/
def badB (calls : List Cl) (c : Cl) (k : Nat) : Bool := match calls[k]? with
  | some b => decide (b.cl = c.cl) && (decide (c.no ≤ b.no) || decide (b.tt = -1) || decide (c.fr < b.tt))
  | none => false
theorem badB_at {calls : List Cl} {c b : Cl} {k : Nat} (h : calls[k]? = some b) : badB calls c k = (decide (b.cl = c.cl) && (decide (c.no ≤ b.no) || decide (b.tt = -1) || decide (c.fr < b.tt))) := by
  rw [badB, h]
def rOne (calls : List Cl) (i : Nat) : Bool := match calls[i]? with
  | some c => okCall c && decide (fstB (badB calls c) i = -1)
  | none => false
theorem rOne_at {calls : List Cl} {i : Nat} {c : Cl} (h : calls[i]? = some c) : rOne calls i = (okCall c && decide (fstB (badB calls c) i = -1)) := by
  rw [rOne, h]
set_option maxRecDepth 20000 in
set_option maxHeartbeats 4000000 in
theorem rone_any (calls : List Cl) (i : Nat) (vc : Value) (w : World) (hc : SlF ccs 10 w vc calls) (hi : i < calls.length) (hl : calls.length ≤ 100000) : Calls Tryd.prog 20 #[vc, .int .i64 i] w fun e W' => e = .returned (.bool (rOne calls i)) ∧ Below w.heap.size w W' := by
  obtain ⟨va, vcap, rfl⟩ := hc.slice
  obtain ⟨c, ho⟩ : ∃ c, calls[i]? = some c := ⟨_, List.getElem?_eq_getElem hi⟩
  have hR := rOne_at ho
  have hBd := fun k b (h : calls[k]? = some b) => badB_at (c := c) h
  obtain ⟨P, hP⟩ : ∃ P, badB calls c = P := ⟨_, rfl⟩
  rw [hP] at hR
  rw [hP] at hBd
  obtain ⟨R, hRe⟩ : ∃ R, rOne calls i = R := ⟨_, rfl⟩
  rw [hRe] at hR ⊢
  obtain ⟨g, e', hg', -, y⟩ := hc.at ho
  subst hg'
  obtain ⟨N, hN⟩ : ∃ N, w.heap.size = N := ⟨_, rfl⟩
  have HV : Hid (∀ W, Below N w W → SlF ccs 10 W (.slice (some ⟨g, e', none⟩) calls.length vcap) calls) := fun W hW => hc.on hW (by omega)
  obtain ⟨OK, hOK⟩ : ∃ x, okCall c = x := ⟨_, rfl⟩
  rw [hOK] at hR
  obtain ⟨cl, no, ⟨kind, k, v, od⟩, fr, tt, T, E⟩ := c
  have hBd' : ∀ (k : Nat) b, calls[k]? = some b → P k = (decide (b.cl = cl) && (decide (no ≤ b.no) || decide (b.tt = -1) || decide (fr < b.tt))) := hBd
  have hOK' : (decide (0 ≤ cl) && decide (cl < 8) && decide (1 ≤ no) && decide (no ≤ 1099511627776) && decide (chk kind k v od = 0) && decide (0 ≤ fr) && (if tt = -1 then decide ((T, E) = (([], 0) : An)) else decide (fr ≤ tt))) = OK := hOK
  clear hBd hP hRe hOK
  have HK : Hid (∀ W, Calls Tryd.prog 32 #[.agg #[.int .i64 kind, .string (bs k), .string (bs v), .string (bs od)]] W fun e W' => e = .returned (.int .i64 (chk kind k v od)) ∧ Below W.heap.size W W') := fun W => rCheck_any kind k v od W
  obtain ⟨X, hX⟩ : ∃ X, chk kind k v od = X := ⟨_, rfl⟩
  rw [hX] at HK hOK'
  clear hX
  have y0 : w.cell? ⟨g, e' + i * 10, none⟩ = some (.int .i64 cl) := y 0 _ rfl
  have y1 : w.cell? ⟨g, e' + i * 10 + 1, none⟩ = some (.int .i64 no) := y 1 _ rfl
  have y2 : w.cell? ⟨g, e' + i * 10 + 2, none⟩ = some (.int .i64 kind) := y 2 _ rfl
  have y3 : w.cell? ⟨g, e' + i * 10 + 3, none⟩ = some (.string (bs k)) := y 3 _ rfl
  have y4 : w.cell? ⟨g, e' + i * 10 + 4, none⟩ = some (.string (bs v)) := y 4 _ rfl
  have y5 : w.cell? ⟨g, e' + i * 10 + 5, none⟩ = some (.string (bs od)) := y 5 _ rfl
  have y6 : w.cell? ⟨g, e' + i * 10 + 6, none⟩ = some (.int .i64 fr) := y 6 _ rfl
  have y7 : w.cell? ⟨g, e' + i * 10 + 7, none⟩ = some (.int .i64 tt) := y 7 _ rfl
  have y8 : w.cell? ⟨g, e' + i * 10 + 8, none⟩ = some (.int .i64 E) := y 8 _ rfl
  have y9 : w.cell? ⟨g, e' + i * 10 + 9, none⟩ = some (.string (bs T)) := y 9 _ rfl
  have d0 : (0 : Int) ≤ (i : Int) := by omega
  have d1 : (i : Int) < (calls.length : Int) := by omega
  have rD := heap_alloc_new w (.cells #[.int .i64 cl, .int .i64 no, .int .i64 kind, .string (bs k), .string (bs v), .string (bs od), .int .i64 fr, .int .i64 tt, .int .i64 E, .string (bs T)] 68)
  have hbA := (Below.refl w.heap.size w).alloc (Nat.le_refl _) (.cells #[.int .i64 cl, .int .i64 no, .int .i64 kind, .string (bs k), .string (bs v), .string (bs od), .int .i64 fr, .int .i64 tt, .int .i64 E, .string (bs T)] 68)
  obtain ⟨WA, hWA⟩ : ∃ W, w.alloc (.cells #[.int .i64 cl, .int .i64 no, .int .i64 kind, .string (bs k), .string (bs v), .string (bs od), .int .i64 fr, .int .i64 tt, .int .i64 E, .string (bs T)] 68) = W := ⟨_, rfl⟩
  have hzA : WA.heap.size = N + 1 := by rw [← hWA, World.size_alloc, hN]
  rw [hWA] at rD hbA
  rw [hN] at rD hbA
  obtain ⟨D, hD⟩ : ∃ D, N = D := ⟨_, rfl⟩
  rw [hD] at rD
  have x0 := cellB rD 0 _ rfl
  have x1 := cellB rD 1 _ rfl
  have x2 := cellB rD 2 _ rfl
  have x3 := cellB rD 3 _ rfl
  have x4 := cellB rD 4 _ rfl
  have x5 := cellB rD 5 _ rfl
  have x6 := cellB rD 6 _ rfl
  have x7 := cellB rD 7 _ rfl
  have x8 := cellB rD 8 _ rfl
  have x9 := cellB rD 9 _ rfl
  have HA : Hid (WA.heap[D]? = some (.cells #[.int .i64 cl, .int .i64 no, .int .i64 kind, .string (bs k), .string (bs v), .string (bs od), .int .i64 fr, .int .i64 tt, .int .i64 E, .string (bs T)] 68) ∧ Below N w WA ∧ D + 1 ≤ WA.heap.size) := ⟨rD, hbA, by omega⟩
  have HND : Hid (N ≤ D + 1) := by
    have : N ≤ D + 1 := by omega
    exact this
  have HDN : Hid (w.heap.size = D) := hN.trans hD
  have HWA : Hid (w.alloc (.cells #[.int .i64 cl, .int .i64 no, .int .i64 kind, .string (bs k), .string (bs v), .string (bs od), .int .i64 fr, .int .i64 tt, .int .i64 E, .string (bs T)] 68) = WA) := hWA
  have HN : Hid (w.heap.size = N) := hN
  have HBd : Hid (_) := hBd'
  have HL : Hid (i < calls.length ∧ calls.length ≤ 100000) := ⟨hi, hl⟩
  have HR0 : Hid (R = (OK && decide (fstB P i = -1))) := hR
  clear hR hc ho y rD hbA hWA hzA hN hD hBd' hi hl
  have h45 := fun W => neq45 E T W
  go_enter Tryd.func20, Tryd.ntmps20
  go_upto_region 2 with fail
  rw [HWA.out]
  try rw [HDN.out]
  clear y0 y1 y2 y3 y4 y5 y6 y7 y8 y9 HWA
  by_cases h1 : 0 ≤ cl
  rotate_left
  · have HR : Hid (R = false) := by
      have : OK = false := by rw [← hOK', decide_eq_false h1]; simp
      show _ = _
      rw [HR0.out, this]; rfl
    have h1' : cl < 0 := by omega
    clear hOK'
    go_wp2
    all_goals first
      | (go_ret; exact ⟨by rw [HR.out]; first | rfl | simp, by rw [HN.out]; exact HA.out.2.1⟩)
      | (exfalso; omega)
  by_cases h2 : cl < 8
  rotate_left
  · have HR : Hid (R = false) := by
      have : OK = false := by rw [← hOK', decide_eq_false h2]; simp
      show _ = _
      rw [HR0.out, this]; rfl
    have h2' : 7 < cl := by omega
    clear hOK'
    go_wp2
    all_goals first
      | (go_ret; exact ⟨by rw [HR.out]; first | rfl | simp, by rw [HN.out]; exact HA.out.2.1⟩)
      | (exfalso; omega)
  by_cases h3 : 1 ≤ no
  rotate_left
  · have HR : Hid (R = false) := by
      have : OK = false := by rw [← hOK', decide_eq_false h3]; simp
      show _ = _
      rw [HR0.out, this]; rfl
    have h3' : no < 1 := by omega
    clear hOK'
    go_wp2
    all_goals first
      | (go_ret; exact ⟨by rw [HR.out]; first | rfl | simp, by rw [HN.out]; exact HA.out.2.1⟩)
      | (exfalso; omega)
  by_cases h4 : no ≤ 1099511627776
  rotate_left
  · have HR : Hid (R = false) := by
      have : OK = false := by rw [← hOK', decide_eq_false h4]; simp
      show _ = _
      rw [HR0.out, this]; rfl
    have h4' : 1099511627776 < no := by omega
    clear hOK'
    go_wp2
    all_goals first
      | (go_ret; exact ⟨by rw [HR.out]; first | rfl | simp, by rw [HN.out]; exact HA.out.2.1⟩)
      | (exfalso; omega)
  have n1 : ¬ cl < 0 := by omega
  have n2 : ¬ 7 < cl := by omega
  have n3 : ¬ no < 1 := by omega
  have n4 : ¬ 1099511627776 < no := by omega
  by_cases h5 : X = 0
  rotate_left
  · have HR : Hid (R = false) := by
      have : OK = false := by rw [← hOK', decide_eq_false h5]; simp
      show _ = _
      rw [HR0.out, this]; rfl
    clear hOK'
    go_wp2_with (go_at_call 32; refine (HK.out _).mono ?_; rintro e w1 ⟨rfl, hb1⟩; have hb1' := hb1.mono (HA.out.2.2); have rD1 := (hb1'.block D (by omega)).trans HA.out.1; have q0 := cellB rD1 0 _ rfl; have q1 := cellB rD1 1 _ rfl; have q2 := cellB rD1 2 _ rfl; have q3 := cellB rD1 3 _ rfl; have q4 := cellB rD1 4 _ rfl; have q5 := cellB rD1 5 _ rfl; have q6 := cellB rD1 6 _ rfl; have q7 := cellB rD1 7 _ rfl; have q8 := cellB rD1 8 _ rfl; have q9 := cellB rD1 9 _ rfl; have HB1 : Hid (Below (D + 1) WA w1) := hb1'; clear hb1 hb1' rD1)
    all_goals first
      | (go_ret; exact ⟨by rw [HR.out]; first | rfl | simp, by rw [HN.out]; exact HA.out.2.1.trans (HB1.out.mono HND.out)⟩)
      | (exfalso; omega)
  subst h5
  by_cases h6 : 0 ≤ fr
  rotate_left
  · have HR : Hid (R = false) := by
      have : OK = false := by rw [← hOK', decide_eq_false h6]; simp
      show _ = _
      rw [HR0.out, this]; rfl
    have h6' : fr < 0 := by omega
    clear hOK'
    go_wp2_with (go_at_call 32; refine (HK.out _).mono ?_; rintro e w1 ⟨rfl, hb1⟩; have hb1' := hb1.mono (HA.out.2.2); have rD1 := (hb1'.block D (by omega)).trans HA.out.1; have q0 := cellB rD1 0 _ rfl; have q1 := cellB rD1 1 _ rfl; have q2 := cellB rD1 2 _ rfl; have q3 := cellB rD1 3 _ rfl; have q4 := cellB rD1 4 _ rfl; have q5 := cellB rD1 5 _ rfl; have q6 := cellB rD1 6 _ rfl; have q7 := cellB rD1 7 _ rfl; have q8 := cellB rD1 8 _ rfl; have q9 := cellB rD1 9 _ rfl; have HB1 : Hid (Below (D + 1) WA w1) := hb1'; clear hb1 hb1' rD1)
    all_goals first
      | (go_ret; exact ⟨by rw [HR.out]; first | rfl | simp, by rw [HN.out]; exact HA.out.2.1.trans (HB1.out.mono HND.out)⟩)
      | (exfalso; omega)
  have n6 : ¬ fr < 0 := by omega
  rw [decide_eq_true h1, decide_eq_true h2, decide_eq_true h3, decide_eq_true h4, decide_eq_true h6] at hOK'
  simp only [decide_true, Bool.true_and] at hOK'
  have HOK : Hid (_) := hOK'
  clear hOK' h1 h2 h3 h4 h6
  go_upto_region 4 with (go_at_call 32; refine (HK.out _).mono ?_; rintro e w1 ⟨rfl, hb1⟩; have hb1' := hb1.mono (HA.out.2.2); have rD1 := (hb1'.block D (by omega)).trans HA.out.1; have q0 := cellB rD1 0 _ rfl; have q1 := cellB rD1 1 _ rfl; have q2 := cellB rD1 2 _ rfl; have q3 := cellB rD1 3 _ rfl; have q4 := cellB rD1 4 _ rfl; have q5 := cellB rD1 5 _ rfl; have q6 := cellB rD1 6 _ rfl; have q7 := cellB rD1 7 _ rfl; have q8 := cellB rD1 8 _ rfl; have q9 := cellB rD1 9 _ rfl; have HB1 : Hid (Below (D + 1) WA w1) := hb1'; clear hb1 hb1' rD1)
  clear x0 x1 x2 x3 x4 x5 x6 x7 x8 x9
  by_cases ht : tt = -1
  · have t1 : (tt == -1) = true := by rw [ht]; rfl
    have t2 : (tt != -1) = false := by rw [ht]; rfl
    by_cases ha : E = 0 ∧ T = []
    · have HOKT : Hid (OK = true) := by
        show _ = _
        rw [← HOK.out, if_pos ht, ha.1, ha.2]; rfl
      obtain ⟨rfl, rfl⟩ := ha
      have q9 : w1.cell? ⟨D, 9, none⟩ = some (.string ⟨#[]⟩) := q9
      clear ht
      go_upto_region 6 with fail
      clear q0 q1 q2 q3 q4 q5 q6 q7 q8 q9 h45
      go_wp2_with fail
      go_loopg [6] i (fun gk j wr => ∃ m : Nat, m + gk = i ∧ j = .int .i64 m ∧ (∀ j, j < m → P j = false) ∧ Below (D + 1) WA wr)
      case atStart => exact ⟨0, by omega, rfl, fun j hj => by omega, HB1.out⟩
      case round =>
        obtain ⟨m, hm, rfl, hP, hB⟩ := hrel
        have hBN := HA.out.2.1.trans (hB.mono HND.out)
        by_cases hm1 : m < i
        · obtain ⟨b, hb⟩ : ∃ b, calls[m]? = some b := ⟨_, List.getElem?_eq_getElem (by have := HL.out; omega)⟩
          have hPm := HBd.out m b hb
          obtain ⟨g2, e2, hg2, -, y⟩ := (HV.out _ hBN).at hb
          cases hg2
          obtain ⟨cl2, no2, ⟨kind2, k2, v2, od2⟩, fr2, tt2, T2, E2⟩ := b
          have HPm : Hid (P m = (decide (cl2 = cl) && (decide (no ≤ no2) || decide (tt2 = -1) || decide (fr < tt2)))) := hPm
          have z0 : wr.cell? ⟨g, e' + m * 10, none⟩ = some (.int .i64 cl2) := y 0 _ rfl
          have z1 : wr.cell? ⟨g, e' + m * 10 + 1, none⟩ = some (.int .i64 no2) := y 1 _ rfl
          have z2 : wr.cell? ⟨g, e' + m * 10 + 2, none⟩ = some (.int .i64 kind2) := y 2 _ rfl
          have z3 : wr.cell? ⟨g, e' + m * 10 + 3, none⟩ = some (.string (bs k2)) := y 3 _ rfl
          have z4 : wr.cell? ⟨g, e' + m * 10 + 4, none⟩ = some (.string (bs v2)) := y 4 _ rfl
          have z5 : wr.cell? ⟨g, e' + m * 10 + 5, none⟩ = some (.string (bs od2)) := y 5 _ rfl
          have z6 : wr.cell? ⟨g, e' + m * 10 + 6, none⟩ = some (.int .i64 fr2) := y 6 _ rfl
          have z7 : wr.cell? ⟨g, e' + m * 10 + 7, none⟩ = some (.int .i64 tt2) := y 7 _ rfl
          have z8 : wr.cell? ⟨g, e' + m * 10 + 8, none⟩ = some (.int .i64 E2) := y 8 _ rfl
          have z9 : wr.cell? ⟨g, e' + m * 10 + 9, none⟩ = some (.string (bs T2)) := y 9 _ rfl
          obtain ⟨D2, hD2⟩ : ∃ D2, wr.heap.size = D2 := ⟨_, rfl⟩
          have hDD : D + 1 ≤ D2 := by have := hB.size; have := HA.out.2.2; omega
          have rD2 := heap_alloc_new wr (.cells #[.int .i64 cl2, .int .i64 no2, .int .i64 kind2, .string (bs k2), .string (bs v2), .string (bs od2), .int .i64 fr2, .int .i64 tt2, .int .i64 E2, .string (bs T2)] 68)
          have hbB := (Below.refl wr.heap.size wr).alloc (Nat.le_refl _) (.cells #[.int .i64 cl2, .int .i64 no2, .int .i64 kind2, .string (bs k2), .string (bs v2), .string (bs od2), .int .i64 fr2, .int .i64 tt2, .int .i64 E2, .string (bs T2)] 68)
          obtain ⟨WB, hWB⟩ : ∃ W, wr.alloc (.cells #[.int .i64 cl2, .int .i64 no2, .int .i64 kind2, .string (bs k2), .string (bs v2), .string (bs od2), .int .i64 fr2, .int .i64 tt2, .int .i64 E2, .string (bs T2)] 68) = W := ⟨_, rfl⟩
          rw [hWB] at rD2 hbB
          rw [hD2] at rD2 hbB
          have hBB := hB.trans (hbB.mono hDD)
          have rD := (hBB.block D (by omega)).trans HA.out.1
          have r0 := cellB rD 0 _ rfl
          have r1 := cellB rD 1 _ rfl
          have r6 := cellB rD 6 _ rfl
          have s0 := cellB rD2 0 _ rfl
          have s1 := cellB rD2 1 _ rfl
          have s7 := cellB rD2 7 _ rfl
          have d2 : (0 : Int) ≤ (m : Int) := by omega
          have d3 : (m : Int) < (i : Int) := by omega
          have d4 : (m : Int) < (calls.length : Int) := by have := HL.out; omega
          have d5 : i ≤ 100000 := by have := HL.out; omega
          have HWB : Hid (wr.alloc (.cells #[.int .i64 cl2, .int .i64 no2, .int .i64 kind2, .string (bs k2), .string (bs v2), .string (bs od2), .int .i64 fr2, .int .i64 tt2, .int .i64 E2, .string (bs T2)] 68) = WB) := hWB
          have HD2 : Hid (wr.heap.size = D2) := hD2
          have HBB : Hid (Below (D + 1) WA WB) := hBB
          have HP : Hid (∀ j, j < m → P j = false) := hP
          have HGO : Hid (P m = false → ∀ j, j < m + 1 → P j = false) := fun h j hj => by
            by_cases ej : j = m
            · subst ej; exact h
            · exact HP.out j (by omega)
          have HST : Hid (P m = true → R = false) := fun h => by
            have hm9 : m < i := by omega
            rw [HR0.out, fstB_at hm9 h HP.out]
            have : decide ((m : Int) = -1) = false := decide_eq_false (by omega)
            rw [this, Bool.and_false]
          clear hPm y rD2 hbB hWB hBB hD2 hDD hB hBN hb rD hP
          go_upto_region 10 with fail
          rw [HWB.out]
          try rw [HD2.out]
          clear z0 z1 z2 z3 z4 z5 z6 z7 z8 z9 HWB HD2
          by_cases e0 : cl2 = cl
          · have b0 : (cl2 == cl) = true := by simpa using e0
            by_cases e1 : no ≤ no2
            · have HR : Hid (R = false) := HST.out (by rw [HPm.out, decide_eq_true e0, decide_eq_true e1]; rfl)
              clear e0
              go_wp2
              all_goals first
                | (go_ret; exact ⟨by rw [HR.out]; first | rfl | simp, by rw [HN.out]; exact HA.out.2.1.trans (HBB.out.mono HND.out)⟩)
                | (exfalso; omega)
            · by_cases e3 : tt2 = -1
              · have b3 : (tt2 == -1) = true := by simpa using e3
                have HR : Hid (R = false) := HST.out (by rw [HPm.out, decide_eq_true e0, decide_eq_true e3, Bool.or_true]; rfl)
                clear e0 e3
                go_wp2
                all_goals first
                  | (go_ret; exact ⟨by rw [HR.out]; first | rfl | simp, by rw [HN.out]; exact HA.out.2.1.trans (HBB.out.mono HND.out)⟩)
                  | (exfalso; omega)
              · have b3 : (tt2 == -1) = false := by simpa using e3
                by_cases e4 : fr < tt2
                · have HR : Hid (R = false) := HST.out (by rw [HPm.out, decide_eq_true e0, decide_eq_true e4, Bool.or_true]; rfl)
                  clear e0 e3
                  go_wp2
                  all_goals first
                    | (go_ret; exact ⟨by rw [HR.out]; first | rfl | simp, by rw [HN.out]; exact HA.out.2.1.trans (HBB.out.mono HND.out)⟩)
                    | (exfalso; omega)
                · have HG : Hid (∀ j, j < m + 1 → P j = false) := HGO.out (by rw [HPm.out, decide_eq_false e1, decide_eq_false e3, decide_eq_false e4]; simp)
                  clear e0 e3
                  go_wp2
                  go_roundg (i - (m + 1))
                  case measure => omega
                  case rel => exact ⟨m + 1, by omega, by go_num, HG.out, HBB.out⟩
          · have b0 : (cl2 == cl) = false := by simpa using e0
            have HG : Hid (∀ j, j < m + 1 → P j = false) := HGO.out (by rw [HPm.out, decide_eq_false e0]; rfl)
            clear e0
            go_wp2
            go_roundg (i - (m + 1))
            case measure => omega
            case rel => exact ⟨m + 1, by omega, by go_num, HG.out, HBB.out⟩
        obtain rfl : m = i := by omega
        have HR : Hid (R = true) := by
          show _ = _
          rw [HR0.out, fstB_none hP, HOKT.out]
          rfl
        have HBN : Hid (Below N w wr) := hBN
        clear hP hB hBN
        go_wp2
        go_ret
        exact ⟨by rw [HR.out]; first | rfl | simp, by rw [HN.out]; exact HBN.out⟩
    · have HR : Hid (R = false) := by
        have : OK = false := by
          rw [← HOK.out, if_pos ht]
          exact decide_eq_false fun h => ha ⟨congrArg Prod.snd h, congrArg Prod.fst h⟩
        show _ = _
        rw [HR0.out, this]; rfl
      clear ht
      by_cases ha1 : E = 0
      · have ha2 : ¬ T = [] := fun h => ha ⟨ha1, h⟩
        subst ha1
        clear ha
        go_wp2
        all_goals first
          | (go_ret; exact ⟨by rw [HR.out]; first | rfl | simp, by rw [HN.out]; exact HA.out.2.1.trans (HB1.out.mono HND.out)⟩)
          | (exfalso; omega)
          | (exfalso; exact ha2 (by assumption))
      · have ha3 : (E == 0) = false := by simpa using ha1
        clear ha
        go_wp2
        all_goals first
          | (go_ret; exact ⟨by rw [HR.out]; first | rfl | simp, by rw [HN.out]; exact HA.out.2.1.trans (HB1.out.mono HND.out)⟩)
          | (exfalso; omega)
  · have t1 : (tt == -1) = false := by simpa using ht
    have t2 : (tt != -1) = true := by simpa using ht
    by_cases hf : fr ≤ tt
    · have HOKT : Hid (OK = true) := by
        show _ = _
        rw [← HOK.out, if_neg ht]
        exact decide_eq_true hf
      have hf' : ¬ tt < fr := by omega
      clear ht hf
      go_upto_region 6 with fail
      clear q0 q1 q2 q3 q4 q5 q6 q7 q8 q9 h45
      go_wp2_with fail
      go_loopg [6] i (fun gk j wr => ∃ m : Nat, m + gk = i ∧ j = .int .i64 m ∧ (∀ j, j < m → P j = false) ∧ Below (D + 1) WA wr)
      case atStart => exact ⟨0, by omega, rfl, fun j hj => by omega, HB1.out⟩
      case round =>
        obtain ⟨m, hm, rfl, hP, hB⟩ := hrel
        have hBN := HA.out.2.1.trans (hB.mono HND.out)
        by_cases hm1 : m < i
        · obtain ⟨b, hb⟩ : ∃ b, calls[m]? = some b := ⟨_, List.getElem?_eq_getElem (by have := HL.out; omega)⟩
          have hPm := HBd.out m b hb
          obtain ⟨g2, e2, hg2, -, y⟩ := (HV.out _ hBN).at hb
          cases hg2
          obtain ⟨cl2, no2, ⟨kind2, k2, v2, od2⟩, fr2, tt2, T2, E2⟩ := b
          have HPm : Hid (P m = (decide (cl2 = cl) && (decide (no ≤ no2) || decide (tt2 = -1) || decide (fr < tt2)))) := hPm
          have z0 : wr.cell? ⟨g, e' + m * 10, none⟩ = some (.int .i64 cl2) := y 0 _ rfl
          have z1 : wr.cell? ⟨g, e' + m * 10 + 1, none⟩ = some (.int .i64 no2) := y 1 _ rfl
          have z2 : wr.cell? ⟨g, e' + m * 10 + 2, none⟩ = some (.int .i64 kind2) := y 2 _ rfl
          have z3 : wr.cell? ⟨g, e' + m * 10 + 3, none⟩ = some (.string (bs k2)) := y 3 _ rfl
          have z4 : wr.cell? ⟨g, e' + m * 10 + 4, none⟩ = some (.string (bs v2)) := y 4 _ rfl
          have z5 : wr.cell? ⟨g, e' + m * 10 + 5, none⟩ = some (.string (bs od2)) := y 5 _ rfl
          have z6 : wr.cell? ⟨g, e' + m * 10 + 6, none⟩ = some (.int .i64 fr2) := y 6 _ rfl
          have z7 : wr.cell? ⟨g, e' + m * 10 + 7, none⟩ = some (.int .i64 tt2) := y 7 _ rfl
          have z8 : wr.cell? ⟨g, e' + m * 10 + 8, none⟩ = some (.int .i64 E2) := y 8 _ rfl
          have z9 : wr.cell? ⟨g, e' + m * 10 + 9, none⟩ = some (.string (bs T2)) := y 9 _ rfl
          obtain ⟨D2, hD2⟩ : ∃ D2, wr.heap.size = D2 := ⟨_, rfl⟩
          have hDD : D + 1 ≤ D2 := by have := hB.size; have := HA.out.2.2; omega
          have rD2 := heap_alloc_new wr (.cells #[.int .i64 cl2, .int .i64 no2, .int .i64 kind2, .string (bs k2), .string (bs v2), .string (bs od2), .int .i64 fr2, .int .i64 tt2, .int .i64 E2, .string (bs T2)] 68)
          have hbB := (Below.refl wr.heap.size wr).alloc (Nat.le_refl _) (.cells #[.int .i64 cl2, .int .i64 no2, .int .i64 kind2, .string (bs k2), .string (bs v2), .string (bs od2), .int .i64 fr2, .int .i64 tt2, .int .i64 E2, .string (bs T2)] 68)
          obtain ⟨WB, hWB⟩ : ∃ W, wr.alloc (.cells #[.int .i64 cl2, .int .i64 no2, .int .i64 kind2, .string (bs k2), .string (bs v2), .string (bs od2), .int .i64 fr2, .int .i64 tt2, .int .i64 E2, .string (bs T2)] 68) = W := ⟨_, rfl⟩
          rw [hWB] at rD2 hbB
          rw [hD2] at rD2 hbB
          have hBB := hB.trans (hbB.mono hDD)
          have rD := (hBB.block D (by omega)).trans HA.out.1
          have r0 := cellB rD 0 _ rfl
          have r1 := cellB rD 1 _ rfl
          have r6 := cellB rD 6 _ rfl
          have s0 := cellB rD2 0 _ rfl
          have s1 := cellB rD2 1 _ rfl
          have s7 := cellB rD2 7 _ rfl
          have d2 : (0 : Int) ≤ (m : Int) := by omega
          have d3 : (m : Int) < (i : Int) := by omega
          have d4 : (m : Int) < (calls.length : Int) := by have := HL.out; omega
          have d5 : i ≤ 100000 := by have := HL.out; omega
          have HWB : Hid (wr.alloc (.cells #[.int .i64 cl2, .int .i64 no2, .int .i64 kind2, .string (bs k2), .string (bs v2), .string (bs od2), .int .i64 fr2, .int .i64 tt2, .int .i64 E2, .string (bs T2)] 68) = WB) := hWB
          have HD2 : Hid (wr.heap.size = D2) := hD2
          have HBB : Hid (Below (D + 1) WA WB) := hBB
          have HP : Hid (∀ j, j < m → P j = false) := hP
          have HGO : Hid (P m = false → ∀ j, j < m + 1 → P j = false) := fun h j hj => by
            by_cases ej : j = m
            · subst ej; exact h
            · exact HP.out j (by omega)
          have HST : Hid (P m = true → R = false) := fun h => by
            have hm9 : m < i := by omega
            rw [HR0.out, fstB_at hm9 h HP.out]
            have : decide ((m : Int) = -1) = false := decide_eq_false (by omega)
            rw [this, Bool.and_false]
          clear hPm y rD2 hbB hWB hBB hD2 hDD hB hBN hb rD hP
          go_upto_region 10 with fail
          rw [HWB.out]
          try rw [HD2.out]
          clear z0 z1 z2 z3 z4 z5 z6 z7 z8 z9 HWB HD2
          by_cases e0 : cl2 = cl
          · have b0 : (cl2 == cl) = true := by simpa using e0
            by_cases e1 : no ≤ no2
            · have HR : Hid (R = false) := HST.out (by rw [HPm.out, decide_eq_true e0, decide_eq_true e1]; rfl)
              clear e0
              go_wp2
              all_goals first
                | (go_ret; exact ⟨by rw [HR.out]; first | rfl | simp, by rw [HN.out]; exact HA.out.2.1.trans (HBB.out.mono HND.out)⟩)
                | (exfalso; omega)
            · by_cases e3 : tt2 = -1
              · have b3 : (tt2 == -1) = true := by simpa using e3
                have HR : Hid (R = false) := HST.out (by rw [HPm.out, decide_eq_true e0, decide_eq_true e3, Bool.or_true]; rfl)
                clear e0 e3
                go_wp2
                all_goals first
                  | (go_ret; exact ⟨by rw [HR.out]; first | rfl | simp, by rw [HN.out]; exact HA.out.2.1.trans (HBB.out.mono HND.out)⟩)
                  | (exfalso; omega)
              · have b3 : (tt2 == -1) = false := by simpa using e3
                by_cases e4 : fr < tt2
                · have HR : Hid (R = false) := HST.out (by rw [HPm.out, decide_eq_true e0, decide_eq_true e4, Bool.or_true]; rfl)
                  clear e0 e3
                  go_wp2
                  all_goals first
                    | (go_ret; exact ⟨by rw [HR.out]; first | rfl | simp, by rw [HN.out]; exact HA.out.2.1.trans (HBB.out.mono HND.out)⟩)
                    | (exfalso; omega)
                · have HG : Hid (∀ j, j < m + 1 → P j = false) := HGO.out (by rw [HPm.out, decide_eq_false e1, decide_eq_false e3, decide_eq_false e4]; simp)
                  clear e0 e3
                  go_wp2
                  go_roundg (i - (m + 1))
                  case measure => omega
                  case rel => exact ⟨m + 1, by omega, by go_num, HG.out, HBB.out⟩
          · have b0 : (cl2 == cl) = false := by simpa using e0
            have HG : Hid (∀ j, j < m + 1 → P j = false) := HGO.out (by rw [HPm.out, decide_eq_false e0]; rfl)
            clear e0
            go_wp2
            go_roundg (i - (m + 1))
            case measure => omega
            case rel => exact ⟨m + 1, by omega, by go_num, HG.out, HBB.out⟩
        obtain rfl : m = i := by omega
        have HR : Hid (R = true) := by
          show _ = _
          rw [HR0.out, fstB_none hP, HOKT.out]
          rfl
        have HBN : Hid (Below N w wr) := hBN
        clear hP hB hBN
        go_wp2
        go_ret
        exact ⟨by rw [HR.out]; first | rfl | simp, by rw [HN.out]; exact HBN.out⟩
    · have HR : Hid (R = false) := by
        have : OK = false := by
          rw [← HOK.out, if_neg ht]
          exact decide_eq_false hf
        show _ = _
        rw [HR0.out, this]; rfl
      have hf' : tt < fr := by omega
      clear ht hf
      go_wp2
      all_goals first
        | (go_ret; exact ⟨by rw [HR.out]; first | rfl | simp, by rw [HN.out]; exact HA.out.2.1.trans (HB1.out.mono HND.out)⟩)
        | (exfalso; omega)
end Go.Proofs.YtdfonbhboncjmaaDoor
