/- The law ShiftBytes, walked. -/
import Derived.Test.YtifalaigfinciaaDoorSjM
import Derived.Test.YtifalaigfinciaaDoorSjI
import Derived.Test.YtifalaigfinciaaDoorSiE
import Derived.Test.YtifalaigfinciaaDoorSiG
namespace Go.Proofs.YtifalaigfinciaaDoor
open Go.RowKit
attribute [local go_sem ↓] Go.wp_at_zero Go.wp_at_succ

theorem Ml.mono {n m : Nat} {w : World} {v : Value} {l : List Bq} (h : Ml n w v l) (hm : n ≤ m) : Ml m w v l := by
  rcases h with h | ⟨b, o, cap, h1, h2, h3⟩
  · exact .inl h
  · exact .inr ⟨b, o, cap, h1, by omega, h3⟩
theorem Ml.grow {w w' : World} {v : Value} {l : List Bq} (h : Ml w.heap.size w v l) (hb : Below w.heap.size w w') : Ml w'.heap.size w' v l := (h.below hb).mono hb.size
theorem loose_tags : ∀ {L : List (List UInt8)} {l : List Bq}, looseL L = some l → ∀ b ∈ l, b.T.length ≤ 16
  | [], l, h => by simp only [looseL, Option.some.injEq] at h; subst h; simp
  | [_], l, h => by cases h
  | [_, _], l, h => by cases h
  | a :: b :: c :: r, l, h => by
    obtain ⟨e, l', h1, h2, rfl⟩ := cat2_some h
    obtain ⟨_, _, k3⟩ := mk3_some h1
    have hcl := cDec_lens c
    have hcv : cDecV c = (e.x, e.g, e.T) := by rw [cDecV, k3]; rfl
    rw [hcv] at hcl
    intro q hq
    rcases List.mem_cons.1 hq with rfl | hq
    · exact hcl.2
    · exact loose_tags h2 q hq
theorem dec_lens (s : List UInt8) : (decC s).T.length ≤ 16 ∧ (∀ b ∈ decL s, b.T.length ≤ 16) ∧ (decL s).length ≤ 8 := by
  cases hd : dec12 s with
  | none => obtain ⟨h1, h2, _⟩ := dec_no hd; rw [h1, h2]; simp
  | some y =>
    obtain ⟨c, l⟩ := y
    obtain ⟨h1, h2, _⟩ := dec_yes hd
    obtain ⟨_, h3, h4, _⟩ := dec12_some hd
    have h5 := loose_tags (loose_of h3)
    simp only [sizedB, Bool.and_eq_true, decide_eq_true_eq] at h4
    rw [h1, h2]
    exact ⟨h5 c (by simp), fun b hb => h5 b (by simp [hb]), h4.2.2⟩
theorem dec_okB {s : List UInt8} (hs : s.length ≤ 200000) (h : decE s = 0) : (∀ b ∈ decC s :: decL s, b.Ok) ∧ shE (decC s) (decL s) = 0 ∧ shV (decC s) (decL s) = s := by
  cases hd : dec12 s with
  | none => rw [(dec_no hd).2.2] at h; cases h
  | some y =>
    obtain ⟨c, l⟩ := y
    obtain ⟨h1, h2, _⟩ := dec_yes hd
    obtain ⟨_, h3, _, h5, h6⟩ := dec12_some hd
    rw [h1, h2]
    exact ⟨loose_ok (loose_of h3) (fun t ht => Nat.le_trans (texts_mem ht) hs), h5, h6⟩
theorem large_facts {c : Bq} {l : List Bq} {bl : List Bv} (hm : bl.map (fun b => (b.t, b.tn)) = l.map (fun b => (b.x, b.T.length))) (h : largeL c.T.length c.x bl = false) : l.length ≤ 20 ∧ c.T.length ≤ 30 ∧ c.x.length ≤ 31000 ∧ (∀ b ∈ l, b.T.length ≤ 30 ∧ b.x.length ≤ 31000) ∧ sumX l ≤ 100000 := by
  obtain ⟨h1, h2, h3, h4, h5⟩ := largeL_false h
  have hx : l.map (·.x) = bl.map (·.t) := by
    have := congrArg (List.map Prod.fst) hm
    rw [List.map_map, List.map_map] at this
    exact this.symm
  have hl : bl.length = l.length := by have := congrArg List.length hm; rw [List.length_map, List.length_map] at this; exact this
  refine ⟨by omega, h2, h3, fun b hb => ?_, by rw [sumX_of hx]; exact h5⟩
  have hb2 : (b.x, b.T.length) ∈ bl.map (fun b => (b.t, b.tn)) := by rw [hm]; exact List.mem_map.2 ⟨b, hb, rfl⟩
  obtain ⟨d, hd, he⟩ := List.mem_map.1 hb2
  have := h4 d hd
  simp only [Prod.mk.injEq] at he
  rw [← he.1, ← he.2]
  omega

set_option maxRecDepth 20000 in
set_option maxHeartbeats 4000000 in
theorem sbytes_any (c : Bq) (l : List Bq) (ma : Option Addr) (mc : Nat) (bu : Value) (s : List UInt8) (w : World) (hw : ∀ b ∈ c :: l, wf64 b.n ∧ wf64 b.v) (he : Env w) (hm : Tl w (.slice ma c.T.length mc) c.T) (hb : Ml w.heap.size w bu l) :
    Calls Tryd.prog 3 #[.agg #[.int .i64 c.n, .int .i64 c.v, .string (bs c.x), .int .i64 c.g, .slice ma c.T.length mc, bu], .string (bs s)] w fun e W' => e = .returned (.bool true) ∧ Below w.heap.size w W' := by
  obtain ⟨ba, bc, rfl⟩ := hb.slice
  have h0 : Below w.heap.size w (w.alloc (.cells #[.int .i64 c.n, .int .i64 c.v, .string (bs c.x), .int .i64 c.g, .slice ma c.T.length mc, .slice ba l.length bc] 27)) := (Below.refl _ w).alloc (Nat.le_refl _) _
  have rP := heap_alloc_new w (.cells #[.int .i64 c.n, .int .i64 c.v, .string (bs c.x), .int .i64 c.g, .slice ma c.T.length mc, .slice ba l.length bc] 27)
  obtain ⟨W0, hW0⟩ : ∃ W, w.alloc (.cells #[.int .i64 c.n, .int .i64 c.v, .string (bs c.x), .int .i64 c.g, .slice ma c.T.length mc, .slice ba l.length bc] 27) = W := ⟨_, rfl⟩
  have HW : Hid (w.alloc (.cells #[.int .i64 c.n, .int .i64 c.v, .string (bs c.x), .int .i64 c.g, .slice ma c.T.length mc, .slice ba l.length bc] 27) = W0) := hW0
  rw [hW0] at h0 rP
  obtain ⟨P, hP⟩ : ∃ P, w.heap.size = P := ⟨_, rfl⟩
  have HP : Hid (w.heap.size = P) := hP
  rw [hP] at rP
  have hlP : P < W0.heap.size := (Array.getElem?_eq_some_iff.1 rP).1
  have Hw : Hid (∀ W, Below W0.heap.size W0 W → Below w.heap.size w W) := fun W h => h0.trans (h.mono h0.size)
  have HC : Hid (∀ W, Below W0.heap.size W0 W → (W.cell? ⟨P, 0, none⟩ = some (.int .i64 c.n) ∧ W.cell? ⟨P, 1, none⟩ = some (.int .i64 c.v) ∧ W.cell? ⟨P, 2, none⟩ = some (.string (bs c.x)) ∧ W.cell? ⟨P, 3, none⟩ = some (.int .i64 c.g) ∧ W.cell? ⟨P, 4, none⟩ = some (.slice ma c.T.length mc) ∧ W.cell? ⟨P, 5, none⟩ = some (.slice ba l.length bc)) ∧ Tl W (.slice ma c.T.length mc) c.T ∧ Ml W.heap.size W (.slice ba l.length bc) l ∧ Env W) := fun W h => by
    have r := (h.block _ hlP).trans rP
    have hwW := Hw.out W h
    exact ⟨⟨cellB r 0 _ rfl, cellB r 1 _ rfl, cellB r 2 _ rfl, cellB r 3 _ rfl, cellB r 4 _ rfl, cellB r 5 _ rfl⟩, hm.below hwW (Nat.le_refl _), hb.grow hwW, he.next hwW⟩
  have HFi : Hid (∀ W, Below W0.heap.size W0 W → Calls Tryd.prog 7 #[] W fun e W' => e = .returned (.bool true) ∧ Below w.heap.size w W') := fun W h => by
    refine (fills_any W (HC.out W h).2.2.2).mono ?_
    rintro e W' ⟨rfl, h2⟩
    exact ⟨rfl, Hw.out _ (h.trans (h2.mono h.size))⟩
  obtain ⟨bl, hbl, hmap⟩ := (HC.out W0 (Below.refl _ _)).2.2.1.bl
  have hLg := large_any ⟨c.n, c.v, c.x, c.g, ma, c.T.length, mc, .slice ba l.length bc, bl⟩ W0 hbl
  simp only at hLg
  have hlf := fun h => large_facts (c := c) hmap h
  obtain ⟨k0, k1, k2, k3, k4, k5⟩ := (HC.out W0 (Below.refl _ _)).1
  obtain ⟨LB, hLB⟩ : ∃ y, largeL c.T.length c.x bl = y := ⟨_, rfl⟩
  rw [hLB] at hLg hlf
  clear hLB hbl hmap hW0 hP h0 rP hm hb he
  by_cases hL : LB = true ∨ LB = false ∧ decide ((100000 : Int) < (bs s).size) = true
  · clear hw hlf
    rcases hL with rfl | ⟨rfl, hq⟩
    all_goals
      go_enter Tryd.func3, Tryd.ntmps3
      go_upto_region 1 with fail
      rw [HW.out, HP.out]
      go_upto_region 2 with (first | (go_at_call 6; refine hLg.mono ?_; clear hLg; rintro e w1 ⟨rfl, h1⟩; have hF := HFi.out w1 h1))
      go_wp2_with (first | (go_at_call 7; refine hF.mono ?_; clear hF; rintro e w2 ⟨rfl, h2⟩))
      exact bodyPost_ret (v := .bool true) (by simp [results, Tryd.f3, go_sem]) rfl ⟨rfl, h2⟩
  have hL1 : LB = false := by
    cases LB
    · rfl
    · exact absurd (.inl rfl) hL
  subst hL1
  have hq : decide ((100000 : Int) < (bs s).size) = false := by
    cases h : decide ((100000 : Int) < (bs s).size)
    · rfl
    · exact absurd (.inr ⟨rfl, h⟩) hL
  have hsl : s.length ≤ 100000 := by
    have h := hq
    simp only [decide_eq_false_iff_not] at h
    rw [bs_size] at h
    omega
  obtain ⟨f1, f2, f3, f4, f5⟩ := hlf rfl
  have hok : ∀ b ∈ c :: l, b.Ok := fun b hb => by
    have hwb := hw b hb
    rcases List.mem_cons.1 hb with rfl | hb
    · exact ⟨hwb.1, hwb.2, by omega, by omega⟩
    · have := f4 b hb; exact ⟨hwb.1, hwb.2, by omega, by omega⟩
  obtain ⟨t1, t2⟩ := sh_small hok f3 f5 f1
  have HEn : Hid (∀ W, Below W0.heap.size W0 W → Calls Tryd.prog 8 #[.agg #[.int .i64 c.n, .int .i64 c.v, .string (bs c.x), .int .i64 c.g, .slice ma c.T.length mc, .slice ba l.length bc]] W fun e W' => e = .returned (.tuple #[.string (bs (shV c l)), .int .i64 (shE c l)]) ∧ Below W.heap.size W W') := fun W h => by
    obtain ⟨_, g1, g2, g3⟩ := HC.out W h
    exact shEncode_any c l _ _ W (hok c (by simp)) (fun b hb => hok b (by simp [hb])) g3.p g1 g2
  have HREn : Hid (∀ W mv bv, Below W0.heap.size W0 W → Tl W mv c.T → Ml W.heap.size W bv l → Calls Tryd.prog 9 #[.agg #[.int .i64 c.n, .int .i64 c.v, .string (bs c.x), .int .i64 c.g, mv, bv]] W fun e W' => e = .returned (.tuple #[.string (bs (shV c l)), .int .i64 (shE c l)]) ∧ Below W.heap.size W W') := fun W mv bv h h1 h2 =>
    rEncode12_any c l _ _ W (hok c (by simp)) (fun b hb => hok b (by simp [hb])) t1 (HC.out W h).2.2.2.p h1 h2
  have HRf : Hid (∀ W mv bv, Tl W mv c.T → Ml W.heap.size W bv l → Calls Tryd.prog 10 #[.agg #[.int .i64 c.n, .int .i64 c.v, .string (bs c.x), .int .i64 c.g, mv, bv]] W fun e W' => ∃ mx bx, e = .returned (.agg #[.int .i64 c.n, .int .i64 c.v, .string (bs c.x), .int .i64 c.g, mx, bx]) ∧ Tl W' mx c.T ∧ Ml W'.heap.size W' bx l ∧ Below W.heap.size W W') := fun W mv bv h1 h2 =>
    refs_any c l mv bv W (by omega) (fun b hb => by have := f4 b hb; omega) (by omega) h1 h2
  have HAl : Hid (∀ W mv bv mx bx, Tl W mv c.T → Ml W.heap.size W bv l → Tl W mx c.T → Ml W.heap.size W bx l → Calls Tryd.prog 13 #[.agg #[.int .i64 c.n, .int .i64 c.v, .string (bs c.x), .int .i64 c.g, mv, bv], .agg #[.int .i64 c.n, .int .i64 c.v, .string (bs c.x), .int .i64 c.g, mx, bx]] W fun e W' => e = .returned (.bool true) ∧ Below W.heap.size W W') := fun W mv bv mx bx h1 h2 h3 h4 =>
    alike_any c l mv bv mx bx W (by omega) (fun b hb => by have := f4 b hb; omega) (by omega) h1 h2 h3 h4
  obtain ⟨d1, d2, d3⟩ := dec_lens s
  have HDc : Hid (∀ W, Below W0.heap.size W0 W → _) := fun W (h : Below W0.heap.size W0 W) => Decode12_any s W (by omega) (HC.out W h).2.2.2
  have HRDc : Hid (_) := fun W => rDecode12_any s W (by omega)
  have HRf2 : Hid (_) := fun W mv bv h1 h2 => refs_any (decC s) (decL s) mv bv W (by omega) (fun b hb => by have := d2 b hb; omega) (by omega) h1 h2
  have HAl2 : Hid (_) := fun W mv bv mx bx h1 h2 h3 h4 => alike_any (decC s) (decL s) mv bv mx bx W (by omega) (fun b hb => by have := d2 b hb; omega) (by omega) h1 h2 h3 h4
  have HBk : Hid (shE c l = 0 → ∀ W, Below W0.heap.size W0 W → Calls Tryd.prog 11 #[.string (bs (shV c l))] W fun e W' => ∃ mx bx, e = .returned (.tuple #[.agg #[.int .i64 c.n, .int .i64 c.v, .string (bs c.x), .int .i64 c.g, mx, bx], .int .i64 0]) ∧ Tl W' mx c.T ∧ Ml W'.heap.size W' bx l ∧ Below W.heap.size W W') := fun h0 W h => by
    have hd := Decode12_any (shV c l) W t2 (HC.out W h).2.2.2
    obtain ⟨e1, e2, e3⟩ := dec_yes (dec_enc hok h0)
    rw [e1, e2, e3] at hd
    exact hd
  have HAg : Hid (decE s = 0 → ∀ W mv bv, Below W0.heap.size W0 W → Tl W mv (decC s).T → Ml W.heap.size W bv (decL s) → Calls Tryd.prog 8 #[.agg #[.int .i64 (decC s).n, .int .i64 (decC s).v, .string (bs (decC s).x), .int .i64 (decC s).g, mv, bv]] W fun e W' => e = .returned (.tuple #[.string (bs s), .int .i64 0]) ∧ Below W.heap.size W W') := fun h0 W mv bv h h1 h2 => by
    obtain ⟨g1, g2, g3⟩ := dec_okB (by omega) h0
    have hd := shEncode_any (decC s) (decL s) mv bv W (g1 _ (by simp)) (fun b hb => g1 b (by simp [hb])) (HC.out W h).2.2.2.p h1 h2
    rw [g2, g3] at hd
    exact hd
  obtain ⟨SV, hSV⟩ : ∃ y, shV c l = y := ⟨_, rfl⟩
  obtain ⟨SE, hSE⟩ : ∃ y, shE c l = y := ⟨_, rfl⟩
  rw [hSV, hSE] at HEn HREn HBk
  obtain ⟨DC, hDC⟩ : ∃ y, decC s = y := ⟨_, rfl⟩
  obtain ⟨DL, hDL⟩ : ∃ y, decL s = y := ⟨_, rfl⟩
  obtain ⟨DE, hDE⟩ : ∃ y, decE s = y := ⟨_, rfl⟩
  rw [hDC, hDL, hDE] at HDc HRDc HAg
  rw [hDC, hDL] at HRf2 HAl2
  have se := str_same SV
  have sb := str_same s
  have nS : (SE != SE) = false := by simp
  have nD : (DE != DE) = false := by simp
  clear hSV hSE hDC hDL hDE hlf hL hok t1 t2 hw f1 f2 f3 f4 f5 d1 d2 d3 hsl
  go_enter Tryd.func3, Tryd.ntmps3
  go_upto_region 1 with fail
  rw [HW.out, HP.out]
  clear HW
  go_upto_region 3 with (first | (go_at_call 6; refine hLg.mono ?_; clear hLg; rintro e w1 ⟨rfl, h1⟩))
  clear k0 k1 k2 k3 k4 k5
  obtain ⟨k0, k1, k2, k3, k4, k5⟩ := (HC.out w1 h1).1
  have hE1 := HEn.out w1 h1
  go_upto_region 4 with (first | (go_at_call 8; refine hE1.mono ?_; clear hE1; rintro e w2 ⟨rfl, h2⟩))
  have h02 := h1.trans (h2.mono h1.size)
  clear k0 k1 k2 k3 k4 k5 HEn h1 h2
  obtain ⟨⟨k0, k1, k2, k3, k4, k5⟩, hT2, hM2, _⟩ := HC.out w2 h02
  have hR2 := HRf.out w2 _ _ hT2 hM2
  go_upto_region 5 with (first
    | (go_at_call 10; refine hR2.mono ?_; clear hR2; rintro e w3 ⟨mx, bx, rfl, hT3, hM3, h3⟩; have h03 := h02.trans (h3.mono h02.size); have hR3 := HREn.out w3 mx bx h03 hT3 hM3)
    | (go_at_call 9; refine hR3.mono ?_; clear hR3; rintro e w4 ⟨rfl, h4⟩))
  have h04 := h03.trans (h4.mono h03.size)
  have hD4 := HDc.out w4 h04
  clear k0 k1 k2 k3 k4 k5 hT2 hM2 hT3 hM3 h03 h3 h4 HREn HDc h02
  go_upto_region 6 with (first | (go_at_call 11; refine hD4.mono ?_; clear hD4; rintro e w5 ⟨my, by', rfl, hT5, hM5, h5⟩; obtain ⟨ya, yc, rfl⟩ := hT5.slice; obtain ⟨za, zc, rfl⟩ := hM5.slice))
  have h05 := h04.trans (h5.mono h04.size)
  have a6 := (Below.refl w5.heap.size w5).alloc (Nat.le_refl _) (.cells #[.int .i64 DC.n, .int .i64 DC.v, .string (bs DC.x), .int .i64 DC.g, .slice ya DC.T.length yc, .slice za DL.length zc] 27)
  have rY := heap_alloc_new w5 (.cells #[.int .i64 DC.n, .int .i64 DC.v, .string (bs DC.x), .int .i64 DC.g, .slice ya DC.T.length yc, .slice za DL.length zc] 27)
  have hT6 := hT5.below a6 (Nat.le_refl _)
  have hM6 := hM5.grow a6
  obtain ⟨W6, hW6⟩ : ∃ W, w5.alloc (.cells #[.int .i64 DC.n, .int .i64 DC.v, .string (bs DC.x), .int .i64 DC.g, .slice ya DC.T.length yc, .slice za DL.length zc] 27) = W := ⟨_, rfl⟩
  rw [hW6] at a6 rY hT6 hM6 ⊢
  obtain ⟨Y, hY⟩ : ∃ Y, w5.heap.size = Y := ⟨_, rfl⟩
  rw [hY] at rY ⊢
  have h06 := h05.trans (a6.mono h05.size)
  have hlY := (Array.getElem?_eq_some_iff.1 rY).1
  have HYb : Hid (∀ W, Below W6.heap.size W6 W → (W.cell? ⟨Y, 0, none⟩ = some (.int .i64 DC.n) ∧ W.cell? ⟨Y, 1, none⟩ = some (.int .i64 DC.v) ∧ W.cell? ⟨Y, 2, none⟩ = some (.string (bs DC.x)) ∧ W.cell? ⟨Y, 3, none⟩ = some (.int .i64 DC.g) ∧ W.cell? ⟨Y, 4, none⟩ = some (.slice ya DC.T.length yc) ∧ W.cell? ⟨Y, 5, none⟩ = some (.slice za DL.length zc)) ∧ Tl W (.slice ya DC.T.length yc) DC.T ∧ Ml W.heap.size W (.slice za DL.length zc) DL) := fun W h => by
    have r := (h.block _ hlY).trans rY
    exact ⟨⟨cellB r 0 _ rfl, cellB r 1 _ rfl, cellB r 2 _ rfl, cellB r 3 _ rfl, cellB r 4 _ rfl, cellB r 5 _ rfl⟩, hT6.below h (Nat.le_refl _), hM6.grow h⟩
  have hR6 := HRDc.out W6
  clear hW6 hY a6 rY hT6 hM6 hT5 hM5 h5 h05 h04 HRDc
  go_upto_region 7 with (first | (go_at_call 12; refine hR6.mono ?_; clear hR6; rintro e w7 ⟨mv, bv, rfl, hT7, hM7, h7⟩; obtain ⟨va, vc, rfl⟩ := hT7.slice; obtain ⟨ua, uc, rfl⟩ := hM7.slice))
  have a8 := (Below.refl w7.heap.size w7).alloc (Nat.le_refl _) (.cells #[.int .i64 DC.n, .int .i64 DC.v, .string (bs DC.x), .int .i64 DC.g, .slice va DC.T.length vc, .slice ua DL.length uc] 40)
  have rV := heap_alloc_new w7 (.cells #[.int .i64 DC.n, .int .i64 DC.v, .string (bs DC.x), .int .i64 DC.g, .slice va DC.T.length vc, .slice ua DL.length uc] 40)
  have hT8 := hT7.below a8 (Nat.le_refl _)
  have hM8 := hM7.grow a8
  obtain ⟨W8, hW8⟩ : ∃ W, w7.alloc (.cells #[.int .i64 DC.n, .int .i64 DC.v, .string (bs DC.x), .int .i64 DC.g, .slice va DC.T.length vc, .slice ua DL.length uc] 40) = W := ⟨_, rfl⟩
  rw [hW8] at a8 rV hT8 hM8 ⊢
  obtain ⟨V, hV⟩ : ∃ V, w7.heap.size = V := ⟨_, rfl⟩
  rw [hV] at rV ⊢
  have h68 : Below W6.heap.size W6 W8 := h7.trans (a8.mono h7.size)
  have h08 := h06.trans (h68.mono h06.size)
  have hlV := (Array.getElem?_eq_some_iff.1 rV).1
  have HVb : Hid (∀ W, Below W8.heap.size W8 W → (W.cell? ⟨V, 0, none⟩ = some (.int .i64 DC.n) ∧ W.cell? ⟨V, 1, none⟩ = some (.int .i64 DC.v) ∧ W.cell? ⟨V, 2, none⟩ = some (.string (bs DC.x)) ∧ W.cell? ⟨V, 3, none⟩ = some (.int .i64 DC.g) ∧ W.cell? ⟨V, 4, none⟩ = some (.slice va DC.T.length vc) ∧ W.cell? ⟨V, 5, none⟩ = some (.slice ua DL.length uc)) ∧ Tl W (.slice va DC.T.length vc) DC.T ∧ Ml W.heap.size W (.slice ua DL.length uc) DL) := fun W h => by
    have r := (h.block _ hlV).trans rV
    exact ⟨⟨cellB r 0 _ rfl, cellB r 1 _ rfl, cellB r 2 _ rfl, cellB r 3 _ rfl, cellB r 4 _ rfl, cellB r 5 _ rfl⟩, hT8.below h (Nat.le_refl _), hM8.grow h⟩
  have HYc : Hid (∀ W, Below W8.heap.size W8 W → (W.cell? ⟨Y, 0, none⟩ = some (.int .i64 DC.n) ∧ W.cell? ⟨Y, 1, none⟩ = some (.int .i64 DC.v) ∧ W.cell? ⟨Y, 2, none⟩ = some (.string (bs DC.x)) ∧ W.cell? ⟨Y, 3, none⟩ = some (.int .i64 DC.g) ∧ W.cell? ⟨Y, 4, none⟩ = some (.slice ya DC.T.length yc) ∧ W.cell? ⟨Y, 5, none⟩ = some (.slice za DL.length zc)) ∧ Tl W (.slice ya DC.T.length yc) DC.T ∧ Ml W.heap.size W (.slice za DL.length zc) DL) := fun W h => HYb.out W (h68.trans (h.mono h68.size))
  have hbA : Below W8.heap.size W8 W8.drew := below_drew (Below.refl _ _)
  obtain ⟨⟨y0, y1, y2, y3, y4, y5⟩, hTy, hMy⟩ := HYc.out W8 (Below.refl _ _)
  obtain ⟨v0, v1, v2, v3, v4, v5⟩ := (HVb.out W8 (Below.refl _ _)).1
  have hR8 := HRf2.out W8.drew _ _ (hTy.below hbA (Nat.le_refl _)) (hMy.grow hbA)
  clear hW8 hV a8 rV hT8 hM8 hT7 hM7 h7 h06 h68 HYb HRf2 hTy hMy
  go_region_held3 (fun w' => w'.cell? ⟨Y, 0, none⟩ = some (.int .i64 DC.n) ∧ w'.cell? ⟨Y, 1, none⟩ = some (.int .i64 DC.v) ∧ w'.cell? ⟨Y, 2, none⟩ = some (.string (bs DC.x)) ∧ w'.cell? ⟨Y, 3, none⟩ = some (.int .i64 DC.g) ∧ w'.cell? ⟨Y, 4, none⟩ = some (.slice ya DC.T.length yc) ∧ w'.cell? ⟨Y, 5, none⟩ = some (.slice za DL.length zc) ∧ w'.cell? ⟨V, 0, none⟩ = some (.int .i64 DC.n) ∧ w'.cell? ⟨V, 1, none⟩ = some (.int .i64 DC.v) ∧ w'.cell? ⟨V, 2, none⟩ = some (.string (bs DC.x)) ∧ w'.cell? ⟨V, 3, none⟩ = some (.int .i64 DC.g) ∧ w'.cell? ⟨V, 4, none⟩ = some (.slice va DC.T.length vc) ∧ w'.cell? ⟨V, 5, none⟩ = some (.slice ua DL.length uc)) (go_keep)
    (first
      | (go_at_call 10; refine hR8.mono ?_; clear hR8; rintro e w9 ⟨mx, bx, rfl, hT9, hM9, h9'⟩; have h9 : Below W8.heap.size W8 w9 := hbA.trans h9'; obtain ⟨⟨y0, y1, y2, y3, y4, y5⟩, hTy, hMy⟩ := HYc.out w9 h9; obtain ⟨⟨v0, v1, v2, v3, v4, v5⟩, hTv, hMv⟩ := HVb.out w9 h9; have hA9 := HAl2.out w9 mx bx _ _ hT9 hM9 hTv hMv)
      | (go_at_call 13; refine hA9.mono ?_; clear hA9; rintro e w10 ⟨rfl, h10'⟩; have h10 := h9.trans (h10'.mono h9.size); obtain ⟨⟨y0, y1, y2, y3, y4, y5⟩, hTy, hMy⟩ := HYc.out w10 h10; obtain ⟨⟨v0, v1, v2, v3, v4, v5⟩, hTv, hMv⟩ := HVb.out w10 h10))
  have h010 := h08.trans (h10.mono h08.size)
  have HDE : Hid (DE = 0 ∨ (DE == 0) = false) := by
    by_cases h : DE = 0
    · exact .inl h
    · exact .inr (by simpa using h)
  clear hTv hMv hTy hMy h9' h10' h9 hT9 hM9 y0 y1 y2 y3 y4 y5 v0 v1 v2 v3 v4 v5 HAl2 h08 hbA
  by_cases hS0 : SE = 0
  · subst hS0
    have hB10 := HBk.out rfl w10 h010
    clear HBk
    go_upto_region 11 with (first | (go_at_call 11; refine hB10.mono ?_; clear hB10; rintro e w11 ⟨mb, bb, rfl, hT11, hM11, h11⟩; obtain ⟨sa, sc, rfl⟩ := hT11.slice; obtain ⟨ta, tc, rfl⟩ := hM11.slice))
    have a12 := (Below.refl w11.heap.size w11).alloc (Nat.le_refl _) (.cells #[.int .i64 c.n, .int .i64 c.v, .string (bs c.x), .int .i64 c.g, .slice sa c.T.length sc, .slice ta l.length tc] 27)
    have rB := heap_alloc_new w11 (.cells #[.int .i64 c.n, .int .i64 c.v, .string (bs c.x), .int .i64 c.g, .slice sa c.T.length sc, .slice ta l.length tc] 27)
    have hT12 := hT11.below a12 (Nat.le_refl _)
    have hM12 := hM11.grow a12
    obtain ⟨W12, hW12⟩ : ∃ W, w11.alloc (.cells #[.int .i64 c.n, .int .i64 c.v, .string (bs c.x), .int .i64 c.g, .slice sa c.T.length sc, .slice ta l.length tc] 27) = W := ⟨_, rfl⟩
    rw [hW12] at a12 rB hT12 hM12 ⊢
    obtain ⟨B, hB⟩ : ∃ B, w11.heap.size = B := ⟨_, rfl⟩
    rw [hB] at rB ⊢
    have h1012 : Below w10.heap.size w10 W12 := h11.trans (a12.mono h11.size)
    have h012 := h010.trans (h1012.mono h010.size)
    have h812 := h10.trans (h1012.mono h10.size)
    have hlB := (Array.getElem?_eq_some_iff.1 rB).1
    have HBb : Hid (∀ W, Below W12.heap.size W12 W → (W.cell? ⟨B, 0, none⟩ = some (.int .i64 c.n) ∧ W.cell? ⟨B, 1, none⟩ = some (.int .i64 c.v) ∧ W.cell? ⟨B, 2, none⟩ = some (.string (bs c.x)) ∧ W.cell? ⟨B, 3, none⟩ = some (.int .i64 c.g) ∧ W.cell? ⟨B, 4, none⟩ = some (.slice sa c.T.length sc) ∧ W.cell? ⟨B, 5, none⟩ = some (.slice ta l.length tc)) ∧ Tl W (.slice sa c.T.length sc) c.T ∧ Ml W.heap.size W (.slice ta l.length tc) l) := fun W h => by
      have r := (h.block _ hlB).trans rB
      exact ⟨⟨cellB r 0 _ rfl, cellB r 1 _ rfl, cellB r 2 _ rfl, cellB r 3 _ rfl, cellB r 4 _ rfl, cellB r 5 _ rfl⟩, hT12.below h (Nat.le_refl _), hM12.grow h⟩
    have HCb : Hid (∀ W, Below W12.heap.size W12 W → (W.cell? ⟨P, 0, none⟩ = some (.int .i64 c.n) ∧ W.cell? ⟨P, 1, none⟩ = some (.int .i64 c.v) ∧ W.cell? ⟨P, 2, none⟩ = some (.string (bs c.x)) ∧ W.cell? ⟨P, 3, none⟩ = some (.int .i64 c.g) ∧ W.cell? ⟨P, 4, none⟩ = some (.slice ma c.T.length mc) ∧ W.cell? ⟨P, 5, none⟩ = some (.slice ba l.length bc)) ∧ Tl W (.slice ma c.T.length mc) c.T ∧ Ml W.heap.size W (.slice ba l.length bc) l) := fun W h => by
      obtain ⟨g1, g2, g3, _⟩ := HC.out W (h012.trans (h.mono h012.size))
      exact ⟨g1, g2, g3⟩
    have HRz : Hid (∀ W mv bv, Below W12.heap.size W12 W → ((mv = .slice sa c.T.length sc ∧ bv = .slice ta l.length tc) ∨ (mv = .slice ma c.T.length mc ∧ bv = .slice ba l.length bc)) → Calls Tryd.prog 10 #[.agg #[.int .i64 c.n, .int .i64 c.v, .string (bs c.x), .int .i64 c.g, mv, bv]] W fun e W' => ∃ mx bx, e = .returned (.agg #[.int .i64 c.n, .int .i64 c.v, .string (bs c.x), .int .i64 c.g, mx, bx]) ∧ Tl W' mx c.T ∧ Ml W'.heap.size W' bx l ∧ Below W.heap.size W W') := fun W mv bv h hor => by
      rcases hor with ⟨rfl, rfl⟩ | ⟨rfl, rfl⟩
      · exact HRf.out W _ _ (HBb.out W h).2.1 (HBb.out W h).2.2
      · exact HRf.out W _ _ (HCb.out W h).2.1 (HCb.out W h).2.2
    have hbA : Below W12.heap.size W12 W12.drew := below_drew (Below.refl _ _)
    obtain ⟨b0, b1, b2, b3, b4, b5⟩ := (HBb.out W12 (Below.refl _ _)).1
    obtain ⟨k0, k1, k2, k3, k4, k5⟩ := (HCb.out W12 (Below.refl _ _)).1
    clear hW12 hB a12 rB hT12 hM12 hT11 hM11 h11 h1012 HRf
    go_region_held3 (fun w' => w'.cell? ⟨B, 0, none⟩ = some (.int .i64 c.n) ∧ w'.cell? ⟨B, 1, none⟩ = some (.int .i64 c.v) ∧ w'.cell? ⟨B, 2, none⟩ = some (.string (bs c.x)) ∧ w'.cell? ⟨B, 3, none⟩ = some (.int .i64 c.g) ∧ w'.cell? ⟨B, 4, none⟩ = some (.slice sa c.T.length sc) ∧ w'.cell? ⟨B, 5, none⟩ = some (.slice ta l.length tc) ∧ w'.cell? ⟨P, 0, none⟩ = some (.int .i64 c.n) ∧ w'.cell? ⟨P, 1, none⟩ = some (.int .i64 c.v) ∧ w'.cell? ⟨P, 2, none⟩ = some (.string (bs c.x)) ∧ w'.cell? ⟨P, 3, none⟩ = some (.int .i64 c.g) ∧ w'.cell? ⟨P, 4, none⟩ = some (.slice ma c.T.length mc) ∧ w'.cell? ⟨P, 5, none⟩ = some (.slice ba l.length bc)) (go_keep)
      (first
        | (go_at_call 10; have hgd := h13; refine (HRz.out _ _ _ h13 (by first | exact .inl ⟨rfl, rfl⟩ | exact .inr ⟨rfl, rfl⟩)).mono ?_; rintro e w14 ⟨mx2, bx2, rfl, hT14, hM14, h14'⟩; have h14 := h13.trans (h14'.mono h13.size); have hT13b := hT13.below h14' (Nat.le_refl _); have hM13b := hM13.grow h14'; obtain ⟨b0, b1, b2, b3, b4, b5⟩ := (HBb.out w14 h14).1; obtain ⟨k0, k1, k2, k3, k4, k5⟩ := (HCb.out w14 h14).1)
        | (go_at_call 10; refine (HRz.out _ _ _ hbA (by first | exact .inl ⟨rfl, rfl⟩ | exact .inr ⟨rfl, rfl⟩)).mono ?_; rintro e w13 ⟨mx1, bx1, rfl, hT13, hM13, h13'⟩; have h13 : Below W12.heap.size W12 w13 := hbA.trans h13'; obtain ⟨b0, b1, b2, b3, b4, b5⟩ := (HBb.out w13 h13).1; obtain ⟨k0, k1, k2, k3, k4, k5⟩ := (HCb.out w13 h13).1)
        | (go_at_call 13; refine (HAl.out w14 _ _ _ _ (by first | exact hT14 | exact hT13b) (by first | exact hM14 | exact hM13b) (by first | exact hT14 | exact hT13b) (by first | exact hM14 | exact hM13b)).mono ?_; rintro e w15 ⟨rfl, h15'⟩; have h15 := h14.trans (h15'.mono h14.size); obtain ⟨b0, b1, b2, b3, b4, b5⟩ := (HBb.out w15 h15).1; obtain ⟨k0, k1, k2, k3, k4, k5⟩ := (HCb.out w15 h15).1))
    all_goals
      have h815 := h812.trans (h15.mono h812.size)
      have h0T := h012.trans (h15.mono h012.size)
      obtain ⟨⟨y0, y1, y2, y3, y4, y5⟩, hTy, hMy⟩ := HYc.out w15 h815
      rcases HDE.out with rfl | hDz
      · have hA := HAg.out rfl w15 _ _ h0T hTy hMy
        go_wp2_with (first
          | (go_at_call 8; refine hA.mono ?_; clear hA; rintro e w20 ⟨rfl, h20⟩; have hF := HFi.out w20 (h0T.trans (h20.mono h0T.size)))
          | (go_at_call 7; refine hF.mono ?_; clear hF; rintro e w21 ⟨rfl, h21⟩))
        exact bodyPost_ret (v := .bool true) (by simp [results, Tryd.f3, go_sem]) rfl ⟨rfl, h21⟩
      · have hF := HFi.out w15 h0T
        go_wp2_with (first | (go_at_call 7; refine hF.mono ?_; clear hF; rintro e w21 ⟨rfl, h21⟩))
        exact bodyPost_ret (v := .bool true) (by simp [results, Tryd.f3, go_sem]) rfl ⟨rfl, h21⟩
  · have hSz : (SE == 0) = false := by simpa using hS0
    clear hS0 HBk HRf HAl
    have h0T := h010
    obtain ⟨⟨y0, y1, y2, y3, y4, y5⟩, hTy, hMy⟩ := HYc.out w10 h10
    rcases HDE.out with rfl | hDz
    · have hA := HAg.out rfl w10 _ _ h0T hTy hMy
      go_wp2_with (first
        | (go_at_call 8; refine hA.mono ?_; clear hA; rintro e w20 ⟨rfl, h20⟩; have hF := HFi.out w20 (h0T.trans (h20.mono h0T.size)))
        | (go_at_call 7; refine hF.mono ?_; clear hF; rintro e w21 ⟨rfl, h21⟩))
      exact bodyPost_ret (v := .bool true) (by simp [results, Tryd.f3, go_sem]) rfl ⟨rfl, h21⟩
    · have hF := HFi.out w10 h0T
      go_wp2_with (first | (go_at_call 7; refine hF.mono ?_; clear hF; rintro e w21 ⟨rfl, h21⟩))
      exact bodyPost_ret (v := .bool true) (by simp [results, Tryd.f3, go_sem]) rfl ⟨rfl, h21⟩
end Go.Proofs.YtifalaigfinciaaDoor
