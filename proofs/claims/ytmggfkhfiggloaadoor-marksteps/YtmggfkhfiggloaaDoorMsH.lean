/- The law MarkSteps, walked. -/
import Derived.Test.YtmggfkhfiggloaaDoorMsG
import Derived.Test.YtmggfkhfiggloaaDoorMkW
namespace Go.Proofs.YtmggfkhfiggloaaDoor
open Go.RowKit
attribute [local go_sem ↓] Go.wp_at_zero Go.wp_at_succ

set_option maxRecDepth 20000 in
set_option maxHeartbeats 8000000 in
theorem msteps_any (g f : Int) (l : List Sp) (v : Value) (w : World) (he : Env w) (hv : Stl w v l) : Calls Tryd.prog 4 #[.int .i64 g, .int .i64 f, v] w fun e W' => e = .returned (.bool true) ∧ Below w.heap.size w W' := by
  obtain ⟨va, vc, rfl⟩ := hv.slice
  have HO : Hid (∀ W, Below w.heap.size w W → Calls Tryd.prog 12 #[] W fun e W' => e = .returned (.bool true) ∧ Below w.heap.size w W') := by
    intro W hb
    refine (one_any W (he.next hb).p).mono ?_
    rintro e W' ⟨rfl, h⟩
    exact ⟨rfl, hb.trans (h.mono hb.size)⟩
  have hRi := Right_any g f
  rcases new_cases g f with hno | ⟨hg1, f', rfl, hf3⟩
  · have hN := New_no hno w
    have hO := HO.out w (Below.refl _ _)
    rw [hno] at hRi
    clear hno hv
    go_enter Tryd.func4, Tryd.ntmps4
    go_wp2_with (first
      | (go_at_call 13; refine hN.mono ?_; rintro e w1 ⟨rfl, h9⟩; subst h9)
      | (go_at_call 14; refine (hRi _).mono ?_; rintro e w1 ⟨rfl, h9⟩; subst h9)
      | (go_at_call 12; refine hO.mono ?_; rintro e w2 ⟨rfl, hb2⟩))
    go_ret
    exact ⟨rfl, hb2⟩
  · have hN := New_ok hg1 hf3 w
    have hr2 : inR (f' : Int) 0 3 = true := by simp [inR]; omega
    rw [hg1, hr2] at hRi
    by_cases hl : 100 < l.length
    · have hl2 : (100 : Int) < (l.length : Int) := by omega
      clear hv hl
      go_enter Tryd.func4, Tryd.ntmps4
      go_wp2_with (first
        | (go_at_call 13; refine hN.mono ?_; rintro e w1 ⟨rfl, h1, hb1⟩; have hO := HO.out w1 hb1)
        | (go_at_call 14; refine (hRi _).mono ?_; rintro e w9 ⟨rfl, h9⟩; replace h9 := h9.symm; subst h9)
        | (go_at_call 12; refine hO.mono ?_; rintro e w2 ⟨rfl, hb2⟩))
      go_ret
      exact ⟨rfl, hb2⟩
    · have hl2 : (l.length : Int) ≤ 100 := by omega
      have hl100 : l.length ≤ 100 := by omega
      have HV : Hid (_) := hv
      clear hv hl
      go_enter Tryd.func4, Tryd.ntmps4
      go_upto_region 7 with (first
        | (go_at_call 13; refine hN.mono ?_; clear hN; rintro e w1 ⟨rfl, h1, hb1⟩)
        | (go_at_call 14; refine (hRi _).mono ?_; rintro e w9 ⟨rfl, h9⟩; replace h9 := h9.symm; subst h9))
      have hba := (Below.refl w1.heap.size w1).alloc (Nat.le_refl _) (.cells #[.int .i64 g, .int .i64 f', .slice none 0 0, .int .i64 0, .int .i64 0, .string ⟨#[]⟩, .string ⟨#[]⟩, .int .i64 0, .slice none 0 0] 46)
      have rR := heap_alloc_new w1 (.cells #[.int .i64 g, .int .i64 f', .slice none 0 0, .int .i64 0, .int .i64 0, .string ⟨#[]⟩, .string ⟨#[]⟩, .int .i64 0, .slice none 0 0] 46)
      have hlB := h1.lt
      have hlw := hb1.size
      have hBes : Bes w (w1.alloc (.cells #[.int .i64 g, .int .i64 f', .slice none 0 0, .int .i64 0, .int .i64 0, .string ⟨#[]⟩, .string ⟨#[]⟩, .int .i64 0, .slice none 0 0] 46)) w.heap.size w1.heap.size g f' st0 rs0 :=
        ⟨by omega, Nat.le_refl _, hlw, hb1.trans (hba.mono hlw), _, _, _, h1.on hba, ⟨⟨0, rR⟩, hf3, .inl ⟨rfl, none, 0, rfl⟩, Tp.nil _, (fun k hk => by cases hk), (fun k hk => by cases hk)⟩, (fun k hk => by cases hk), (fun k hk => by cases hk), (fun k hk => by cases hk)⟩
      obtain ⟨W1, hW1⟩ : ∃ W, w1.alloc (.cells #[.int .i64 g, .int .i64 f', .slice none 0 0, .int .i64 0, .int .i64 0, .string ⟨#[]⟩, .string ⟨#[]⟩, .int .i64 0, .slice none 0 0] 46) = W := ⟨_, rfl⟩
      rw [hW1] at hBes ⊢
      obtain ⟨R, hR⟩ : ∃ R, w1.heap.size = R := ⟨_, rfl⟩
      rw [hR] at hBes ⊢
      obtain ⟨B, hB⟩ : ∃ B, w.heap.size = B := ⟨_, rfl⟩
      rw [hB] at hBes ⊢
      have HB0 : Hid (w.heap.size = B) := hB
      clear h1 hb1 hba rR hW1 hR hB hlB hlw
      go_wp2
      go_loopg [56] l.length (fun gk i wr => ∃ (j : Nat) (s : St) (r : Rs), j + gk = l.length ∧ i = .int .i64 j ∧ Bes w wr B R g f' s r ∧ Same s r f' ∧ r.L.length ≤ j)
      case atStart => exact ⟨0, st0, rs0, by omega, rfl, hBes, same0 f', by simp [rs0]⟩
      case round =>
        clear hBes
        obtain ⟨j, s, r, hj, rfl, hBs, hSm, hrl⟩ := hrel
        by_cases hlt : j < l.length
        · obtain ⟨p, hp⟩ : ∃ p, l[j]? = some p := ⟨_, List.getElem?_eq_getElem hlt⟩
          obtain ⟨vb, vo, rfl, hvb, x0, x1, x2, x3, x4, x5, x6, x7, hT, hok⟩ := Stl.at HV.out hBs.bel hp
          obtain ⟨what, no, n, st, tg, ct, cg, T, u⟩ := p
          simp only at x0 x1 x2 x3 x4 x5 x6 x7 hT
          obtain ⟨ua, uc, rfl⟩ := hT.slice
          have hba := (Below.refl wr.heap.size wr).alloc (Nat.le_refl _) (.cells #[.int .i64 what, .int .i64 no, .int .i64 n, .string (bs st), .string (bs tg), .string (bs ct), .int .i64 cg, .slice ua T.length uc] 51)
          have rQ := heap_alloc_new wr (.cells #[.int .i64 what, .int .i64 no, .int .i64 n, .string (bs st), .string (bs tg), .string (bs ct), .int .i64 cg, .slice ua T.length uc] 51)
          have hB1 := hBs.next hba
          have hT1 := hT.on hba
          have j0 : (0 : Int) ≤ (j : Int) := by omega
          have j1 : (j : Int) < (l.length : Int) := by omega
          have hlB := hBs.ltB
          have hlR := hBs.ltR
          have hzst : (bs st).size = st.length := bs_size st
          have hzct : (bs ct).size = ct.length := bs_size ct
          obtain ⟨W1, hW1⟩ : ∃ W, wr.alloc (.cells #[.int .i64 what, .int .i64 no, .int .i64 n, .string (bs st), .string (bs tg), .string (bs ct), .int .i64 cg, .slice ua T.length uc] 51) = W := ⟨_, rfl⟩
          have HW : Hid (wr.alloc (.cells #[.int .i64 what, .int .i64 no, .int .i64 n, .string (bs st), .string (bs tg), .string (bs ct), .int .i64 cg, .slice ua T.length uc] 51) = W1) := hW1
          rw [hW1] at hB1 hT1 rQ
          have q0 := cellB rQ 0 _ rfl
          have q1 := cellB rQ 1 _ rfl
          have q2 := cellB rQ 2 _ rfl
          have q3 := cellB rQ 3 _ rfl
          have q4 := cellB rQ 4 _ rfl
          have q5 := cellB rQ 5 _ rfl
          have q6 := cellB rQ 6 _ rfl
          have q7 := cellB rQ 7 _ rfl
          have HX : Hid (_ ∧ _ ∧ _ ∧ _) := ⟨hB1, hT1, rQ, hSm⟩
          have HTp : Hid (∀ W, Below w.heap.size w W → Tp W (.slice ua T.length uc) T) := fun W hb => by
            obtain ⟨_, _, _, _, _, _, _, _, _, _, _, _, h, _⟩ := Stl.at HV.out hb hp
            exact h
          clear hW1 hba hT hB1 hT1 rQ hBs hp hok hSm
          go_upto_region 10 with fail
          rw [HW.out]
          clear HW x0 x1 x2 x3 x4 x5 x6 x7 hvb
          by_cases hbig : 30 < T.length ∨ 40000 < ct.length ∨ 40000 < st.length
          · have hc : (30 : Int) < (T.length : Int) ∨ ((T.length : Int) ≤ 30 ∧ ((40000 : Int) < (ct.length : Int) ∨ ((ct.length : Int) ≤ 40000 ∧ (40000 : Int) < (st.length : Int)))) := by omega
            clear hbig
            rcases hc with h1 | ⟨h1, h2 | ⟨h2, h3⟩⟩
            all_goals
              go_wp2
              go_roundg (l.length - (j + 1))
              case measure => omega
              case rel => exact ⟨j + 1, s, r, by omega, by go_num, HX.out.1, HX.out.2.2.2, by omega⟩
          · have hT30 : (T.length : Int) ≤ 30 := by omega
            have hct : (ct.length : Int) ≤ 40000 := by omega
            have hst : (st.length : Int) ≤ 40000 := by omega
            clear hbig
            obtain ⟨Q, hQ⟩ : ∃ Q, wr.heap.size = Q := ⟨_, rfl⟩
            obtain ⟨hB1, hT1, rQ, hSm⟩ := HX.out
            rw [hQ] at q0 q1 q2 q3 q4 q5 q6 q7 rQ hlB hlR ⊢
            have hQB : Q ≠ B := by omega
            have hQR : Q ≠ R := by omega
            have hlQ := (Array.getElem?_eq_some_iff.1 rQ).1
            have key : ∃ s3 r3, (Same s3 r3 f' ∧ r3.L.length ≤ j + 1) ∧ (((what = 0 ∨ what = 1) ∧ ∃ b E, voteR g f' s no n st tg = (b, E, s3) ∧ rvoteR g f' r no n st tg = (b, E, r3)) ∨ (what = 2 ∧ ∃ b E, adoptR g s ct cg T = (b, E, s3) ∧ radoptR g r ct cg T = (b, E, r3)) ∨ (((what == 0) = false ∧ (what == 1) = false ∧ (what == 2) = false) ∧ s3 = s ∧ r3 = r)) := by
              by_cases h01 : what = 0 ∨ what = 1
              · obtain ⟨⟨b, E, s3⟩, hv1⟩ : ∃ x, voteR g f' s no n st tg = x := ⟨_, rfl⟩
                obtain ⟨r3, hv2, hs3⟩ := hSm.vote hf3 hv1
                exact ⟨s3, r3, ⟨hs3, by have := rvote_len hv2; omega⟩, .inl ⟨h01, b, E, hv1, hv2⟩⟩
              · by_cases h2 : what = 2
                · obtain ⟨⟨b, E, s3⟩, hv1⟩ : ∃ x, adoptR g s ct cg T = x := ⟨_, rfl⟩
                  obtain ⟨r3, hv2, hs3⟩ := hSm.adopt hv1
                  exact ⟨s3, r3, ⟨hs3, by have := radopt_len hv2; rw [this]; omega⟩, .inr (.inl ⟨h2, b, E, hv1, hv2⟩)⟩
                · refine ⟨s, r, ⟨hSm, by omega⟩, .inr (.inr ⟨⟨?_, ?_, ?_⟩, rfl, rfl⟩)⟩
                  · simp; omega
                  · simp; omega
                  · simpa using h2
            obtain ⟨s3, r3, HS3, hcase⟩ := key
            have HS3' : Hid (_) := HS3
            have HB1 : Hid (_) := hB1
            have HrQ : Hid (_) := rQ
            clear HX hB1 hT1 rQ hSm HS3 hQ
            go_upto_block 2 with fail
            go_cut [80] (fun _ wx => Bes w wx B R g f' s3 r3 ∧ wx.heap[Q]? = some (.cells #[.int .i64 what, .int .i64 no, .int .i64 n, .string (bs st), .string (bs tg), .string (bs ct), .int .i64 cg, .slice ua T.length uc] 51))
            case first =>
              rcases hcase with ⟨h01, b, E, hv1, hv2⟩ | ⟨rfl, b, E, hv1, hv2⟩ | ⟨⟨n0, n1, n2⟩, rfl, rfl⟩
              · have hV := HB1.out.pvote he.p no n st tg (by omega) hv1
                have HV2 : Hid (∀ W, Bes w W B R g f' s3 r → Calls Tryd.prog 16 #[.pointer (some ⟨R, 0, none⟩), .agg #[.int .i64 no, .int .i64 n, .string (bs st), .string (bs tg)]] W fun e W' => e = .returned (.tuple #[.bool b, .int .i64 E]) ∧ Bes w W' B R g f' s3 r3 ∧ Mv R W W') := fun W hW => hW.rvote no n st tg (by omega) hv2
                clear hv1 hv2 HTp HB1
                rcases h01 with rfl | rfl
                all_goals
                  go_wp2_with (first
                    | (go_at_call 15; refine hV.mono ?_; clear hV; rintro e w2 ⟨rfl, hb2, hm2⟩; have rQ2 := hm2.far hlQ hQB HrQ.out; have k1 := cellB rQ2 1 _ rfl; have k2 := cellB rQ2 2 _ rfl; have k3 := cellB rQ2 3 _ rfl; have k4 := cellB rQ2 4 _ rfl; have hV2 := HV2.out _ hb2; have HrQ2 : Hid (_) := rQ2; clear hb2 rQ2 hm2)
                    | (go_at_call 16; refine hV2.mono ?_; clear hV2; rintro e wz ⟨rfl, hBz, hmz⟩; have HzQ : Hid (wz.heap[Q]? = _) := hmz.far (Array.getElem?_eq_some_iff.1 HrQ2.out).1 hQR HrQ2.out; have HzB : Hid (_) := hBz; clear hBz hmz))
                  go_meet
                  case rel => exact ⟨HzB.out, HzQ.out⟩
              · have hA := HB1.out.padopt he ct cg T (.slice ua T.length uc) (HTp.out _ HB1.out.bel) (by omega) hv1
                have HA2 : Hid (∀ W u, Bes w W B R g f' s3 r → Tp W u T → (∀ k, u.ownBlock = some k → k ≠ R ∧ k ≠ B) → Calls Tryd.prog 18 #[.pointer (some ⟨R, 0, none⟩), .agg #[.string (bs ct), .int .i64 cg, u]] W fun e W' => e = .returned (.tuple #[.bool b, .int .i64 E]) ∧ Bes w W' B R g f' s3 r3 ∧ Mv R W W') := fun W u hW hu ho => hW.radopt ct cg T u hu (fun k hk => (ho k hk).1) (fun k hk => (ho k hk).2) (by omega) hv2
                have HRf : Hid (∀ W, Bes w W B R g f' s3 r → Calls Tryd.prog 19 #[.agg #[.string (bs ct), .int .i64 cg, .slice ua T.length uc]] W fun e W' => ∃ u, e = .returned (.agg #[.string (bs ct), .int .i64 cg, u]) ∧ Bes w W' B R g f' s3 r ∧ Tp W' u T ∧ (∀ k, u.ownBlock = some k → k ≠ R ∧ k ≠ B) ∧ Below W.heap.size W W') := by
                  intro W hW
                  refine (ref_any (bs ct) cg T (.slice ua T.length uc) W (by omega) (HTp.out _ hW.bel).tl).mono ?_
                  rintro e W' ⟨u, rfl, ho, hb⟩
                  have := hW.ltB
                  have := hW.ltR
                  exact ⟨u, rfl, hW.next hb, Tp.of_owns ho, fun k hk => by have := (ho.lt k hk).1; omega, hb⟩
                clear hv1 hv2 HTp HB1
                go_wp2_with (first
                  | (go_at_call 17; refine hA.mono ?_; clear hA; rintro e w2 ⟨rfl, hb2, hm2⟩; have rQ2 := hm2.far hlQ hQB HrQ.out; have k5 := cellB rQ2 5 _ rfl; have k6 := cellB rQ2 6 _ rfl; have k7 := cellB rQ2 7 _ rfl; have hRf := HRf.out _ hb2; have HrQ2 : Hid (_) := rQ2; clear hb2 rQ2 hm2)
                  | (go_at_call 19; refine hRf.mono ?_; clear hRf; rintro e w3 ⟨u3, rfl, hb3, hu3, ho3, hw3⟩; have hA2 := HA2.out _ _ hb3 hu3 ho3; have HrQ3 : Hid (w3.heap[Q]? = _) := (hw3.block _ (Array.getElem?_eq_some_iff.1 HrQ2.out).1).trans HrQ2.out; obtain ⟨ua3, uc3, rfl⟩ := hu3.slice; clear hb3 hu3 ho3 hw3)
                  | (go_at_call 18; refine hA2.mono ?_; clear hA2; rintro e wz ⟨rfl, hBz, hmz⟩; have HzQ : Hid (wz.heap[Q]? = _) := hmz.far (Array.getElem?_eq_some_iff.1 HrQ3.out).1 hQR HrQ3.out; have HzB : Hid (_) := hBz; clear hBz hmz))
                go_meet
                case rel => exact ⟨HzB.out, HzQ.out⟩
              · go_wp2
                go_meet
                case rel => exact ⟨HB1.out, HrQ.out⟩
            case rest =>
              rename World => W9
              obtain ⟨hB9, rQ9⟩ := hcut
              obtain ⟨hSm3, hrl3⟩ := HS3'.out
              clear hcase HB1 HrQ HTp q0 q1 q2 q3 q4 q5 q6 q7 hlQ HS3' hlB hlR hzst hzct hT30 hct hst
              obtain ⟨V3, sn, ss, stt, sgg, sT⟩ := s3
              obtain ⟨L3, rn, rs, rt, rg, rT⟩ := r3
              obtain rfl : sn = rn := hSm3.n
              obtain rfl : ss = rs := hSm3.st
              obtain rfl : stt = rt := hSm3.t
              obtain rfl : sgg = rg := hSm3.g
              obtain rfl : sT = rT := hSm3.T
              have hOe : rOf L3 no = ofN ⟨V3, sn, ss, stt, sgg, sT⟩ f' no := Rel.of (s := ⟨V3, sn, ss, stt, sgg, sT⟩) hSm3.rel no
              obtain ⟨N, hN⟩ : ∃ N, ofN ⟨V3, sn, ss, stt, sgg, sT⟩ f' no = N := ⟨_, rfl⟩
              obtain ⟨cv, lv, rv, h1, h2, _⟩ := hB9.at2
              have hS := Stable_any h1
              have hTl := h1.len
              dsimp only at hS hTl hrl3
              have HF : Hid (_ ∧ _ ∧ _ ∧ _ ∧ _ ∧ _ ∧ _) := ⟨hB9, rQ9, h1, h2, hSm3, hOe, hN⟩
              clear hB9 rQ9 h1 h2 hSm3 hOe hN
              go_upto_region 24 with (first
                | (go_at_call 20; refine hS.mono ?_; clear hS; rintro e w4 ⟨v4, rfl, ho4, hb4⟩; obtain ⟨a4, c4, rfl⟩ := owns_slice ho4))
              obtain ⟨hB9, rQ9, h1, h2, hSm3, hOe, hN⟩ := HF.out
              have hba4 := (Below.refl w4.heap.size w4).alloc (Nat.le_refl _) (.cells #[.string (bs stt), .int .i64 sgg, .slice a4 sT.length c4] 49)
              have rP := heap_alloc_new w4 (.cells #[.string (bs stt), .int .i64 sgg, .slice a4 sT.length c4] 49)
              have hb5 := hb4.trans (hba4.mono hb4.size)
              have hB5 := hB9.next hb5
              have rQ5 := (hb5.block _ (Array.getElem?_eq_some_iff.1 rQ9).1).trans rQ9
              have h15 := h1.on hb5
              have h25 := h2.on hb5
              have hT4 := (Tp.of_owns ho4).on hba4
              obtain ⟨sg, hblk⟩ := h25.blk
              obtain ⟨ra, rc, rfl⟩ := h25.tags.slice
              dsimp only at hblk
              obtain ⟨W5, hW5⟩ : ∃ W, w4.alloc (.cells #[.string (bs stt), .int .i64 sgg, .slice a4 sT.length c4] 49) = W := ⟨_, rfl⟩
              rw [hW5] at rP hB5 rQ5 h15 h25 hT4 hblk ⊢
              obtain ⟨P, hP⟩ : ∃ P, w4.heap.size = P := ⟨_, rfl⟩
              rw [hP] at rP ⊢
              have hlP := (Array.getElem?_eq_some_iff.1 rP).1
              have hlR := (Array.getElem?_eq_some_iff.1 hblk).1
              have hlQ := (Array.getElem?_eq_some_iff.1 rQ5).1
              have kR4 : ∀ x : Cw W5, x.w.cell? ⟨R, 4, none⟩ = some (.int .i64 sn) := fun x => cellB ((x.h.block _ hlR).trans hblk) 4 _ rfl
              have kR5 : ∀ x : Cw W5, x.w.cell? ⟨R, 5, none⟩ = some (.string (bs ss)) := fun x => cellB ((x.h.block _ hlR).trans hblk) 5 _ rfl
              have kR6 : ∀ x : Cw W5, x.w.cell? ⟨R, 6, none⟩ = some (.string (bs stt)) := fun x => cellB ((x.h.block _ hlR).trans hblk) 6 _ rfl
              have kR7 : ∀ x : Cw W5, x.w.cell? ⟨R, 7, none⟩ = some (.int .i64 sgg) := fun x => cellB ((x.h.block _ hlR).trans hblk) 7 _ rfl
              have kR8 : ∀ x : Cw W5, x.w.cell? ⟨R, 8, none⟩ = some (.slice ra sT.length rc) := fun x => cellB ((x.h.block _ hlR).trans hblk) 8 _ rfl
              have kP0 : ∀ x : Cw W5, x.w.cell? ⟨P, 0, none⟩ = some (.string (bs stt)) := fun x => cellB ((x.h.block _ hlP).trans rP) 0 _ rfl
              have kP1 : ∀ x : Cw W5, x.w.cell? ⟨P, 1, none⟩ = some (.int .i64 sgg) := fun x => cellB ((x.h.block _ hlP).trans rP) 1 _ rfl
              have kP2 : ∀ x : Cw W5, x.w.cell? ⟨P, 2, none⟩ = some (.slice a4 sT.length c4) := fun x => cellB ((x.h.block _ hlP).trans rP) 2 _ rfl
              have kQ1 : ∀ x : Cw W5, x.w.cell? ⟨Q, 1, none⟩ = some (.int .i64 no) := fun x => cellB ((x.h.block _ hlQ).trans rQ5) 1 _ rfl
              have gSm : ∀ x : Cw W5, Calls Tryd.prog 21 #[.agg #[.string (bs stt), .int .i64 sgg, .slice a4 sT.length c4], .agg #[.string (bs stt), .int .i64 sgg, .slice ra sT.length rc]] x.w fun e w'' => e = .returned (.bool true) ∧ ∃ y : Cw W5, w'' = y.w := by
                intro x
                refine (same_any stt sgg sT (.slice a4 sT.length c4) (.slice ra sT.length rc) x.w (by omega) (hT4.on x.h).tl (h25.tags.on x.h).tl).mono ?_
                rintro e W' ⟨rfl, hb⟩
                exact ⟨rfl, ⟨W', x.h.trans (hb.mono x.h.size)⟩, rfl⟩
              have gOf : ∀ x : Cw W5, Calls Tryd.prog 22 #[.pointer (some ⟨B, 0, none⟩), .int .i64 no] x.w fun e w'' => e = .returned (.int .i64 N) ∧ ∃ y : Cw W5, w'' = y.w := by
                intro x
                refine (Of_any (h15.on x.h) no).mono ?_
                rintro e W' ⟨rfl, rfl⟩
                exact ⟨by rw [hN], x, rfl⟩
              have gRo : ∀ x : Cw W5, Calls Tryd.prog 23 #[.pointer (some ⟨R, 0, none⟩), .int .i64 no] x.w fun e w'' => e = .returned (.int .i64 N) ∧ ∃ y : Cw W5, w'' = y.w := by
                intro x
                refine (rOf_any (h25.on x.h) no (by show L3.length ≤ 1000; omega)).mono ?_
                rintro e W' ⟨rfl, hb⟩
                refine ⟨?_, ⟨W', x.h.trans (hb.mono x.h.size)⟩, rfl⟩
                show Ending.returned (.int .i64 (rOf L3 no)) = _
                rw [hOe, hN]
              have hs1 := str_same ss
              have HG : Hid (_ ∧ _) := ⟨hB5, hSm3⟩
              have : Nonempty (Cw W5) := ⟨⟨W5, Below.refl _ _⟩⟩
              clear HF hB9 rQ9 h1 h2 hSm3 hOe hN hba4 rP hb4 hb5 hB5 rQ5 h15 h25 hT4 hblk hW5 hP hlP hlR hlQ ho4
              refine wp_region_grow (W0 := W5) (by kernel_rfl) (by kernel_rfl) (Below.refl _ _) ?_
              repeat (quiet_step (first | (go_at_call 21; exact gSm _) | (go_at_call 22; exact gOf _) | (go_at_call 23; exact gRo _)))
              refine wpQuiet_nil ?_
              rintro _ ⟨xx, rfl⟩
              have HBx : Hid (_) := HG.out.1.next xx.h
              clear kR4 kR5 kR6 kR7 kR8 kP0 kP1 kP2 kQ1 gSm gOf gRo
              go_wp2
              go_roundg (l.length - (j + 1))
              case measure => omega
              case rel => exact ⟨j + 1, _, _, by omega, by go_num, HBx.out, HG.out.2, hrl3⟩
        · have hjn : j = l.length := by omega
          subst hjn
          have hO := HO.out wr hBs.bel
          clear HV
          go_wp2_with (first
            | (go_at_call 12; refine hO.mono ?_; rintro e w2 ⟨rfl, hb2⟩))
          go_ret
          exact ⟨rfl, hb2⟩
end Go.Proofs.YtmggfkhfiggloaaDoor
