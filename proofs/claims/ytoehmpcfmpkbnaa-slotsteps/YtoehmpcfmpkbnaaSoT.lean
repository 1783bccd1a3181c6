/- The law SlotSteps, walked. -/
import Derived.Test.YtoehmpcfmpkbnaaSoY
namespace Go.Proofs.Ytoehmpcfmpkbnaa
open Go.RowKit
attribute [local go_sem ↓] Go.wp_at_zero Go.wp_at_succ

set_option maxRecDepth 20000 in
set_option maxHeartbeats 8000000 in
theorem steps_any (gr f0 p0 : Int) (l0 : List Vo) (v0 : Value) (w : World) (hl0 : Vl w v0 l0) : Calls Try.prog 3 #[.agg #[.int .i64 gr, .int .i64 f0, .int .i64 p0], v0] w fun e W' => e = .returned (.bool true) ∧ Below w.heap.size w W' := by
  obtain ⟨a0, c0, rfl⟩ := hl0.slice
  obtain ⟨W0, hW0⟩ : ∃ W, w.alloc (.cells #[.int .i64 gr, .int .i64 f0, .int .i64 p0] 23) = W := ⟨_, rfl⟩
  have hb0 : Below w.heap.size w W0 := by rw [← hW0]; exact (Below.refl _ w).alloc (Nat.le_refl _) _
  have rX : W0.heap[w.heap.size]? = some (.cells #[.int .i64 gr, .int .i64 f0, .int .i64 p0] 23) := by rw [← hW0]; exact heap_alloc_new w _
  have HX : Hid (_) := hold3 rX
  have x0 := cellB rX 0 _ rfl
  have x1 := cellB rX 1 _ rfl
  have x2 := cellB rX 2 _ rfl
  have hT := three_any
  clear rX
  rcases new_cases gr f0 p0 with hno | ⟨hgr, f, p, rfl, rfl, hf, hp⟩
  · have hN := New_no hno W0
    have hRN := rNew_no hno W0
    clear hno
    go_enter Try.func3, Try.ntmps3
    go_upto_region 1 with fail
    clear hW0
    go_wp2_with (first
      | (go_at_call 8; refine hN.mono ?_; rintro e w1 ⟨rfl, h9⟩; replace h9 := h9.symm; subst h9)
      | (go_at_call 9; refine hRN.mono ?_; rintro e w1 ⟨rfl, h9⟩; replace h9 := h9.symm; subst h9)
      | (go_at_call 10; refine (hT _).mono ?_; rintro e w2 ⟨rfl, hb2⟩))
    go_ret
    exact ⟨rfl, hb0.trans (hb2.mono hb0.size)⟩
  · have hN := New_ok hgr hf hp W0
    have HRN : Hid (∀ W : World, W0.heap.size ≤ W.heap.size → _) := fun W hW => rNew_ok hgr hf hp W0.heap.size W hW
    go_enter Try.func3, Try.ntmps3
    go_upto_region 1 with fail
    clear hW0
    go_upto_region 2 with (first
      | (go_at_call 8; refine hN.mono ?_; rintro e w1 ⟨rfl, h1, hb1⟩))
    have hRN := HRN.out _ hb1.size
    clear x0 x1 x2 hN HRN
    obtain ⟨x0, x1, x2⟩ := HX.out _ hb1
    by_cases hbig : 200 < l0.length
    · have hb2 : (200 : Int) < (l0.length : Int) := by omega
      clear hbig
      go_wp2_with (first
        | (go_at_call 9; refine hRN.mono ?_; rintro e w2 ⟨rfl, h2, hb2⟩)
        | (go_at_call 10; refine (hT _).mono ?_; rintro e w3 ⟨rfl, hb3⟩))
      go_ret
      have hB2 := hb1.trans (hb2.mono hb1.size)
      exact ⟨rfl, hb0.trans ((hB2.trans (hb3.mono hB2.size)).mono hb0.size)⟩
    · have hb200 : (l0.length : Int) ≤ 200 := by omega
      clear hbig
      go_upto_region 7 with (first
        | (go_at_call 9; refine hRN.mono ?_; rintro e w2 ⟨rfl, h2, hb2⟩))
      have hT0 : Tw W0 W0.heap.size w1.heap.size (.slice none 0 0) gr f p (fun _ _ => ([], [])) [] w2 := ⟨h1.on hb2, h2, hb1.trans (hb2.mono hb1.size), Nat.le_refl _, fun e => by have := h1.lt; omega, fun e => (by cases e), Tie.new f⟩
      obtain ⟨B, hB⟩ : ∃ B, W0.heap.size = B := ⟨_, rfl⟩
      obtain ⟨R, hR⟩ : ∃ R, w1.heap.size = R := ⟨_, rfl⟩
      rw [hB, hR] at hT0
      rw [show (⟨W0.heap.size, 0, none⟩ : Addr) = ⟨B, 0, none⟩ by rw [hB], show (⟨w1.heap.size, 0, none⟩ : Addr) = ⟨R, 0, none⟩ by rw [hR]]
      clear hRN h1 hb1 h2 hb2 hB hR x0 x1 x2
      go_wp2_with fail
      go_loopg [69] l0.length (fun gk i wr => ∃ (j : Nat) (v : Value) (V : Vs) (l : List Vo), j + gk = l0.length ∧ i = .int .i64 j ∧ l.length ≤ j ∧ Tw W0 B R v gr f p V l wr)
      case atStart => exact ⟨0, _, _, _, by omega, rfl, Nat.le_refl _, hT0⟩
      case round =>
        clear hT0
        obtain ⟨j, v, V, l, hj, rfl, hlj, hK⟩ := hrel
        by_cases hlt : j < l0.length
        · obtain ⟨⟨k5, n5, t5, g5⟩, ha⟩ : ∃ a, l0[j]? = some a := ⟨_, List.getElem?_eq_getElem hlt⟩
          obtain ⟨ab, ao, rfl, hab, y0, y1, y2, y3⟩ := (hl0.below (hb0.trans (hK.bel.mono hb0.size)) (Nat.le_refl _)).at ha
          simp only at y0 y1 y2 y3
          have m0 : (0 : Int) ≤ (j : Int) := by omega
          have m1 : (j : Int) < (l0.length : Int) := by omega
          have hba : Below wr.heap.size wr (wr.alloc (.cells #[.int .i64 k5, .int .i64 n5, .string (bs t5), .string (bs g5)] 34)) := (Below.refl _ _).alloc (Nat.le_refl _) _
          have hK1 := hK.next hba
          have rN := heap_alloc_new wr (.cells #[.int .i64 k5, .int .i64 n5, .string (bs t5), .string (bs g5)] 34)
          have hXB : wr.heap.size ≠ B := fun e => by have := hK.slot.lt; omega
          have hXR : wr.heap.size ≠ R := fun e => by have := hK.ref.lt; omega
          have hXv : v.ownBlock ≠ some wr.heap.size := fun e => by have := (hK.ref.own.lt _ e).2; omega
          have HY : Hid (_ ∧ _ ∧ _ ∧ _ ∧ _) := ⟨hK1, rN, hXB, hXR, hXv⟩
          clear ha hba hK1 hK rN hXB hXR hXv
          go_upto_region 10 with fail
          obtain ⟨hK1, rN, hXB, hXR, hXv⟩ := HY.out
          obtain ⟨W1, hW1⟩ : ∃ W, wr.alloc (.cells #[.int .i64 k5, .int .i64 n5, .string (bs t5), .string (bs g5)] 34) = W := ⟨_, rfl⟩
          obtain ⟨X, hX⟩ : ∃ X, wr.heap.size = X := ⟨_, rfl⟩
          rw [hW1] at hK1 rN ⊢
          rw [hX] at rN hXB hXR hXv ⊢
          clear hW1 hX HY y0 y1 y2 y3
          have y0 := cellB rN 0 _ rfl
          have y1 := cellB rN 1 _ rfl
          have y2 := cellB rN 2 _ rfl
          have y3 := cellB rN 3 _ rfl
          obtain ⟨⟨b5, e5, V5⟩, hR⟩ : ∃ r, voteR V f k5 n5 t5 g5 = r := ⟨_, rfl⟩
          have hA := Vote_any hK1.slot k5 n5 t5 g5 b5 e5 V5 hR
          have HR : Hid (voteR V f k5 n5 t5 g5 = (b5, e5, V5)) := hR
          clear hR
          go_upto_region 11 with (first
            | (go_at_call 11; refine hA.mono ?_; rintro e w2 ⟨rfl, h2, hm2⟩))
          have r2 := hm2.far (Array.getElem?_eq_some_iff.1 rN).1 hXB rN
          have hrf := hK1.mid hm2
          have hRA := rVote_any hrf (by omega) hK1.tie k5 n5 t5 g5 b5 e5 HR.out
          have HT : Hid (Tie f (addL b5 l (k5, n5, t5, g5)) V5) := hK1.tie.vote HR.out
          clear y0 y1 y2 y3 hA
          have y0 := cellB r2 0 _ rfl
          have y1 := cellB r2 1 _ rfl
          have y2 := cellB r2 2 _ rfl
          have y3 := cellB r2 3 _ rfl
          go_upto_region 12 with (first
            | (go_at_call 12; refine hRA.mono ?_; rintro e w3 ⟨rfl, v3, h3, hm3⟩))
          have hK3 := hK1.voted h2 hm2 h3 hm3 HT.out
          have r3 := hm3.far (Array.getElem?_eq_some_iff.1 r2).1 hXR hXv r2
          obtain ⟨l3, hl3⟩ : ∃ l3, addL b5 l (k5, n5, t5, g5) = l3 := ⟨_, rfl⟩
          have hl3n : l3.length ≤ j + 1 := by rw [← hl3]; unfold addL; split <;> (try simp only [List.length_append, List.length_cons, List.length_nil]) <;> omega
          rw [hl3] at hK3
          clear y0 y1 y2 y3 hRA hrf h2 hm2 h3 hm3 HT HR hK1 rN r2 hl3 hXB hXR hXv
          have hP := Proposal_any hK3.slot
          obtain ⟨⟨ot, og⟩, hov⟩ : ∃ x, V5 0 p = x := ⟨_, rfl⟩
          rw [hov] at hP
          simp only at hP
          obtain ⟨ob, hob⟩ : ∃ b, isV og = b := ⟨_, rfl⟩
          rw [hob] at hP
          have HOv : Hid (ownV V5 f 1 p = (ot, og) ∧ isV og = ob) := ⟨by rw [← hov]; exact ownV_at (k := 0) (by decide) hp, hob⟩
          clear hov hob
          go_upto_region 15 with (first
            | (go_at_call 13; refine hP.mono ?_; rintro e w4 ⟨rfl, hb4⟩))
          have hK4 := hK3.next hb4
          have r4 := (hb4.block _ (Array.getElem?_eq_some_iff.1 r3).1).trans r3
          have hO : Calls Try.prog 14 #[.pointer (some ⟨R, 0, none⟩), .int .i64 1, .int .i64 p] w4 fun e W' => (∃ kk nn : Int, e = .returned (.tuple #[.agg #[.int .i64 kk, .int .i64 nn, .string (bs ot), .string (bs og)], .bool ob])) ∧ Below w4.heap.size w4 W' := by
            have := rOwn_tie hK4.ref (by omega) hK4.tie 1 p
            rw [HOv.out.1] at this
            simp only at this
            rw [HOv.out.2] at this
            exact this
          have cp := hK4.ref.c.2.2.1
          clear hP hK3 r3 hb4 HOv
          go_upto_region 16 with (first
            | (go_at_call 14; refine hO.mono ?_; rintro e w5 ⟨⟨kk, nn, rfl⟩, hb5⟩))
          have hb6 := hb5.alloc hb5.size (.cells #[.int .i64 kk, .int .i64 nn, .string (bs ot), .string (bs og)] 39)
          have hK6 := hK4.next hb6
          have r6 := (hb6.block _ (Array.getElem?_eq_some_iff.1 r4).1).trans r4
          have rQ := heap_alloc_new w5 (.cells #[.int .i64 kk, .int .i64 nn, .string (bs ot), .string (bs og)] 39)
          obtain ⟨W6, hW6⟩ : ∃ W, w5.alloc (.cells #[.int .i64 kk, .int .i64 nn, .string (bs ot), .string (bs og)] 39) = W := ⟨_, rfl⟩
          rw [hW6] at hK6 r6 rQ ⊢
          have z2 := cellB rQ 2 _ rfl
          have hst := str_same ot
          clear hO hK4 r4 hb5 hb6 rQ hW6 cp
          go_wp2_with fail
          clear z2 hst
          go_loopg [19] 4 (fun gq q wq => ∃ i : Nat, i + gq = 4 ∧ q = .int .i64 i ∧ Below W6.heap.size W6 wq)
          case atStart => exact ⟨0, by omega, rfl, Below.refl _ _⟩
          case round =>
            rename World => wq
            obtain ⟨i, hi, rfl, hBq⟩ := hrel
            by_cases hi4 : i < 4
            · have m4 : (i : Int) ≤ 3 := by omega
              have hK7 := hK6.next hBq
              have hC := Cert_any hK7.slot (i : Int)
              obtain ⟨r, hr⟩ : ∃ r, certR V5 f p (i : Int) = r := ⟨_, rfl⟩
              have hrl : (cL r).length ≤ 1000 := by
                rw [← hr]
                cases hcr : certR V5 f p (i : Int) with
                | none => simp [cL]
                | some x =>
                  obtain ⟨T, L⟩ := x
                  have hki : isK (i : Int) = true := by
                    cases hk : isK (i : Int)
                    · have := isK_f hk
                      unfold certR at hcr
                      rw [if_neg this.1, if_neg this.2] at hcr
                      cases hcr
                    · rfl
                  obtain ⟨k, hk2, hke⟩ := isK_t hki
                  rw [hke] at hcr
                  obtain ⟨e1, _, _⟩ := certR_is hk2 hp hcr
                  show L.length ≤ 1000
                  rw [e1]
                  have := tagsTo_le V5 k T (3 * f + 1)
                  omega
              rw [hr] at hC
              obtain ⟨CT, hCT⟩ : ∃ x, cT r = x := ⟨_, rfl⟩
              obtain ⟨CG, hCG⟩ : ∃ x, cG r gr = x := ⟨_, rfl⟩
              obtain ⟨CL, hCL⟩ : ∃ x, cL r = x := ⟨_, rfl⟩
              obtain ⟨CB, hCB⟩ : ∃ x, r.isSome = x := ⟨_, rfl⟩
              have hC' : Calls Try.prog 15 #[.pointer (some ⟨B, 0, none⟩), .int .i64 i] wq fun e W' => (∃ v, e = .returned (.tuple #[.agg #[.string (bs CT), .int .i64 CG, v], .bool CB]) ∧ W'.ownsRow wq.heap.size 70 2 v CL.length (tcs CL)) ∧ Below wq.heap.size wq W' := by
                rw [← hCT, ← hCG, ← hCL, ← hCB]; exact hC
              have HRC : Hid (∀ W, Below wq.heap.size wq W → Calls Try.prog 16 #[.pointer (some ⟨R, 0, none⟩), .int .i64 i] W fun e W' => (∃ v, e = .returned (.tuple #[.agg #[.string (bs CT), .int .i64 CG, v], .bool CB]) ∧ W'.ownsRow W.heap.size 84 2 v CL.length (tcs CL)) ∧ Below W.heap.size W W') := fun W hW => by
                have := rCert_any (hK7.next hW).ref (by omega) hK7.tie hp (i : Int)
                rw [hr] at this
                rw [← hCT, ← hCG, ← hCL, ← hCB]; exact this
              rw [hCL] at hrl
              obtain ⟨⟨qt, qg⟩, hqv⟩ : ∃ x, ownV V5 f (i : Int) n5 = x := ⟨_, rfl⟩
              obtain ⟨qb, hqb⟩ : ∃ b, isV qg = b := ⟨_, rfl⟩
              have HO1 : Hid (∀ W, Below wq.heap.size wq W → Calls Try.prog 17 #[.pointer (some ⟨B, 0, none⟩), .int .i64 i, .int .i64 n5] W fun e W' => e = .returned (.tuple #[.string (bs qt), .string (bs qg), .bool qb]) ∧ Below W.heap.size W W') := fun W hW => by
                have := Own_any (hK7.next hW).slot (i : Int) n5
                rw [hqv] at this
                simp only at this
                rw [hqb] at this
                exact this
              have HO2 : Hid (∀ W, Below wq.heap.size wq W → Calls Try.prog 14 #[.pointer (some ⟨R, 0, none⟩), .int .i64 i, .int .i64 n5] W fun e W' => (∃ kk nn : Int, e = .returned (.tuple #[.agg #[.int .i64 kk, .int .i64 nn, .string (bs qt), .string (bs qg)], .bool qb])) ∧ Below W.heap.size W W') := fun W hW => by
                have := rOwn_tie (hK7.next hW).ref (by omega) hK7.tie (i : Int) n5
                rw [hqv] at this
                simp only at this
                rw [hqb] at this
                exact this
              obtain ⟨vn, hvn⟩ : ∃ n, votesN V5 f (i : Int) = n := ⟨_, rfl⟩
              have HV1 : Hid (∀ W, Below wq.heap.size wq W → Calls Try.prog 19 #[.pointer (some ⟨B, 0, none⟩), .int .i64 i] W fun e W' => e = .returned (.int .i64 vn) ∧ Below W.heap.size W W') := fun W hW => by
                have := Votes_any (hK7.next hW).slot (i : Int)
                rw [hvn] at this
                exact this
              have HV2 : Hid (∀ W, Below wq.heap.size wq W → Calls Try.prog 20 #[.pointer (some ⟨R, 0, none⟩), .int .i64 i] W fun e W' => e = .returned (.int .i64 vn) ∧ Below W.heap.size W W') := fun W hW => by
                have := rVotes_any (hK7.next hW).ref (by omega) (i : Int)
                rw [hK7.tie.cnt, hvn] at this
                exact this
              have rq := (hBq.block _ (Array.getElem?_eq_some_iff.1 r6).1).trans r6
              have HX7 : Hid (∀ W, Below wq.heap.size wq W → W.cell? ⟨X, 1, none⟩ = some (.int .i64 n5)) := fun W hW => cellB ((hW.block _ (Array.getElem?_eq_some_iff.1 rq).1).trans rq) 1 _ rfl
              clear hC hr hCT hCG hCL hCB hqv hqb hvn hK7 rq
              go_upto_region 22 with (first
                | (go_at_call 15; refine hC'.mono ?_; rintro e w7 ⟨⟨u7, rfl, ho7⟩, hb7⟩; obtain ⟨ua, uc, hu⟩ := owns_slice ho7; subst hu))
              have hba7 := (Below.refl w7.heap.size w7).alloc (Nat.le_refl _) (.cells #[.string (bs CT), .int .i64 CG, .slice ua CL.length uc] 49)
              have hB7 := hb7.trans (hba7.mono hb7.size)
              have rC := heap_alloc_new w7 (.cells #[.string (bs CT), .int .i64 CG, .slice ua CL.length uc] 49)
              have hoC := owns_next ho7 hba7
              obtain ⟨W7, hW7⟩ : ∃ W, w7.alloc (.cells #[.string (bs CT), .int .i64 CG, .slice ua CL.length uc] 49) = W := ⟨_, rfl⟩
              obtain ⟨X7, hX7⟩ : ∃ X, w7.heap.size = X := ⟨_, rfl⟩
              rw [hW7] at hB7 rC hoC ⊢
              rw [hX7] at rC ⊢
              clear hC' hW7 hX7 hba7 hb7 ho7
              have hRC := HRC.out _ hB7
              go_upto_region 23 with (first
                | (go_at_call 16; refine hRC.mono ?_; rintro e w8 ⟨⟨u8, rfl, ho8⟩, hb8⟩; obtain ⟨ud, ue, hu⟩ := owns_slice ho8; subst hu))
              have hba8 := (Below.refl w8.heap.size w8).alloc (Nat.le_refl _) (.cells #[.string (bs CT), .int .i64 CG, .slice ud CL.length ue] 54)
              have hb8' := hb8.trans (hba8.mono hb8.size)
              have hB8 := hB7.trans (hb8'.mono hB7.size)
              have rD := heap_alloc_new w8 (.cells #[.string (bs CT), .int .i64 CG, .slice ud CL.length ue] 54)
              have hoD := owns_next ho8 hba8
              have rC8 := (hb8'.block _ (Array.getElem?_eq_some_iff.1 rC).1).trans rC
              have hoC8 := owns_next hoC hb8'
              obtain ⟨W8, hW8⟩ : ∃ W, w8.alloc (.cells #[.string (bs CT), .int .i64 CG, .slice ud CL.length ue] 54) = W := ⟨_, rfl⟩
              obtain ⟨X8, hX8⟩ : ∃ X, w8.heap.size = X := ⟨_, rfl⟩
              rw [hW8] at hB8 rD hoD rC8 hoC8 ⊢
              rw [hX8] at rD ⊢
              clear hRC hW8 hX8 hba8 hb8 hb8' ho8 rC hoC hB7 HRC
              have y1 := HX7.out _ hB8
              have hO1 := HO1.out _ hB8
              go_upto_region 24 with (first
                | (go_at_call 17; refine hO1.mono ?_; rintro e w9 ⟨rfl, hb9⟩))
              have hB9 := hB8.trans (hb9.mono hB8.size)
              have hO2 := HO2.out _ hB9
              clear y1 hO1 HO1 HO2
              have y1 := HX7.out _ hB9
              go_upto_region 25 with (first
                | (go_at_call 14; refine hO2.mono ?_; rintro e w10 ⟨⟨kk2, nn2, rfl⟩, hb10⟩))
              have hb10' := hb10.alloc hb10.size (.cells #[.int .i64 kk2, .int .i64 nn2, .string (bs qt), .string (bs qg)] 39)
              have rE := heap_alloc_new w10 (.cells #[.int .i64 kk2, .int .i64 nn2, .string (bs qt), .string (bs qg)] 39)
              have hbA := hb9.trans (hb10'.mono hb9.size)
              have hB10 := hB8.trans (hbA.mono hB8.size)
              have rCA := (hbA.block _ (Array.getElem?_eq_some_iff.1 rC8).1).trans rC8
              have rDA := (hbA.block _ (Array.getElem?_eq_some_iff.1 rD).1).trans rD
              have hoCA := owns_next hoC8 hbA
              have hoDA := owns_next hoD hbA
              obtain ⟨WA, hWA⟩ : ∃ W, w10.alloc (.cells #[.int .i64 kk2, .int .i64 nn2, .string (bs qt), .string (bs qg)] 39) = W := ⟨_, rfl⟩
              obtain ⟨XE, hXE⟩ : ∃ X, w10.heap.size = X := ⟨_, rfl⟩
              rw [hWA] at hB10 rE rCA rDA hoCA hoDA ⊢
              rw [hXE] at rE ⊢
              clear hO2 y1 hWA hXE hb10 hb10' hbA rC8 rD hoC8 hoD hB8 hB9 hb9 HX7
              have s0 := cellB rCA 0 _ rfl
              have s1 := cellB rCA 1 _ rfl
              have s2 := cellB rCA 2 _ rfl
              have t0 := cellB rDA 0 _ rfl
              have t1 := cellB rDA 1 _ rfl
              have t2 := cellB rDA 2 _ rfl
              have hSm := same_any CT CG CL (.slice ua CL.length uc) (.slice ud CL.length ue) WA hrl hoCA hoDA
              have HE : Hid (∀ W, Below WA.heap.size WA W → W.cell? ⟨XE, 2, none⟩ = some (.string (bs qt)) ∧ W.cell? ⟨XE, 3, none⟩ = some (.string (bs qg))) := fun W hW => by
                have rE' := (hW.block _ (Array.getElem?_eq_some_iff.1 rE).1).trans rE
                exact ⟨cellB rE' 2 _ rfl, cellB rE' 3 _ rfl⟩
              have hst1 := str_same qt
              have hst2 := str_same qg
              clear rCA rDA hoCA hoDA rE
              go_wp2_with (first
                | (go_at_call 18; refine hSm.mono ?_; rintro e w11 ⟨rfl, hb11⟩; have hB11 := hB10.trans (hb11.mono hB10.size))
                | (go_at_call 19; refine (HV1.out _ hB11).mono ?_; rintro e w12 ⟨rfl, hb12⟩; have hB12 := hB11.trans (hb12.mono hB11.size))
                | (go_at_call 20; refine (HV2.out _ hB12).mono ?_; rintro e w13 ⟨rfl, hb13⟩; have hC12 := hb11.trans (hb12.mono hb11.size); have hC13 := hC12.trans (hb13.mono hC12.size); obtain ⟨g2, g3⟩ := HE.out _ hC13))
              go_roundg (4 - (i + 1))
              case measure => omega
              case rel =>
                have hB13 := hB12.trans (hb13.mono hB12.size)
                exact ⟨i + 1, by omega, by go_num, hBq.trans (hB13.mono hBq.size)⟩
            · have hi5 : i = 4 := by omega
              subst hi5
              go_wp2_with fail
              go_roundg (l0.length - (j + 1))
              case measure => omega
              case rel => exact ⟨j + 1, v3, V5, l3, by omega, by go_num, hl3n, hK6.next hBq⟩
        · have hjl : j = l0.length := by omega
          subst hjl
          go_wp2_with (first
            | (go_at_call 10; refine (hT _).mono ?_; rintro e w2 ⟨rfl, hb2⟩))
          go_ret
          have hB9 := hb0.trans (hK.bel.mono hb0.size)
          exact ⟨rfl, hB9.trans (hb2.mono hB9.size)⟩
end Go.Proofs.Ytoehmpcfmpkbnaa
