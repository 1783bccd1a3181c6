/- WindowSteps, walked. -/
import Derived.Test.YtobojfkoffhljaaWrJ
import Derived.Test.YtobojfkoffhljaaWiQ
namespace Go.Proofs.Ytobojfkoffhljaa
open Go.RowKit Go.Maps
attribute [local go_sem ↓] Go.wp_at_zero Go.wp_at_succ

theorem steps_no {g f0 : Int} (hf : (inB g 4 && inB f0 3) = false) {l0 : List Vo} {a0 : Option Addr} {c0 : Nat} (w : World) : Calls Try.prog 3 #[.int .i64 g, .int .i64 f0, .slice a0 l0.length c0] w fun e W' => e = .returned (.bool true) ∧ Below w.heap.size w W' := by
  have hN := fun W => wNew_no hf W
  have hR := fun W => Right_any g f0 W
  simp only [hf] at hR
  have hM := fun W => moves_any W
  clear hf
  go_enter Try.func3, Try.ntmps3
  go_wp2_with (first
    | (go_at_call 8; refine (hN _).mono ?_; rintro e w1 ⟨rfl, h9⟩; replace h9 := h9.symm; subst h9)
    | (go_at_call 9; refine (hR _).mono ?_; rintro e w1 ⟨rfl, h9⟩; replace h9 := h9.symm; subst h9)
    | (go_at_call 10; refine (hM _).mono ?_; rintro e w7 ⟨rfl, hb7⟩))
  go_ret
  exact ⟨rfl, hb7⟩
set_option maxRecDepth 20000 in
set_option maxHeartbeats 2000000 in
theorem steps_ok {g : Int} {f : Nat} (hg : inB g 4 = true) (hf : f ≤ 3) {l0 : List Vo} {v0 : Value} (w : World) (hl0 : Vl w v0 l0) : Calls Try.prog 3 #[.int .i64 g, .int .i64 f, v0] w fun e W' => e = .returned (.bool true) ∧ Below w.heap.size w W' := by
  obtain ⟨a0, c0, rfl⟩ := hl0.slice
  have hN := wNew_ok (g := g) (f := f) hg hf w.heap.size w (Nat.le_refl _)
  have hR := fun W => Right_any g f W
  simp only [show (inB g 4 && inB (f : Int) 3) = true by rw [hg]; simp [inB]; omega] at hR
  have hM := fun W => moves_any W
  have HL : Hid (Vl w (.slice a0 l0.length c0) l0) := hl0
  clear hl0 hg
  by_cases hbig : l0.length ≤ 200
  · have hb200 : (l0.length : Int) ≤ 200 := by omega
    go_enter Try.func3, Try.ntmps3
    go_wp2_with (first
      | (go_at_call 8; refine hN.mono ?_; rintro e w1 ⟨rfl, h1, hb1⟩; have H1 : Hid (_ ∧ _) := ⟨tw_start h1, hb1.alloc hb1.size (.cells #[.int .i64 0, .slice none 0 0, .slice none 0 0] 32)⟩; clear h1 hb1 hN)
      | (go_at_call 9; refine (hR _).mono ?_; rintro e w2 ⟨rfl, h9⟩; replace h9 := h9.symm; subst h9))
    obtain ⟨B, hB⟩ : ∃ B, w.heap.size = B := ⟨_, rfl⟩
    obtain ⟨R, hRr⟩ : ∃ R, w1.heap.size = R := ⟨_, rfl⟩
    go_loopg [48] l0.length (fun gk i wr => ∃ (j : Nat) (Fp : Nat → Prop), j + gk = l0.length ∧ i = .int .i64 j ∧ Hid (TwB w.heap.size w.heap.size w1.heap.size g f j Fp wr ∧ Below w.heap.size w wr))
    case atStart => exact ⟨0, _, by omega, rfl, H1⟩
    case round =>
      obtain ⟨j, Fp, hj, rfl, hK⟩ := hrel
      clear H1 hR hB hRr
      by_cases hlt : j < l0.length
      · obtain ⟨⟨k5, v5, n5, s5⟩, ha⟩ : ∃ a, l0[j]? = some a := ⟨_, List.getElem?_eq_getElem hlt⟩
        obtain ⟨ab, ao, rfl, hab, y0, y1, y2, y3, wn⟩ := (HL.out.below hK.out.2 (Nat.le_refl _)).at ha
        simp only at y0 y1 y2 y3 wn
        have m0 : (0 : Int) ≤ (j : Int) := by omega
        have m1 : (j : Int) < (l0.length : Int) := by omega
        have hba : Below wr.heap.size wr (wr.alloc (.cells #[.int .i64 k5, .int .i64 v5, .int .i64 n5, .string (bs s5)] 34)) := (Below.refl _ _).alloc (Nat.le_refl _) _
        have tX := hK.out.1.on hba
        have rX := heap_alloc_new wr (.cells #[.int .i64 k5, .int .i64 v5, .int .i64 n5, .string (bs s5)] 34)
        have oX : ¬ Fp wr.heap.size := fun e => by have := (hK.out.1.lt e).2; omega
        have hD := does_any tX (by omega) k5 v5 n5 s5
        have HX : Hid (_ ∧ _ ∧ _ ∧ _) := ⟨tX, rX, oX, hK.out.2.trans (hba.mono hK.out.2.size)⟩
        clear ha hab tX rX oX hba hK
        go_upto_region 12 with (first
          | (go_at_call 11; refine hD.mono ?_; rintro e w2 ⟨rfl, Fp2, t2, m2⟩))
        obtain ⟨tX, rX, oX, hBX⟩ := HX.out
        have r2 := (m2.block _ (Array.getElem?_eq_some_iff.1 rX).1 oX).trans rX
        have hB2 : Below w.heap.size w w2 := hBX.trans (tX.bel hBX.size m2)
        obtain ⟨low, S, T, ms, mb, vl, vd, t2, rfl⟩ := t2
        obtain ⟨X, hX⟩ : ∃ X, wr.heap.size = X := ⟨_, rfl⟩
        rw [hX] at r2 ⊢
        clear HX tX rX oX hBX m2 hD y0 y1 y2 y3 hX
        have hBs := Best_any t2.win wn
        have HRb : Hid (∀ W, Below w2.heap.size w2 W → _) := fun W hW => rBest_any (t2.ref.next hW) (by rw [List.length_map]; have := t2.fewT; omega) n5
        rw [best_T T n5] at HRb
        obtain ⟨⟨bv, bt, bg, ok⟩, hbb⟩ : ∃ b, bestF T n5 = b := ⟨_, rfl⟩
        rw [hbb] at hBs HRb
        simp only at hBs HRb
        obtain ⟨rn, hrn⟩ : ∃ rn, (if ok = true then n5 else 0) = rn := ⟨_, rfl⟩
        rw [hrn] at HRb
        have x2 := cellB r2 2 _ rfl
        have HZ : Hid (_ ∧ _ ∧ _) := ⟨t2, r2, hB2⟩
        clear t2 r2 hB2 hbb hrn
        go_upto_region 14 with (first
          | (go_at_call 12; refine hBs.mono ?_; rintro e w3 ⟨rfl, hb3⟩; have hb4 := hb3.alloc hb3.size (.cells #[.string (bs bt), .int .i64 bg, .slice none 0 0] 38); have hRb := HRb.out _ hb4; have r4 := (hb4.block X (Array.getElem?_eq_some_iff.1 HZ.out.2.1).1).trans HZ.out.2.1; have q2 := cellB r4 2 _ rfl; have HC : Hid (_ ∧ _ ∧ _) := ⟨hb4, heap_alloc_new w3 (.cells #[.string (bs bt), .int .i64 bg, .slice none 0 0] 38), r4⟩; clear hBs hb3 hb4 r4 HRb)
          | (go_at_call 13; refine hRb.mono ?_; rintro e w5 ⟨rfl, hb5⟩; have H5 : Hid (_) := hb5; clear hb5 hRb))
        obtain ⟨t2, r2, hB2⟩ := HZ.out
        obtain ⟨hb4, rC, r4⟩ := HC.out
        have hb5 := H5.out
        have hb6 := hb5.alloc hb5.size (.cells #[.int .i64 bv, .int .i64 rn, .string (bs bt)] 42)
        have hbA := hb4.trans (hb6.mono hb4.size)
        have t6 := t2.keep hbA
        have rC6 := (hb6.block _ (Array.getElem?_eq_some_iff.1 rC).1).trans rC
        have r6 := (hb6.block X (Array.getElem?_eq_some_iff.1 r4).1).trans r4
        have rD := heap_alloc_new w5 (.cells #[.int .i64 bv, .int .i64 rn, .string (bs bt)] 42)
        have hB6 := hB2.trans (hbA.mono hB2.size)
        obtain ⟨W6, hW6⟩ : ∃ W, w5.alloc (.cells #[.int .i64 bv, .int .i64 rn, .string (bs bt)] 42) = W := ⟨_, rfl⟩
        obtain ⟨Y, hY⟩ : ∃ Y, w3.heap.size = Y := ⟨_, rfl⟩
        obtain ⟨Z, hZ⟩ : ∃ Z, w5.heap.size = Z := ⟨_, rfl⟩
        rw [hW6] at t6 rC6 r6 rD hB6 ⊢
        rw [hY] at rC6 ⊢
        rw [hZ] at rD ⊢
        clear HZ HC H5 t2 r2 hB2 hb4 rC r4 hb5 hb6 hbA hW6 hY hZ x2 q2
        obtain ⟨la, lc, rfl⟩ := owns_slice t6.ref.own
        have e0 := cellB t6.ref.blk 0 _ rfl
        have e1 := cellB t6.ref.blk 1 _ rfl
        rw [List.length_map] at e1
        have i2 := cellB r6 2 _ rfl
        have u0 := cellB rC6 0 _ rfl
        have d0 := cellB rD 0 _ rfl
        have d2 := cellB rD 2 _ rfl
        have hL := fun nq => Low_any (t6.win.on (below_drewN (Below.refl _ W6) nq))
        have hH := fun nq => Has_any (t6.win.on (below_drewN (Below.refl _ W6) nq)) n5
        have hRH := fun nq => rHas_any (t6.ref.next (below_drewN (Below.refl _ W6) nq)) t6.win.low0 t6.win.low1 n5
        have hSl := fun nq => Slots_any (t6.win.on (below_drewN (Below.refl _ W6) nq))
        have hst := str_same bt
        obtain ⟨hw, hhw⟩ : ∃ b, hasW low n5 = b := ⟨_, rfl⟩
        rw [hhw] at hRH
        simp only [hhw] at hH
        have n1 : (low != low) = false := by simp
        have n2 : (bv != bv) = false := by simp
        have n3 : (hw != hw) = false := by simp
        have n4 : (ok != ok) = false := by simp
        have n5' : ((S.length : Int) != (S.length : Int)) = false := by simp
        have HF : Hid (∀ nq, _ ∧ _) := fun nq => ⟨t6.keep (below_drewN (Below.refl _ W6) nq), below_drewN hB6 nq⟩
        clear t6 r6 rC6 rD hB6 hhw
        go_quiet (first
          | (go_at_call 14; refine Calls.quiet_of_same (hL _))
          | (go_at_call 15; refine Calls.quiet_of_same (hH _))
          | (go_at_call 16; refine Calls.quiet_of_same (hRH _))
          | (go_at_call 17; refine Calls.quiet_of_same (hSl _)))
        go_wp2
        go_roundg (l0.length - (j + 1))
        case measure => omega
        case rel => exact ⟨j + 1, _, by omega, by go_num, ⟨⟨low, S, T, ms, mb, _, vd, (HF.out nq).1, rfl⟩, (HF.out nq).2⟩⟩
      · have hjl : j = l0.length := by omega
        clear hj
        subst hjl
        go_wp2_with (first
          | (go_at_call 10; refine (hM _).mono ?_; rintro e w7 ⟨rfl, hb7⟩))
        go_ret
        exact ⟨rfl, hK.out.2.trans (hb7.mono hK.out.2.size)⟩
  · have hb2 : (200 : Int) < (l0.length : Int) := by omega
    go_enter Try.func3, Try.ntmps3
    go_wp2_with (first
      | (go_at_call 8; refine hN.mono ?_; rintro e w1 ⟨rfl, h1, hb1⟩; clear h1)
      | (go_at_call 9; refine (hR _).mono ?_; rintro e w2 ⟨rfl, h9⟩; replace h9 := h9.symm; subst h9)
      | (go_at_call 10; refine (hM _).mono ?_; rintro e w7 ⟨rfl, hb7⟩))
    go_ret
    exact ⟨rfl, hb1.trans (hb7.mono hb1.size)⟩
end Go.Proofs.Ytobojfkoffhljaa
