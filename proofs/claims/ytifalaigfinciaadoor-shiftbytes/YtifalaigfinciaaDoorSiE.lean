/- A change's bytes: the document's plain ones, walked. -/
import Derived.Test.YtifalaigfinciaaDoorSiD
namespace Go.Proofs.YtifalaigfinciaaDoor
open Go.RowKit
attribute [local go_sem ↓] Go.wp_at_zero Go.wp_at_succ

set_option maxRecDepth 20000 in
set_option maxHeartbeats 4000000 in
theorem rEncode12_any (c : Bq) (l : List Bq) (mu bu : Value) (w : World) (hc : c.Ok) (hl : ∀ b ∈ l, b.Ok) (htot : tot (shT (c :: l)) ≤ 1000000) (he : EnvP w) (hm : Tl w mu c.T) (hb : Ml w.heap.size w bu l) :
    Calls Tryd.prog 9 #[.agg #[.int .i64 c.n, .int .i64 c.v, .string (bs c.x), .int .i64 c.g, mu, bu]] w fun e W' => e = .returned (.tuple #[.string (bs (shV c l)), .int .i64 (shE c l)]) ∧ Below w.heap.size w W' := by
  obtain ⟨ma, mc, rfl⟩ := hm.slice
  obtain ⟨ba, bc, rfl⟩ := hb.slice
  have hba := (Below.refl w.heap.size w).alloc (Nat.le_refl _) (.cells #[.int .i64 c.n, .int .i64 c.v, .string (bs c.x), .int .i64 c.g, .slice ma c.T.length mc, .slice ba l.length bc] 40)
  have hSz := sized_any c l.length (.slice ma c.T.length mc) ba bc (w.alloc (.cells #[.int .i64 c.n, .int .i64 c.v, .string (bs c.x), .int .i64 c.g, .slice ma c.T.length mc, .slice ba l.length bc] 40)) ⟨_, _, _, rfl⟩
  cases hsz : sizedB c l.length
  · obtain ⟨e1, e2⟩ := shE_1 hsz
    rw [e1, e2]
    rw [if_pos hsz] at hSz
    have HB : Hid (_) := hba
    clear e1 e2 hsz hba hc hl he hm hb htot
    obtain ⟨cn, cv, cx, cg, cT⟩ := c
    simp only at hSz HB ⊢
    go_enter Tryd.func9, Tryd.ntmps9
    go_wp2_with (first | (go_at_call 20; refine hSz.mono ?_; clear hSz; rintro e w1 ⟨rfl, hb1⟩))
    exact bodyPost_ret (v := .tuple #[.string (bs []), .int .i64 1]) (by simp [results, Tryd.f9, go_sem, bs]) rfl ⟨rfl, HB.out.trans (hb1.mono HB.out.size)⟩
  · rw [if_neg (by simp [hsz])] at hSz
    have hsz2 := hsz
    simp only [sizedB, Bool.and_eq_true, decide_eq_true_eq] at hsz2
    obtain ⟨_, _, hl8⟩ := hsz2
    obtain ⟨FF, hFF⟩ : ∃ F, firstF (c :: l) = F := ⟨_, rfl⟩
    obtain ⟨r1, r2, r3⟩ := shE_f hsz hFF
    rw [r1]
    obtain ⟨SV, hSV⟩ : ∃ S, shV c l = S := ⟨_, rfl⟩
    rw [hSV] at r2 r3 ⊢
    have HR2 : Hid (_) := r2
    have HR3 : Hid (_) := r3
    have HTot : Hid (tot (shT (c :: l)) ≤ 1000000) := htot
    have rP := heap_alloc_new w (.cells #[.int .i64 c.n, .int .i64 c.v, .string (bs c.x), .int .i64 c.g, .slice ma c.T.length mc, .slice ba l.length bc] 40)
    obtain ⟨W0, hW0⟩ : ∃ W, w.alloc (.cells #[.int .i64 c.n, .int .i64 c.v, .string (bs c.x), .int .i64 c.g, .slice ma c.T.length mc, .slice ba l.length bc] 40) = W := ⟨_, rfl⟩
    have HW : Hid (w.alloc (.cells #[.int .i64 c.n, .int .i64 c.v, .string (bs c.x), .int .i64 c.g, .slice ma c.T.length mc, .slice ba l.length bc] 40) = W0) := hW0
    rw [hW0] at rP hba hSz
    have hlP := (Array.getElem?_eq_some_iff.1 rP).1
    have HK : Hid (∀ W, Below W0.heap.size W0 W → (W.cell? ⟨w.heap.size, 0, none⟩ = some (.int .i64 c.n) ∧ W.cell? ⟨w.heap.size, 1, none⟩ = some (.int .i64 c.v) ∧ W.cell? ⟨w.heap.size, 2, none⟩ = some (.string (bs c.x)) ∧ W.cell? ⟨w.heap.size, 3, none⟩ = some (.int .i64 c.g) ∧ W.cell? ⟨w.heap.size, 4, none⟩ = some (.slice ma c.T.length mc) ∧ W.cell? ⟨w.heap.size, 5, none⟩ = some (.slice ba l.length bc))) := fun W hW => by
      have r := (hW.block _ hlP).trans rP
      exact ⟨cellB r 0 _ rfl, cellB r 1 _ rfl, cellB r 2 _ rfl, cellB r 3 _ rfl, cellB r 4 _ rfl, cellB r 5 _ rfl⟩
    have HM : Hid (∀ W, Below w.heap.size w W → Ml w.heap.size W (.slice ba l.length bc) l) := fun W hW => hb.below hW
    have HE4 : Hid (∀ W, Below W0.heap.size W0 W → Calls Tryd.prog 21 #[.agg #[.string (bs c.x), .int .i64 c.g, .slice ma c.T.length mc]] W fun e W' => e = .returned (.tuple #[.string (bs (encV c.x c.g c.T)), .int .i64 (faultL c.g c.T)]) ∧ Below W0.heap.size W0 W') := fun W hW => by
      have hWw := hba.trans (hW.mono hba.size)
      refine (rEncode4_any c.x c.g c.T _ W (by have := hc.x; omega) hc.T (he.next hWw) ((hm.below hba (Nat.le_refl _)).below hW (Nat.le_refl _))).mono ?_
      rintro e W' ⟨rfl, h⟩
      exact ⟨rfl, hW.trans (h.mono hW.size)⟩
    have HN : Hid (∀ W, Below W0.heap.size W0 W → ∀ m : Int, wf64 m → Calls Tryd.prog 22 #[.int .i64 m] W fun e w' => e = .returned (.string (bs (Lib.itoa m))) ∧ Below W0.heap.size W0 w') := fun W hW m hm => by
      refine (rNum_any m W hm.1 hm.2).mono ?_
      rintro e W' ⟨rfl, h⟩
      exact ⟨rfl, hW.trans (h.mono hW.size)⟩
    have HOk : Hid (c.Ok ∧ ∀ b ∈ l, b.Ok) := ⟨hc, hl⟩
    have HFd : Hid (FF = if faultL c.g c.T ≠ 0 then faultL c.g c.T else firstF l) := hFF.symm
    have HBa : Hid (_) := hba
    have HEn : Hid (∀ W, Below w.heap.size w W → EnvP W) := fun W hW => he.next hW
    clear hFF r1 r2 r3 hSV hW0 hb he hm hc hl hsz hba rP htot
    go_enter Tryd.func9, Tryd.ntmps9
    go_upto_region 1 with fail
    rw [HW.out]
    clear HW
    obtain ⟨k0, k1, k2, k3, k4, k5⟩ := HK.out W0 (Below.refl _ _)
    go_upto_region 3 with (first | (go_at_call 20; refine hSz.mono ?_; clear hSz; rintro e w1 ⟨rfl, hb1⟩))
    obtain ⟨j0, j1, j2, j3, j4, j5⟩ := HK.out w1 hb1
    have hE4 := HE4.out w1 hb1
    clear k0 k1 k2 k3 k4 k5
    go_upto_region 4 with (first | (go_at_call 21; refine hE4.mono ?_; clear hE4; rintro e w2 ⟨rfl, hb2⟩))
    obtain ⟨k0, k1, k2, k3, k4, k5⟩ := HK.out w2 hb2
    clear j0 j1 j2 j3 j4 j5 HE4
    obtain ⟨FL, hFL⟩ : ∃ x, faultL c.g c.T = x := ⟨_, rfl⟩
    obtain ⟨EV, hEV⟩ : ∃ x, encV c.x c.g c.T = x := ⟨_, rfl⟩
    rw [hFL] at HFd ⊢
    rw [hEV]
    by_cases hf : FL = 0
    · have hv : FF = firstF l := by have := HFd.out; rw [if_neg (by rw [hf]; simp)] at this; exact this
      have HV : Hid (FF = firstF l) := hv
      subst hf
      have hN1 := HN.out w2.drew (below_drew hb2) c.n HOk.out.1.n
      have HN2 : Hid (∀ W, Below W0.heap.size W0 W → Calls Tryd.prog 22 #[.int .i64 c.v] W fun e w' => e = .returned (.string (bs (Lib.itoa c.v))) ∧ Below W0.heap.size W0 w') := fun W hW => HN.out W hW c.v HOk.out.1.v
      clear hv
      go_upto_region 6 with fail
      go_region_held3 (fun w' => w'.cell? ⟨w.heap.size, 0, none⟩ = some (.int .i64 c.n) ∧ w'.cell? ⟨w.heap.size, 1, none⟩ = some (.int .i64 c.v) ∧ w'.cell? ⟨w.heap.size, 5, none⟩ = some (.slice ba l.length bc)) (go_keep)
        (first
          | (go_at_call 22; have hgd := hb3; refine (HN2.out _ hb3).mono ?_; rintro e w4 ⟨rfl, hb4⟩; obtain ⟨k0, k1, k2, k3, k4, k5⟩ := HK.out _ hb4)
          | (go_at_call 22; refine hN1.mono ?_; rintro e w3 ⟨rfl, hb3⟩; obtain ⟨k0, k1, k2, k3, k4, k5⟩ := HK.out _ hb3))
      have hO4 := owns_below (owns_new w4 #[.string (bs (Lib.itoa c.n)), .string (bs (Lib.itoa c.v)), .string (bs EV)] 9 1 3 rfl (by decide)) hb4.size
      have hB5 := hb4.alloc hb4.size (.cells #[.string (bs (Lib.itoa c.n)), .string (bs (Lib.itoa c.v)), .string (bs EV)] 9)
      have hst1 : strs (shT (c :: l.take 0)) = [.string (bs (Lib.itoa c.n)), .string (bs (Lib.itoa c.v)), .string (bs EV)] := by rw [← hEV]; rfl
      have HO1 : Hid ((w4.alloc (.cells #[.string (bs (Lib.itoa c.n)), .string (bs (Lib.itoa c.v)), .string (bs EV)] 9)).ownsRow W0.heap.size 9 1 (.slice (some ⟨w4.heap.size, 0, none⟩) 3 3) (shT (c :: l.take 0)).length (strs (shT (c :: l.take 0)))) := by rw [hst1]; exact hO4
      have HB5 : Hid (_) := hB5
      have hbs : w.heap.size ≤ W0.heap.size := HBa.out.size
      obtain ⟨y0, y1, y2, y3, y4, y5⟩ := HK.out _ hB5
      obtain ⟨i0, hi, hz0, hz1, hz2⟩ := info_parts Tryd.info9
      have HZ : Hid (Tryd.prog.info? 9 = some i0 ∧ i0.zero = some (.string ⟨#[]⟩) ∧ i0.size = 1 ∧ i0.bytes = 16) := ⟨hi, hz0, hz1, hz2⟩
      clear hO4 hB5 hst1 hEV k0 k1 k2 k3 k4 k5 HN2 hN1 hb2 hb3 hb4 hi hz0 hz1 hz2 y0 y1 y2 y3 y4 HK
      go_wp2
      go_loopw [6, 34] (fun u p wr => ∃ k : Nat, p = .int .i64 k ∧ k ≤ l.length ∧ Hid (wr.ownsRow W0.heap.size 9 1 u (shT (c :: l.take k)).length (strs (shT (c :: l.take k)))) ∧ Hid (FF = firstF (l.drop k)) ∧ Below W0.heap.size W0 wr)
        (fun _ p _ => l.length - (intOf p).toNat)
      case atStart => exact ⟨0, rfl, Nat.zero_le _, HO1.out, HV.out, HB5.out⟩
      case round =>
        obtain ⟨k, rfl, hk, HO, HF, hB⟩ := hrel
        obtain ⟨n3, hn3⟩ : ∃ n, (shT (c :: l.take k)).length = n := ⟨_, rfl⟩
        have ho := HO.out
        rw [hn3] at ho
        obtain ⟨ua, uc, rfl⟩ := owns_slice ho
        have HN3 : Hid ((shT (c :: l.take k)).length = n3) := hn3
        have hn3l : n3 ≤ 1000 := by rw [← hn3, shT_len]; simp; omega
        have hBw : Below w.heap.size w wr := HBa.out.trans (hB.mono hbs)
        by_cases hk1 : k = l.length
        · subst hk1
          have hFz : FF = 0 := by have := HF.out; rw [List.drop_length] at this; exact this
          have hsv := HR3.out hFz
          have hPk := rPack_any (shT (c :: l)) (.slice ua n3 uc) wr HTot.out (by rw [shT_len]; simp; omega) (by have := Sl.of_owns HO.out; rw [List.take_length] at this; exact this)
          rw [← hsv] at hPk
          have HZ0 : Hid (FF = 0) := hFz
          clear hFz hsv ho hn3
          go_wp2_with (first | (go_at_call 23; refine hPk.mono ?_; clear hPk; rintro e w3 ⟨rfl, hb3⟩))
          exact bodyPost_ret (v := .tuple #[.string (bs SV), .int .i64 0]) (by simp [results, Tryd.f9, go_sem]) rfl ⟨by rw [HZ0.out], hBw.trans (hb3.mono hBw.size)⟩
        · have hk2 : k < l.length := by omega
          obtain ⟨b, hb⟩ : ∃ b, l[k]? = some b := ⟨_, List.getElem?_eq_getElem hk2⟩
          have hok := HOk.out.2 b (List.mem_of_getElem? hb)
          have hfd := first_drop hb
          have htk : c :: l.take (k + 1) = (c :: l.take k) ++ [b] := by rw [List.take_add_one, hb]; rfl
          obtain ⟨vb, vo, ta, tc, rfl, hvl, d0, d1, d2, d3, d4, hT⟩ := (HM.out _ hBw).cells hb
          have hba2 := (Below.refl wr.heap.size wr).alloc (Nat.le_refl _) (.cells #[.int .i64 b.n, .int .i64 b.v, .string (bs b.x), .int .i64 b.g, .slice ta b.T.length tc] 72)
          have hB2 := hB.alloc hB.size (.cells #[.int .i64 b.n, .int .i64 b.v, .string (bs b.x), .int .i64 b.g, .slice ta b.T.length tc] 72)
          have hEk := rEncode4_any b.x b.g b.T (.slice ta b.T.length tc) (wr.alloc (.cells #[.int .i64 b.n, .int .i64 b.v, .string (bs b.x), .int .i64 b.g, .slice ta b.T.length tc] 72)) (by have := hok.x; omega) hok.T (HEn.out _ (hBw.trans (hba2.mono hBw.size))) (hT.below hba2 (Nat.le_refl _))
          have rX := heap_alloc_new wr (.cells #[.int .i64 b.n, .int .i64 b.v, .string (bs b.x), .int .i64 b.g, .slice ta b.T.length tc] 72)
          obtain ⟨FL, hFL2⟩ : ∃ x, faultL b.g b.T = x := ⟨_, rfl⟩
          obtain ⟨EB, hEB⟩ : ∃ x, encV b.x b.g b.T = x := ⟨_, rfl⟩
          rw [hFL2, hEB] at hEk
          rw [hFL2] at hfd
          have hst : strs (shT (c :: l.take (k + 1))) = strs (shT (c :: l.take k)) ++ [.string (bs (Lib.itoa b.n)), .string (bs (Lib.itoa b.v)), .string (bs EB)] := by rw [htk, shT_snoc, strs_append, ← hEB]; rfl
          have hO2 := ho.alloc (.cells #[.int .i64 b.n, .int .i64 b.v, .string (bs b.x), .int .i64 b.g, .slice ta b.T.length tc] 72)
          obtain ⟨W2, hW2⟩ : ∃ W, wr.alloc (.cells #[.int .i64 b.n, .int .i64 b.v, .string (bs b.x), .int .i64 b.g, .slice ta b.T.length tc] 72) = W := ⟨_, rfl⟩
          have HW2 : Hid (wr.alloc (.cells #[.int .i64 b.n, .int .i64 b.v, .string (bs b.x), .int .i64 b.g, .slice ta b.T.length tc] 72) = W2) := hW2
          rw [hW2] at hba2 hB2 hEk rX hO2
          obtain ⟨X, hX⟩ : ∃ X, wr.heap.size = X := ⟨_, rfl⟩
          have HX : Hid (wr.heap.size = X) := hX
          rw [hX] at rX
          have hlX := (Array.getElem?_eq_some_iff.1 rX).1
          have hXo : some X ≠ (Value.slice ua n3 uc).ownBlock := fun h => by have := (ho.lt _ h.symm).2; omega
          obtain ⟨S, hS⟩ : ∃ S, strs (shT (c :: l.take k)) = S := ⟨_, rfl⟩
          rw [hS] at hO2 hst
          have HCX : Hid (∀ W, Below W2.heap.size W2 W → (W.cell? ⟨X, 0, none⟩ = some (.int .i64 b.n) ∧ W.cell? ⟨X, 1, none⟩ = some (.int .i64 b.v) ∧ W.cell? ⟨X, 2, none⟩ = some (.string (bs b.x)) ∧ W.cell? ⟨X, 3, none⟩ = some (.int .i64 b.g) ∧ W.cell? ⟨X, 4, none⟩ = some (.slice ta b.T.length tc))) := fun W hW => by
            have r := (hW.block _ hlX).trans rX
            exact ⟨cellB r 0 _ rfl, cellB r 1 _ rfl, cellB r 2 _ rfl, cellB r 3 _ rfl, cellB r 4 _ rfl⟩
          have HST : Hid (_) := hst
          have HFD : Hid (_) := hfd
          have HWF : Hid (wf64 b.n ∧ wf64 b.v) := ⟨hok.n, hok.v⟩
          obtain ⟨x0, x1, x2, x3, x4⟩ := HCX.out W2 (Below.refl _ _)
          clear hfd htk hst hok hT hba2 hb hW2 hX rX hFL2 hEB ho hn3 hS
          go_upto_region 10 with fail
          rw [HW2.out, HX.out]
          clear HW2 d0 d1 d2 d3 d4
          go_upto_region 11 with (first | (go_at_call 21; refine hEk.mono ?_; clear hEk; rintro e w4 ⟨rfl, hb4⟩))
          obtain ⟨x0', x1', x2', x3', x4'⟩ := HCX.out w4 hb4
          clear x0 x1 x2 x3 x4
          by_cases hf : FL = 0
          · subst hf
            have hv2 : FF = firstF (l.drop (k + 1)) := by have h5 := HF.out; have h6 := HFD.out; rw [if_neg (by simp)] at h6; rw [h5, h6]
            have HV2 : Hid (_) := hv2
            have HN1 : Hid (∀ W, Below W2.heap.size W2 W → ∀ m : Int, wf64 m → Calls Tryd.prog 22 #[.int .i64 m] W fun e w' => e = .returned (.string (bs (Lib.itoa m))) ∧ Below W2.heap.size W2 w') := fun W hW m hm => by
              refine (rNum_any m W hm.1 hm.2).mono ?_
              rintro e W' ⟨rfl, h⟩
              exact ⟨rfl, hW.trans (h.mono hW.size)⟩
            have hA1 := HN1.out w4.drew (below_drew hb4) b.n HWF.out.1
            have HA2 : Hid (∀ W, Below W2.heap.size W2 W → Calls Tryd.prog 22 #[.int .i64 b.v] W fun e w' => e = .returned (.string (bs (Lib.itoa b.v))) ∧ Below W2.heap.size W2 w') := fun W hW => HN1.out W hW b.v HWF.out.2
            have HOW : Hid (∀ W, Below W2.heap.size W2 W → (W.alloc (.cells #[.string (bs (Lib.itoa b.n)), .string (bs (Lib.itoa b.v)), .string (bs EB)] 9)).ownsRow W0.heap.size 9 1 (.slice ua n3 uc) n3 S) := fun W hW => (own_kept hO2 hW).alloc _
            have hml : n3 + 3 ≤ maxLen := by unfold maxLen; omega
            clear hv2
            go_upto_region 13 with fail
            go_region_held3 (fun w' => w'.cell? ⟨X, 0, none⟩ = some (.int .i64 b.n) ∧ w'.cell? ⟨X, 1, none⟩ = some (.int .i64 b.v)) (go_keep)
              (first
                | (go_at_call 22; have hgd := hb5; refine (HA2.out _ hb5).mono ?_; rintro e w6 ⟨rfl, hb6⟩; obtain ⟨g0, g1, g2, g3, g4⟩ := HCX.out _ hb6; have hown6 := HOW.out w6 hb6; have hbN := hb6.alloc hb6.size (.cells #[.string (bs (Lib.itoa b.n)), .string (bs (Lib.itoa b.v)), .string (bs EB)] 9); obtain ⟨q0, q1, q2, q3, q4⟩ := HCX.out _ hbN; have hsN : X < (w6.alloc (.cells #[.string (bs (Lib.itoa b.n)), .string (bs (Lib.itoa b.v)), .string (bs EB)] 9)).heap.size := Nat.lt_of_lt_of_le hlX hbN.size; have hBN : W0.heap.size ≤ (w6.alloc (.cells #[.string (bs (Lib.itoa b.n)), .string (bs (Lib.itoa b.v)), .string (bs EB)] 9)).heap.size := Nat.le_trans hB2.size hbN.size)
                | (go_at_call 22; refine hA1.mono ?_; rintro e w5 ⟨rfl, hb5⟩; obtain ⟨f0, f1, f2, f3, f4⟩ := HCX.out _ hb5)
                | (refine step_append_lies _ (by rfl) _ _ 64 (by rfl) W0.heap.size 9 i0 (.string ⟨#[]⟩) 1 16 Tryd.underlying64 HZ.out.1 HZ.out.2.1 HZ.out.2.2.1 HZ.out.2.2.2 rfl (by decide) _ n3 S (by rfl) hown6 ⟨w6.heap.size, 0, none⟩ 3 3 [.string (bs (Lib.itoa b.n)), .string (bs (Lib.itoa b.v)), .string (bs EB)] (by rfl) rfl (cells_new w6 #[.string (bs (Lib.itoa b.n)), .string (bs (Lib.itoa b.v)), .string (bs EB)] 9) (by simp [Value.oneCell']) (by decide) hml (by omega) hBN _ rfl ?_; intro ga ca w7 hown7 hgrow hat hlt7; have t0 := (hgrow.cell_far ⟨X, 0, none⟩ hsN hXo).trans q0; have t1 := (hgrow.cell_far ⟨X, 1, none⟩ hsN hXo).trans q1))
            have HO7 : Hid (_) := hown7
            have HB7 : Hid (_) := (hB2.trans (hbN.mono hB2.size)).grown hgrow hBN (fun q hq => (hown6.lt q hq).1)
            clear hown7 hgrow hat hlt7 t0 t1 q0 q1 q2 q3 q4 g0 g1 g2 g3 g4 f0 f1 f2 f3 f4 hown6 hbN hb5 hb6 x0' x1' x2' x3' x4' HOW HN1 hA1 HA2
            go_wp2
            go_roundw
            case rel =>
              have h8 : n3 + 3 = (shT (c :: l.take (k + 1))).length := by rw [← HN3.out, shT_len, shT_len]; simp; omega
              first
                | exact ⟨k + 1, by go_num, hk2, (by rw [← h8, HST.out]; exact HO7.out), HV2.out, HB7.out⟩
                | exact ⟨_, _, _, _, _, _, _, _, _, _, _, _, _, _, _, _, _, _, _, _, _, _, _, _, _, _, _, _, _, ⟨k + 1, by go_num, hk2, (by rw [← h8, HST.out]; exact HO7.out), HV2.out, HB7.out⟩, rfl⟩
            case measure => simp [intOf]; omega
          · have hq : (FL != 0) = true := by simpa using hf
            have hv2 : FF = FL := by have h5 := HF.out; have h6 := HFD.out; rw [if_pos hf] at h6; rw [h5, h6]
            have HVS : Hid (SV = [] ∧ FF = FL) := ⟨HR2.out (by rw [hv2]; exact hf), hv2⟩
            have HBE : Hid (_) := HBa.out.trans ((hB2.trans (hb4.mono hB2.size)).mono hbs)
            clear hf hv2
            go_wp2
            exact bodyPost_ret (v := .tuple #[.string (bs []), .int .i64 FL]) (by simp [results, Tryd.f9, go_sem, bs]) rfl ⟨by rw [HVS.out.1, HVS.out.2], HBE.out⟩
    · have hq : (FL != 0) = true := by simpa using hf
      have hv : FF = FL := by have := HFd.out; rw [if_pos hf] at this; exact this
      have HVS : Hid (SV = [] ∧ FF = FL) := ⟨HR2.out (by rw [hv]; exact hf), hv⟩
      clear hv hf
      go_wp2
      exact bodyPost_ret (v := .tuple #[.string (bs []), .int .i64 FL]) (by simp [results, Tryd.f9, go_sem, bs]) rfl ⟨by rw [HVS.out.1, HVS.out.2], HBa.out.trans (hb2.mono HBa.out.size)⟩
end Go.Proofs.YtifalaigfinciaaDoor
