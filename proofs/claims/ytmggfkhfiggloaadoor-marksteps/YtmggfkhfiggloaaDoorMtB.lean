/- What a mark's text says by the plain text. -/
import Derived.Test.YtmggfkhfiggloaaDoorMtA
namespace Go.Proofs.YtmggfkhfiggloaaDoor
open Go.RowKit
attribute [local go_sem ↓] Go.wp_at_zero Go.wp_at_succ

/-- How the plain text asks. -/
theorem read_asks {s a b c d : List UInt8} (hT : texts s = [a, b, c, d]) :
    (readV s = (0, 0, []) ∧ readE s = 4 ∧ (a ≠ [109, 97, 114, 107] ∨ (a = [109, 97, 114, 107] ∧ 30000 < s.length))) ∨
    (a = [109, 97, 114, 107] ∧ s.length ≤ 30000 ∧
      ((tnE b = 0 ∧ tnE c = 0 ∧ 0 ≤ tnV b ∧ tnV b ≤ 4 ∧ 1 ≤ tnV c ∧ tnV c ≤ 1099511627776 ∧ readV s = (tnV b, tnV c, d) ∧ readE s = 0) ∨
       (readV s = (0, 0, []) ∧ readE s = 4 ∧ (tnE b = 4 ∨ (tnE b = 0 ∧ (tnE c = 4 ∨ (tnE c = 0 ∧ (tnV b < 0 ∨ (0 ≤ tnV b ∧ (4 < tnV b ∨ (tnV b ≤ 4 ∧ (tnV c < 1 ∨ (1 ≤ tnV c ∧ 1099511627776 < tnV c))))))))))))) := by
  by_cases hs : s.length ≤ 30000
  · by_cases ha : a = [109, 97, 114, 107]
    · right
      refine ⟨ha, hs, ?_⟩
      have hr : readL s = rd2 (toNumL b) (toNumL c) d := by rw [readL, if_pos hs, hT]; exact if_pos ha
      rcases hb : toNumL b with _ | x
      · right
        have h0 : readL s = none := by rw [hr, hb]; rfl
        exact ⟨(read_none h0).1, (read_none h0).2, .inl (tnV_none hb).2⟩
      · rcases hc : toNumL c with _ | y
        · right
          have h0 : readL s = none := by rw [hr, hb, hc]; rfl
          exact ⟨(read_none h0).1, (read_none h0).2, .inr ⟨(tnV_some hb).2, .inl (tnV_none hc).2⟩⟩
        · rw [(tnV_some hb).1, (tnV_some hb).2, (tnV_some hc).1, (tnV_some hc).2]
          cases hin : inT x y
          · right
            have h0 : readL s = none := by rw [hr, hb, hc]; simp [rd2, hin]
            refine ⟨(read_none h0).1, (read_none h0).2, .inr ⟨rfl, .inr ⟨rfl, ?_⟩⟩⟩
            simp only [inT, Bool.and_eq_false_iff] at hin
            rcases hin with h | h
            · rcases inR_f h with h | h <;> omega
            · rcases inR_f h with h | h <;> omega
          · left
            have h0 : readL s = some (x, y, d) := by rw [hr, hb, hc]; simp [rd2, hin]
            simp only [inT, Bool.and_eq_true] at hin
            have h1 := inR_t hin.1
            have h2 := inR_t hin.2
            exact ⟨rfl, rfl, h1.1, h1.2, h2.1, h2.2, (read_some h0).1, (read_some h0).2⟩
    · left
      have h0 : readL s = none := by rw [readL, if_pos hs, hT]; exact if_neg ha
      exact ⟨(read_none h0).1, (read_none h0).2, .inl ha⟩
  · left
    have h0 : readL s = none := by rw [readL, if_neg hs]
    refine ⟨(read_none h0).1, (read_none h0).2, ?_⟩
    by_cases ha : a = [109, 97, 114, 107]
    · exact .inr ⟨ha, by omega⟩
    · exact .inl ha
set_option maxRecDepth 20000 in
set_option maxHeartbeats 4000000 in
theorem rRead_any (s : List UInt8) (w : World) (hs : s.length ≤ 4000000) :
    Calls Tryd.prog 11 #[.string (bs s)] w fun e W' => e = .returned (.tuple #[.agg #[.int .i64 (readV s).1, .int .i64 (readV s).2.1, .string (bs (readV s).2.2)], .int .i64 (readE s)]) ∧ Below w.heap.size w W' := by
  have hb0 : Below w.heap.size w (w.alloc (.cells #[.int .i64 0, .int .i64 0, .string ⟨#[]⟩] 30)) := (Below.refl _ w).alloc (Nat.le_refl _) _
  have r0 : (w.alloc (.cells #[.int .i64 0, .int .i64 0, .string ⟨#[]⟩] 30)).heap[w.heap.size]? = some (.cells #[.int .i64 0, .int .i64 0, .string ⟨#[]⟩] 30) := heap_alloc_new _ _
  have hlp : w.heap.size < (w.alloc (.cells #[.int .i64 0, .int .i64 0, .string ⟨#[]⟩] 30)).heap.size := by simp
  have hU := rUnpack_any s (w.alloc (.cells #[.int .i64 0, .int .i64 0, .string ⟨#[]⟩] 30)) hs
  have hsz : (bs s).size = s.length := bs_size s
  have HF : Hid (∀ W, W.heap[w.heap.size]? = some (.cells #[.int .i64 0, .int .i64 0, .string ⟨#[]⟩] 30) → ∀ a b c, (put3 W w.heap.size a b c).cell? ⟨w.heap.size, 0, none⟩ = some a ∧ (put3 W w.heap.size a b c).cell? ⟨w.heap.size, 1, none⟩ = some b ∧ (put3 W w.heap.size a b c).cell? ⟨w.heap.size, 2, none⟩ = some c) := by
    intro W hW a b c
    have hr := put3_blk hW a b c
    exact ⟨cellB hr 0 _ rfl, cellB hr 1 _ rfl, cellB hr 2 _ rfl⟩
  by_cases h4 : (texts s).length = 4
  · obtain ⟨a, b, c, d, hT⟩ := four_of h4
    have h0 : errOf s = 0 := by
      rcases err_cases s with h | ⟨_, h⟩
      · exact h
      · rw [h] at h4; cases h4
    have hlb := texts_mem (s := s) (t := b) (by rw [hT]; simp)
    have hlc := texts_mem (s := s) (t := c) (by rw [hT]; simp)
    have hcase := read_asks hT
    obtain ⟨⟨RG, RN, RS⟩, hRV⟩ : ∃ x, readV s = x := ⟨_, rfl⟩
    obtain ⟨RE, hRE⟩ : ∃ x, readE s = x := ⟨_, rfl⟩
    obtain ⟨A, hA⟩ : ∃ x, tnV b = x := ⟨_, rfl⟩
    obtain ⟨C, hC⟩ : ∃ x, tnV c = x := ⟨_, rfl⟩
    obtain ⟨EA, hEA⟩ : ∃ x, tnE b = x := ⟨_, rfl⟩
    obtain ⟨EC, hEC⟩ : ∃ x, tnE c = x := ⟨_, rfl⟩
    have HA : Hid (∀ W, Calls Tryd.prog 33 #[.string (bs b)] W fun e W' => e = .returned (.tuple #[.int .i64 A, .int .i64 EA]) ∧ Below W.heap.size W W') := by
      intro W
      have := rToNum_any (bs b) W (by rw [bs_size]; omega)
      rw [bs_list, hA, hEA] at this
      exact this
    have HC : Hid (∀ W, Calls Tryd.prog 33 #[.string (bs c)] W fun e W' => e = .returned (.tuple #[.int .i64 C, .int .i64 EC]) ∧ Below W.heap.size W W') := by
      intro W
      have := rToNum_any (bs c) W (by rw [bs_size]; omega)
      rw [bs_list, hC, hEC] at this
      exact this
    rw [hRV, hRE, hA, hC, hEA, hEC] at hcase
    rw [hRV, hRE]
    rw [h0, hT] at hU
    obtain ⟨Mk, hbm⟩ : ∃ Mk, bs [109, 97, 114, 107] = Mk := ⟨_, rfl⟩
    have hlit : ({ data := #[109, 97, 114, 107] } : ByteArray) = Mk := hbm
    have HK : Hid (_) := hcase
    clear hRV hRE hA hC hEA hEC h0 h4 hT hlb hlc hcase
    go_enter Tryd.func11, Tryd.ntmps11
    rw [hlit]
    clear hlit
    have Hbm : Hid (bs [109, 97, 114, 107] = Mk) := hbm
    clear hbm
    go_upto_region 2 with (first | (go_at_call 32; refine hU.mono ?_; clear hU; rintro e w1 ⟨v, rfl, hv, hb1⟩; obtain ⟨vb, vo, vc, rfl, hvl, c0, c1, c2, c3⟩ := (Sl.of_owns (l := [a, b, c, d]) hv).cells4; clear hv))
    have hB1 := hb0.trans (hb1.mono hb0.size)
    have r1 := (hb1.block w.heap.size hlp).trans r0
    have hl1 : w.heap.size < w1.heap.size := (Array.getElem?_eq_some_iff.1 r1).1
    clear hb1 r0 hb0 hlp
    rcases HK.out with ⟨h1, rfl, hh⟩ | ⟨rfl, hs3, hh⟩
    · simp only [Prod.mk.injEq] at h1
      obtain ⟨rfl, rfl, rfl⟩ := h1
      have f0 := frozenB r1 0
      have f1 := frozenB r1 1
      have f2 := frozenB r1 2
      have s0 := cellB r1 0 _ rfl
      have s1 := cellB r1 1 _ rfl
      have s2 := cellB r1 2 _ rfl
      obtain ⟨z0, z1, z2⟩ := HF.out _ r1 (.int .i64 0) (.int .i64 0) (.string ⟨#[]⟩)
      have hBz := put3_below hB1 (Nat.le_refl _) (.int .i64 0) (.int .i64 0) (.string ⟨#[]⟩)
      have HZ : Hid (_ ∧ _ ∧ _ ∧ _) := ⟨z0, z1, z2, hBz⟩
      clear HA HC HK r1 hB1 z0 z1 z2 hBz c1 c2 c3 HF
      rcases hh with hne | ⟨rfl, hl⟩
      · have hss := str_other hne
        rw [Hbm.out] at hss
        clear hne
        go_wp2
        obtain ⟨z0, z1, z2, hBz⟩ := HZ.out
        unfold put3 at z0 z1 z2 hBz
        exact bodyPost_ret (v := .tuple #[.agg #[.int .i64 0, .int .i64 0, .string ⟨#[]⟩], .int .i64 4]) (by simp [results, Tryd.f11, go_sem, z0, z1, z2]) rfl ⟨rfl, hBz⟩
      · have hl2 : (30000 : Int) < (s.length : Int) := by omega
        have hss := str_same [109, 97, 114, 107]
        rw [Hbm.out] at hss c0
        clear hl
        go_wp2
        obtain ⟨z0, z1, z2, hBz⟩ := HZ.out
        unfold put3 at z0 z1 z2 hBz
        exact bodyPost_ret (v := .tuple #[.agg #[.int .i64 0, .int .i64 0, .string ⟨#[]⟩], .int .i64 4]) (by simp [results, Tryd.f11, go_sem, z0, z1, z2]) rfl ⟨rfl, hBz⟩
    · have hl2 : (s.length : Int) ≤ 30000 := by omega
      have hss := str_same [109, 97, 114, 107]
      rw [Hbm.out] at hss c0
      have hTa := HA.out w1
      clear HA HK
      go_upto_region 6 with (first
        | (go_at_call 33; refine hTa.mono ?_; clear hTa; rintro e w2 ⟨rfl, hb2⟩; have hTc := HC.out w2; have d2 := (hb2.cell (p := ⟨vb, vo + 2, none⟩) hvl).trans c2)
        | (go_at_call 33; refine hTc.mono ?_; clear hTc; rintro e w3 ⟨rfl, hb3⟩))
      have hb13 := hb2.trans (hb3.mono hb2.size)
      have hB3 := hB1.trans (hb13.mono hB1.size)
      have r3 := (hb13.block w.heap.size hl1).trans r1
      have f3 := (hb13.cell (p := ⟨vb, vo + 3, none⟩) hvl).trans c3
      have f0 := frozenB r3 0
      have f1 := frozenB r3 1
      have f2 := frozenB r3 2
      have s0 := cellB r3 0 _ rfl
      have s1 := cellB r3 1 _ rfl
      have s2 := cellB r3 2 _ rfl
      have hF := HF.out _ r3
      have HB3 : Hid (_) := hB3
      have HFF : Hid (_) := hF
      clear HC hb2 hb3 hb13 hB1 r1 r3 c0 c1 c2 c3 d2 hB3 hF HF
      rcases hh with ⟨rfl, rfl, a0, a4, b1, b2, h1, rfl⟩ | ⟨h1, rfl, hh⟩
      · simp only [Prod.mk.injEq] at h1
        obtain ⟨rfl, rfl, rfl⟩ := h1
        go_wp2
        obtain ⟨z0, z1, z2⟩ := HFF.out (.int .i64 RG) (.int .i64 RN) (.string (bs RS))
        have hBz := put3_below HB3.out (Nat.le_refl _) (.int .i64 RG) (.int .i64 RN) (.string (bs RS))
        unfold put3 at z0 z1 z2 hBz
        exact bodyPost_ret (v := .tuple #[.agg #[.int .i64 RG, .int .i64 RN, .string (bs RS)], .int .i64 0]) (by simp [results, Tryd.f11, go_sem, z0, z1, z2]) rfl ⟨rfl, hBz⟩
      · simp only [Prod.mk.injEq] at h1
        obtain ⟨rfl, rfl, rfl⟩ := h1
        obtain ⟨z0, z1, z2⟩ := HFF.out (.int .i64 0) (.int .i64 0) (.string ⟨#[]⟩)
        have hBz := put3_below HB3.out (Nat.le_refl _) (.int .i64 0) (.int .i64 0) (.string ⟨#[]⟩)
        have HZ : Hid (_ ∧ _ ∧ _ ∧ _) := ⟨z0, z1, z2, hBz⟩
        clear z0 z1 z2 hBz HFF HB3
        rcases hh with rfl | ⟨rfl, rfl | ⟨rfl, h1 | ⟨h1, h2 | ⟨h2, h3 | ⟨h3, h4⟩⟩⟩⟩⟩
        all_goals
          go_wp2
          obtain ⟨z0, z1, z2, hBz⟩ := HZ.out
          unfold put3 at z0 z1 z2 hBz
          exact bodyPost_ret (v := .tuple #[.agg #[.int .i64 0, .int .i64 0, .string ⟨#[]⟩], .int .i64 4]) (by simp [results, Tryd.f11, go_sem, z0, z1, z2]) rfl ⟨rfl, hBz⟩
  · obtain ⟨h1, h2⟩ := read_none (s := s) (by unfold readL; split; exact readT_not4 h4; rfl)
    rw [h1, h2]
    have hcase : (errOf s = 0 ∧ (((texts s).length : Int) != 4) = true) ∨ (errOf s = 4) := by
      rcases err_cases s with h | ⟨h, _⟩
      · exact .inl ⟨h, by simp; omega⟩
      · exact .inr h
    obtain ⟨ES, hES⟩ : ∃ x, errOf s = x := ⟨_, rfl⟩
    rw [hES] at hU hcase
    obtain ⟨L, hL⟩ : ∃ L, texts s = L := ⟨_, rfl⟩
    rw [hL] at hU hcase
    clear hES hL h4 h1 h2 hs
    go_enter Tryd.func11, Tryd.ntmps11
    go_upto_region 2 with (first | (go_at_call 32; refine hU.mono ?_; clear hU; rintro e w1 ⟨v, rfl, hv, hb1⟩; obtain ⟨va, vc, rfl⟩ := (Sl.of_owns hv).slice; clear hv))
    have hB1 := hb0.trans (hb1.mono hb0.size)
    have r1 := (hb1.block w.heap.size hlp).trans r0
    have f0 := frozenB r1 0
    have f1 := frozenB r1 1
    have f2 := frozenB r1 2
    have s0 := cellB r1 0 _ rfl
    have s1 := cellB r1 1 _ rfl
    have s2 := cellB r1 2 _ rfl
    obtain ⟨z0, z1, z2⟩ := HF.out _ r1 (.int .i64 0) (.int .i64 0) (.string ⟨#[]⟩)
    have hBz := put3_below hB1 (Nat.le_refl _) (.int .i64 0) (.int .i64 0) (.string ⟨#[]⟩)
    have HZ : Hid (_ ∧ _ ∧ _ ∧ _) := ⟨z0, z1, z2, hBz⟩
    clear r1 hB1 z0 z1 z2 hBz HF hb1 r0 hb0
    rcases hcase with ⟨rfl, hne⟩ | rfl
    all_goals
      go_wp2
      obtain ⟨z0, z1, z2, hBz⟩ := HZ.out
      unfold put3 at z0 z1 z2 hBz
      exact bodyPost_ret (v := .tuple #[.agg #[.int .i64 0, .int .i64 0, .string ⟨#[]⟩], .int .i64 4]) (by simp [results, Tryd.f11, go_sem, z0, z1, z2]) rfl ⟨rfl, hBz⟩
end Go.Proofs.YtmggfkhfiggloaaDoor
