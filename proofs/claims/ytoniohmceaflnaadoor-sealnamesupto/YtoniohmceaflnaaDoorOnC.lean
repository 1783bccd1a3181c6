import Derived.Test.YtoniohmceaflnaaDoorOnB
import Derived.Test.YtoniohmceaflnaaDoorBkP
namespace Go.Proofs.YtoniohmceaflnaaDoor
open Go.RowKit
attribute [local go_sem ↓] Go.wp_at_zero Go.wp_at_succ

set_option maxRecDepth 20000 in
set_option maxHeartbeats 1000000 in
theorem rName_any (g n : Int) (w : World) :
    Calls Tryd.prog 10 #[.agg #[.int .i64 g, .int .i64 n]] w fun e W' => e = .returned (.tuple #[.string (bs (nameV g n)), .int .i64 (nameE g n)]) ∧ Below w.heap.size w W' := by
  have hb0 : Below w.heap.size w (w.alloc (.cells #[.int .i64 g, .int .i64 n] 23)) := (Below.refl _ w).alloc (Nat.le_refl _) _
  have p0 : (w.alloc (.cells #[.int .i64 g, .int .i64 n] 23)).heap[w.heap.size]? = some (.cells #[.int .i64 g, .int .i64 n] 23) := heap_alloc_new _ _
  have hI := Is_any g n (w.alloc (.cells #[.int .i64 g, .int .i64 n] 23))
  have hlp : w.heap.size < (w.alloc (.cells #[.int .i64 g, .int .i64 n] 23)).heap.size := by simp
  by_cases hp : isP g n
  · rw [show nameE g n = 0 from if_pos hp, show nameV g n = nameL g n from if_pos hp, nameL]
    rw [decide_eq_true hp] at hI
    have ht := name_tot hp
    obtain ⟨h1, h2, h3, h4⟩ := hp
    go_enter Tryd.func10, Tryd.ntmps10
    go_wp2_with fail
    refine hI.mono ?_
    clear hI
    rintro e w1 ⟨rfl, hb1⟩
    have hB1 := hb0.trans (hb1.mono hb0.size)
    have p1 := (hb1.block w.heap.size hlp).trans p0
    have hl1 : w.heap.size < w1.heap.size := (Array.getElem?_eq_some_iff.1 p1).1
    have x0 := cellB p1 0 (.int .i64 g) rfl
    have x1 := cellB p1 1 (.int .i64 n) rfl
    have hB1d : Below w.heap.size w w1.drew := ⟨hB1.os, hB1.tape, hB1.output, hB1.size, hB1.block⟩
    go_wp2_with fail
    go_region_with (first
      | (go_at_call 37; have hg := hB2; refine (rNum_any n _ (by omega) (by omega)).mono ?_; rintro e w3 ⟨rfl, hb3⟩; have hB3 := hB2.trans (hb3.mono hB2.size); have hB4 := hB3.alloc hB3.size (.cells #[.string (bs (Lib.itoa g)), .string (bs (Lib.itoa n))] 9))
      | (go_at_call 37; refine (rNum_any g _ (by omega) (by omega)).mono ?_; rintro e w2 ⟨rfl, hb2⟩; have y1 := (hb2.cell (p := ⟨w.heap.size, 1, none⟩) hl1).trans x1; have hB2 := hB1d.trans (hb2.mono hB1d.size))
      | (go_at_call 36; refine (rPack_any [Lib.itoa g, Lib.itoa n] _ _ (Nat.le_trans ht (by decide)) (by simp) (Sl_built w3 _ _)).mono ?_; rintro e w5 ⟨rfl, hb5⟩; have hB5 := hB4.trans (hb5.mono hB4.size)))
    all_goals (go_wp2; go_ret2; exact ⟨rfl, hB5⟩)
  · rw [show nameE g n = 1 from if_neg hp, show nameV g n = [] from if_neg hp]
    rw [decide_eq_false hp] at hI
    go_enter Tryd.func10, Tryd.ntmps10
    go_wp2_with fail
    refine hI.mono ?_
    rintro e w1 ⟨rfl, hb1⟩
    go_wp2
    go_ret2
    exact ⟨rfl, hb0.trans (hb1.mono hb0.size)⟩
theorem rSumL_any (k s : List UInt8) (w : World) (h1 : k.length ≤ 32) (hs : s.length ≤ 140737488351232) :
    Calls Tryd.prog 41 #[.string (bs k), .string (bs s)] w fun e w' => e = .returned (.tuple #[.string (bs (bl k s)), .int .i64 0]) ∧ Below w.heap.size w w' := by
  have h := refSum_any (bs k) (bs s) w (by rw [bs_size]; exact h1) (by rw [bs_size]; exact hs)
  rw [bs_size, bs_list, bs_list] at h
  rw [bl, bs_data]
  exact h

set_option maxRecDepth 20000 in
set_option maxHeartbeats 2000000 in
theorem rTag_any (seed : List UInt8) (g n : Int) (t : List UInt8) (w : World) (hs : seed.length ≤ 32) (ht : t.length ≤ 140737488351232) :
    Calls Tryd.prog 16 #[.string (bs seed), .agg #[.int .i64 g, .int .i64 n], .string (bs t)] w fun e W' => e = .returned (.tuple #[.string (bs (sigV (some seed) g n t)), .int .i64 (tagErr (some seed) g n)]) ∧ Below w.heap.size w W' := by
  have hb0 : Below w.heap.size w (w.alloc (.cells #[.int .i64 g, .int .i64 n] 23)) := (Below.refl _ w).alloc (Nat.le_refl _) _
  have hN := rName_any g n (w.alloc (.cells #[.int .i64 g, .int .i64 n] 23))
  by_cases hp : isP g n
  · have e1 : tagErr (some seed) g n = 0 := by simp [tagErr, hp]
    have e2 : sigV (some seed) g n t = tagS seed g n t := by rw [sigV, if_pos e1, Option.getD_some]
    rw [e1, e2]
    rw [show nameE g n = 0 from if_pos hp, show nameV g n = nameL g n from if_pos hp] at hN
    have hnl := name_len g n hp
    have htl := tagS_len seed g n t
    obtain ⟨TG, hTG⟩ : ∃ TG, tagS seed g n t = TG := ⟨_, rfl⟩
    have HTG : Hid (tagS seed g n t = TG) := hTG
    rw [hTG] at htl ⊢
    clear hTG e1 e2
    obtain ⟨NM, hNM⟩ : ∃ NM, nameL g n = NM := ⟨_, rfl⟩
    rw [hNM] at hN hnl
    have HNM : Hid (nameL g n = NM) := hNM
    clear hNM hp
    go_enter Tryd.func16, Tryd.ntmps16
    go_wp2_with fail
    refine hN.mono ?_
    clear hN
    rintro e w1 ⟨rfl, hb1⟩
    have hB1 := hb0.trans (hb1.mono hb0.size)
    go_wp2_with fail
    refine (rSumL_any seed NM w1 hs (by omega)).mono ?_
    have hkl := bl_len seed NM
    obtain ⟨KY, hKY⟩ : ∃ KY, bl seed NM = KY := ⟨_, rfl⟩
    rw [hKY] at hkl ⊢
    have HKY : Hid (bl seed NM = KY) := hKY
    clear hKY
    rintro e w2 ⟨rfl, hb2⟩
    have hB2 := hB1.trans (hb2.mono hB1.size)
    go_wp2_with fail
    refine (rSumL_any KY t w2 (by omega) ht).mono ?_
    have hsl := bl_len KY t
    obtain ⟨SM, hSM⟩ : ∃ SM, bl KY t = SM := ⟨_, rfl⟩
    rw [hSM] at hsl ⊢
    have hTGe : SM.take 16 = TG := by rw [← HTG.out, tagS, HNM.out, HKY.out, hSM]
    have hex : (bs SM).extract 0 16 = bs TG := bs_of _ _ (by rw [extract_list, bs_list, List.drop_zero, hTGe])
    have hss : (bs SM).size = 32 := by rw [bs_size, hsl]
    clear hSM hTGe
    rintro e w3 ⟨rfl, hb3⟩
    have hB3 := hB2.trans (hb3.mono hB2.size)
    go_wp2
    go_ret2
    exact ⟨rfl, hB3⟩
  · have e1 : tagErr (some seed) g n = 1 := by simp only [tagErr, if_pos hp]
    have e2 : sigV (some seed) g n t = [] := by rw [sigV, if_neg (by rw [e1]; decide)]
    rw [e1, e2]
    rw [show nameE g n = 1 from if_neg hp, show nameV g n = [] from if_neg hp] at hN
    go_enter Tryd.func16, Tryd.ntmps16
    go_wp2_with fail
    refine hN.mono ?_
    rintro e w1 ⟨rfl, hb1⟩
    go_wp2
    go_ret2
    exact ⟨rfl, hb0.trans (hb1.mono hb0.size)⟩

theorem strs_same (a : List UInt8) : ((bs a).toList == (bs a).toList) = true := by simp
theorem strs_other {a b : List UInt8} (h : a ≠ b) : ((bs a).toList == (bs b).toList) = false := str_ne (fun e => h (bs_inj e))
set_option maxRecDepth 20000 in
set_option maxHeartbeats 2000000 in
theorem rCheck_any (seed : List UInt8) (g n : Int) (t tg : List UInt8) (w : World) (hs : seed.length ≤ 32) (ht : t.length ≤ 140737488351232) :
    Calls Tryd.prog 19 #[.string (bs seed), .agg #[.int .i64 g, .int .i64 n], .string (bs t), .string (bs tg)] w fun e W' => e = .returned (.int .i64 (checkE (some seed) g n t tg)) ∧ Below w.heap.size w W' := by
  have hb0 : Below w.heap.size w (w.alloc (.cells #[.int .i64 g, .int .i64 n] 23)) := (Below.refl _ w).alloc (Nat.le_refl _) _
  have hT := rTag_any seed g n t (w.alloc (.cells #[.int .i64 g, .int .i64 n] 23)) hs ht
  by_cases h0 : tagErr (some seed) g n = 0
  · rw [h0] at hT
    have hcE : checkE (some seed) g n t tg = if tg = sigV (some seed) g n t then 0 else 30 := by rw [checkE, if_neg (fun h => h h0)]
    rw [hcE]
    obtain ⟨SV, hSV⟩ : ∃ SV, sigV (some seed) g n t = SV := ⟨_, rfl⟩
    rw [hSV] at hT ⊢
    clear hSV hcE h0
    by_cases hts : tg = SV
    · subst hts
      rw [if_pos rfl]
      have hq := strs_same tg
      go_enter Tryd.func19, Tryd.ntmps19
      go_wp2_with fail
      refine hT.mono ?_
      rintro e w1 ⟨rfl, hb1⟩
      go_wp2
      go_ret
      exact ⟨rfl, hb0.trans (hb1.mono hb0.size)⟩
    · rw [if_neg hts]
      have hq := strs_other (fun h : SV = tg => hts h.symm)
      go_enter Tryd.func19, Tryd.ntmps19
      go_wp2_with fail
      refine hT.mono ?_
      rintro e w1 ⟨rfl, hb1⟩
      go_wp2
      go_ret
      exact ⟨rfl, hb0.trans (hb1.mono hb0.size)⟩
  · have hcE : checkE (some seed) g n t tg = tagErr (some seed) g n := by rw [checkE, if_pos h0]
    have hq : (tagErr (some seed) g n != 0) = true := by simpa using h0
    rw [hcE]
    obtain ⟨E, hE⟩ : ∃ E, tagErr (some seed) g n = E := ⟨_, rfl⟩
    rw [hE] at hT hq ⊢
    clear hE h0 hcE
    go_enter Tryd.func19, Tryd.ntmps19
    go_wp2_with fail
    refine hT.mono ?_
    rintro e w1 ⟨rfl, hb1⟩
    go_wp2
    go_ret
    exact ⟨rfl, hb0.trans (hb1.mono hb0.size)⟩
end Go.Proofs.YtoniohmceaflnaaDoor
