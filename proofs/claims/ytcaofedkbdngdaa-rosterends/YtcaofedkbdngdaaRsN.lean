/- The law RosterBack, walked. -/
import Derived.Test.YtcaofedkbdngdaaRsI
namespace Go.Proofs.Ytcaofedkbdngdaa
open Go.RowKit
attribute [local go_sem ↓] Go.wp_at_zero Go.wp_at_succ

theorem pt_wrong {f g c e : Int} (h : ptE f g c e ≠ 0) : ptG f g c e = 0 ∧ ptN f g c e = 0 := by
  unfold ptE at h
  unfold ptG ptN
  by_cases h1 : Rt f g c = true
  · rw [if_pos h1] at h ⊢
    rw [if_pos h1]
    by_cases h2 : wi e 0 ((g + 1) * (3 * f + 1) + c - 1) = true
    · rw [if_pos h2] at h; exact absurd rfl h
    · rw [if_neg h2, if_neg h2]; exact ⟨rfl, rfl⟩
  · rw [if_neg h1, if_neg h1]; exact ⟨rfl, rfl⟩
/-- The ends of a group that there is. -/
theorem grp_in {f g c gr : Int} (hR : Rt f g c = true) (h0 : 0 ≤ gr) (h1 : gr ≤ g) {i : Int} (hi0 : 0 ≤ i) (hi1 : i ≤ 3 * f) : gr * (3 * f + 1) + i ∈ grpL f g c gr := by
  unfold grpL
  rw [if_neg (by omega)]
  unfold butL
  rw [List.mem_map]
  have hb := Rt_b hR
  have hn := nN_right hR
  have hv : ∀ j : Nat, (j : Int) ≤ 3 * f → endE f g c gr j = 0 ∧ endV f g c gr j = gr * (3 * f + 1) + j := by
    intro j hj
    have hc : isCl c gr j = false := by simp [isCl]; intro h; omega
    have hr : isRe f g gr j = true := by simp [isRe, wi]; omega
    constructor
    · simp [endE, hR, hc, hr]
    · simp [endV, hR, hc, hr]
  obtain ⟨j, rfl⟩ : ∃ j : Nat, (j : Int) = i := ⟨i.toNat, by omega⟩
  obtain ⟨v1, v2⟩ := hv j hi1
  refine ⟨j, ?_, v2⟩
  rw [List.mem_filter]
  refine ⟨List.mem_range.2 (by omega), ?_⟩
  simp [inB, v1]
theorem back_key {f g c e : Int} (h : ptE f g c e = 0) : endV f g c (ptG f g c e) (ptN f g c e) = e ∧ endE f g c (ptG f g c e) (ptN f g c e) = 0 ∧ decide (e ∈ grpL f g c (ptG f g c e)) = decide (0 ≤ ptG f g c e) := by
  have hR : Rt f g c = true := by
    by_cases h1 : Rt f g c = true
    · exact h1
    · unfold ptE at h; rw [if_neg h1] at h; cases h
  have hW : wi e 0 ((g + 1) * (3 * f + 1) + c - 1) = true := by
    by_cases h1 : wi e 0 ((g + 1) * (3 * f + 1) + c - 1) = true
    · exact h1
    · unfold ptE at h; rw [if_pos hR, if_neg h1] at h; cases h
  have hb := Rt_b hR
  have he := wi_t hW
  by_cases hM : (g + 1) * (3 * f + 1) ≤ e
  · have e1 : ptG f g c e = -1 := by simp [ptG, hR, hW, hM]
    have e2 : ptN f g c e = e - (g + 1) * (3 * f + 1) := by simp [ptN, hR, hW, hM]
    rw [e1, e2]
    have hc : isCl c (-1) (e - (g + 1) * (3 * f + 1)) = true := by simp [isCl, wi]; omega
    refine ⟨?_, ?_, ?_⟩
    · simp [endV, hR, hc]; omega
    · simp [endE, hR, hc]
    · simp [grpL]
  · have e1 : ptG f g c e = e / (3 * f + 1) := by simp [ptG, hR, hW, hM]
    have e2 : ptN f g c e = e % (3 * f + 1) := by simp [ptN, hR, hW, hM]
    rw [e1, e2]
    have hn : 0 < 3 * f + 1 := by omega
    have d0 : 0 ≤ e / (3 * f + 1) := Int.ediv_nonneg (by omega) (by omega)
    have d1 : e / (3 * f + 1) < g + 1 := Int.ediv_lt_of_lt_mul hn (by omega)
    have m0 := Int.emod_nonneg e (show 3 * f + 1 ≠ 0 by omega)
    have m1 := Int.emod_lt_of_pos e hn
    have hs : e / (3 * f + 1) * (3 * f + 1) + e % (3 * f + 1) = e := by rw [Int.mul_comm]; exact Int.mul_ediv_add_emod e _
    have hc : isCl c (e / (3 * f + 1)) (e % (3 * f + 1)) = false := by simp [isCl]; intro h; omega
    have hr : isRe f g (e / (3 * f + 1)) (e % (3 * f + 1)) = true := by simp [isRe, wi]; omega
    refine ⟨?_, ?_, ?_⟩
    · simp only [endV, hR, hc, hr, if_true, Bool.false_eq_true, if_false]; exact hs
    · simp [endE, hR, hc, hr]
    · have := grp_in hR d0 (by omega) m0 (by omega)
      rw [hs] at this
      simp [this, d0]
theorem take_mem {l : List Int} {k : Nat} {n : Int} (h : l[k]? = some n) (e : Int) : decide (e ∈ l.take (k + 1)) = (decide (e ∈ l.take k) || decide (n = e)) := by
  obtain ⟨hk, e1⟩ := List.getElem?_eq_some_iff.1 h
  rw [List.take_succ_eq_append_getElem hk, e1]
  by_cases h1 : e ∈ l.take k <;> by_cases h2 : n = e <;> simp [h1, h2, List.mem_append]
  intro h3; exact h2 h3.symm
theorem grpL_len (f g c gr : Int) : (grpL f g c gr).length ≤ 10 := by
  unfold grpL
  split
  · simp
  · exact Nat.le_trans (butL_le _ _ _ _ _ _) (nN_le f g c)
set_option maxRecDepth 20000 in
set_option maxHeartbeats 4000000 in
theorem back_any (f g c e : Int) (w : World) : Calls Try.prog 5 #[.agg #[.int .i64 f, .int .i64 g, .int .i64 c], .int .i64 e] w fun x W' => x = .returned (.bool true) ∧ Below w.heap.size w W' := by
  have hb0 : Below w.heap.size w (w.alloc (.cells #[.int .i64 f, .int .i64 g, .int .i64 c] 23)) := (Below.refl _ w).alloc (Nat.le_refl _) _
  have hH := hold3 (heap_alloc_new w (.cells #[.int .i64 f, .int .i64 g, .int .i64 c] 23))
  have hP := keepC (Party_any f g c e) hH _ (Below.refl _ _)
  by_cases hE : ptE f g c e = 0
  · obtain ⟨k1, k2, k3⟩ := back_key hE
    rw [hE] at hP
    obtain ⟨pg, hpg⟩ : ∃ v, ptG f g c e = v := ⟨_, rfl⟩
    obtain ⟨pn, hpn⟩ : ∃ v, ptN f g c e = v := ⟨_, rfl⟩
    rw [hpg, hpn] at hP k1 k2
    rw [hpg] at k3
    have hQ := End_any f g c pg pn
    rw [k1, k2] at hQ
    have hG := Group_any f g c pg
    have hl := grpL_len f g c pg
    obtain ⟨L, hL⟩ : ∃ L, grpL f g c pg = L := ⟨_, rfl⟩
    rw [hL] at hG k3 hl
    clear hE hpg hpn k1 k2 hL hH
    have HK : Hid (decide (e ∈ L) = decide (0 ≤ pg)) := k3
    clear k3
    go_enter Try.func5, Try.ntmps5
    go_upto_region 2 with (first
      | (go_at_call 20; refine hP.mono ?_; rintro x w1 ⟨rfl, hb1, x0, x1, x2⟩))
    clear hP
    have r1 := (hb1.block w.heap.size (by simp)).trans (heap_alloc_new w (.cells #[.int .i64 f, .int .i64 g, .int .i64 c] 23))
    have r2 := (Below.heap_alloc w1 (.cells #[.int .i64 pg, .int .i64 pn] 37) w.heap.size (Array.getElem?_eq_some_iff.1 r1).1).trans r1
    have r3 := heap_alloc_new w1 (.cells #[.int .i64 pg, .int .i64 pn] 37)
    have hB1 := hb0.trans (hb1.mono hb0.size)
    have hB2 := hB1.alloc hB1.size (.cells #[.int .i64 pg, .int .i64 pn] 37)
    obtain ⟨W2, hW2⟩ : ∃ W, w1.alloc (.cells #[.int .i64 pg, .int .i64 pn] 37) = W := ⟨_, rfl⟩
    rw [hW2] at r2 r3 hB2 ⊢
    obtain ⟨B2, hB2n⟩ : ∃ B, w1.heap.size = B := ⟨_, rfl⟩
    rw [hB2n] at r3 ⊢
    have hH2 := hold32 r2 r3
    have hQ2 := keepC hQ hH2
    have hT2 := keepC two_any hH2
    obtain ⟨c0, c1, c2, c3, c4⟩ := hH2 _ (Below.refl _ _)
    have hS := Below.refl W2.heap.size W2
    have HH : Hid (_) := hH2
    clear hW2 hB2n r1 r2 r3 hQ hb1 hB1 hH2 x0 x1 x2
    go_upto_region 6 with (first
      | (go_at_call 18; refine (hQ2 _ (by assumption)).mono ?_; rintro x w3 ⟨rfl, hb3, y0, y1, y2, y3, y4⟩))
    go_wp2_with (first
      | (go_at_call 25; refine (hG _).mono ?_; rintro x w4 ⟨⟨u, rfl, ho⟩, hb4⟩; obtain ⟨ua, uc, rfl⟩ := owns_slice ho; have hb5 := hb3.trans (hb4.mono hb3.size); obtain ⟨z0, z1, z2, z3, z4⟩ := HH.out _ hb5))
    go_loopg [9, 37] L.length (fun gk b i wr => ∃ k : Nat, k + gk = L.length ∧ i = .int .i64 k ∧ b = .bool (decide (e ∈ L.take k)) ∧ wr = w4)
    case atStart => exact ⟨0, by omega, rfl, by simp, rfl⟩
    case round =>
      obtain ⟨k, hk, rfl, rfl, rfl⟩ := hrel
      by_cases hlt : k < L.length
      · obtain ⟨n, hn⟩ : ∃ n, L[k]? = some n := ⟨_, List.getElem?_eq_getElem hlt⟩
        obtain ⟨b1, o1, rfl, hbl, xx⟩ := (Il_owns ho).at hn
        have HT : Hid (decide (e ∈ L.take (k + 1)) = (decide (e ∈ L.take k) || decide (n = e))) := take_mem hn e
        have m0 : (0 : Int) ≤ (k : Int) := by omega
        have m1 : (k : Int) < (L.length : Int) := by omega
        obtain ⟨D, hD⟩ : ∃ D, decide (e ∈ L.take k) = D := ⟨_, rfl⟩
        rw [hD] at HT ⊢
        clear hn hD
        cases D
        · by_cases hne : n = e
          · have hq : (n == e) = true := by simp [hne]
            have HT2 : Hid (decide (e ∈ L.take (k + 1)) = true) := by show _ = _; rw [HT.out]; simp [hne]
            clear hne HT
            go_wp2
            go_roundg (L.length - (k + 1))
            case measure => omega
            case rel => exact ⟨k + 1, by omega, by go_num, by rw [HT2.out], rfl⟩
          · have hq : (n == e) = false := by simp [hne]
            have HT2 : Hid (decide (e ∈ L.take (k + 1)) = false) := by show _ = _; rw [HT.out]; simp [hne]
            clear hne HT
            go_wp2
            go_roundg (L.length - (k + 1))
            case measure => omega
            case rel => exact ⟨k + 1, by omega, by go_num, by rw [HT2.out], rfl⟩
        · have HT2 : Hid (decide (e ∈ L.take (k + 1)) = true) := by show _ = _; rw [HT.out]; simp
          clear HT
          go_wp2
          go_roundg (L.length - (k + 1))
          case measure => omega
          case rel => exact ⟨k + 1, by omega, by go_num, by rw [HT2.out], rfl⟩
      · have hkl : k = L.length := by omega
        subst hkl
        rw [List.take_length]
        have hk3 := HK.out
        obtain ⟨D, hD⟩ : ∃ D, decide (e ∈ L) = D := ⟨_, rfl⟩
        rw [hD] at hk3 ⊢
        clear hD
        by_cases hp : 0 ≤ pg
        · have hDt : D = true := by rw [hk3]; simp [hp]
          subst hDt
          clear hk3
          go_wp2_with (first
            | (go_at_call 16; refine (hT2 _ (by assumption)).mono ?_; rintro x w9 ⟨rfl, hb9, s0, s1, s2, s3, s4⟩))
          go_ret
          exact ⟨rfl, hB2.trans (hb9.mono hB2.size)⟩
        · have hDt : D = false := by rw [hk3]; simp [hp]
          subst hDt
          have hp2 : pg < 0 := by omega
          clear hk3 hp
          go_wp2_with (first
            | (go_at_call 16; refine (hT2 _ (by assumption)).mono ?_; rintro x w9 ⟨rfl, hb9, s0, s1, s2, s3, s4⟩))
          go_ret
          exact ⟨by first | rfl | (show Ending.returned (Value.bool (!decide (0 ≤ pg))) = _; simp; omega), hB2.trans (hb9.mono hB2.size)⟩
  · obtain ⟨k1, k2⟩ := pt_wrong hE
    rw [k1, k2] at hP
    obtain ⟨E, hEe⟩ : ∃ E, ptE f g c e = E := ⟨_, rfl⟩
    rw [hEe] at hP hE
    have hq : (E == 0) = false := by simp [hE]
    clear hE hEe k1 k2 hH
    go_enter Try.func5, Try.ntmps5
    go_wp2_with (first
      | (go_at_call 20; refine hP.mono ?_; rintro x w1 ⟨rfl, hb1, x0, x1, x2⟩)
      | (go_at_call 16; refine (two_any _).mono ?_; rintro x w2 ⟨rfl, hb2⟩))
    go_ret
    have hB1 := hb0.trans (hb1.mono hb0.size)
    have hB2 := hB1.alloc hB1.size (.cells #[.int .i64 0, .int .i64 0] 37)
    exact ⟨rfl, hB2.trans (hb2.mono hB2.size)⟩
end Go.Proofs.Ytcaofedkbdngdaa
