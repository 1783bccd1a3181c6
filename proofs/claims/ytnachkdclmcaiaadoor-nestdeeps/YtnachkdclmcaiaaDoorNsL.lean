import Derived.Test.YtnachkdclmcaiaaDoorNsJ
namespace Go.Proofs.YtnachkdclmcaiaaDoor
open Go.RowKit
attribute [local go_sem ↓] Go.wp_at_zero Go.wp_at_succ

theorem large_false {l : List (List UInt8)} (h : largeL l = false) : tot l ≤ 20000 ∧ l.length ≤ 2000 := by
  simp [largeL] at h
  omega
theorem mem_tot {l : List (List UInt8)} {t : List UInt8} (h : t ∈ l) : t.length ≤ tot l := by
  induction l with
  | nil => cases h
  | cons a l ih =>
    rw [tot_cons]
    rcases List.mem_cons.1 h with rfl | h
    · omega
    · have := ih h; omega
theorem texts_tot (s : List UInt8) : tot (texts s) ≤ s.length := by
  unfold texts
  split
  · by_cases h : s = []
    · subst h; rw [items_nil]; simp [tot]
    · exact Nat.le_of_lt (items_tot h)
  · simp [tot]
theorem texts_len (s : List UInt8) : (texts s).length ≤ s.length := by
  unfold texts
  split
  · rw [List.length_map]; exact items_count
  · simp

set_option maxHeartbeats 1000000 in
theorem back_any (l : List (List UInt8)) (s : List UInt8) (v : Value) (w : World) (hl : ∀ t ∈ l, t.length ≤ 140737488355328) (hll : l.length ≤ 140737488355328) (hs : s.length ≤ 140737488355328) (he : Env w) (hv : Sl w v l) :
    Calls Tryd.prog 8 #[v, .string (bs s)] w fun e W' => e = .returned (.bool true) ∧ Below w.heap.size w W' := by
  have hl : Hid (∀ t ∈ l, t.length ≤ 140737488355328) := hl
  have hss : (bs s).size = s.length := bs_size s
  go_enter Tryd.func8, Tryd.ntmps8
  go_wp2_with fail
  refine (large_any l v w hl.out hll hv).mono ?_
  rintro e w' ⟨rfl, rfl⟩
  cases hL : largeL l with
  | true =>
    go_wp2_with fail
    refine (two_any w' he).mono ?_
    rintro e w1 ⟨rfl, hb⟩
    go_wp2
    go_ret
    exact ⟨rfl, hb⟩
  | false =>
    obtain ⟨h1, h2⟩ := large_false hL
    by_cases h3 : 20000 < s.length
    · go_wp2_with fail
      refine (two_any w' he).mono ?_
      rintro e w1 ⟨rfl, hb⟩
      go_wp2
      go_ret
      exact ⟨rfl, hb⟩
    · have hsh : ∀ t ∈ l, t.length ≤ 1000000000 := fun t ht => by have := mem_tot ht; omega
      have hpl := pack_len l (by omega)
      go_wp2_with fail
      refine (Pack_any l v w' (by omega) (by omega) he hv).mono ?_
      rintro e w1 ⟨rfl, hb1⟩
      go_wp2_with fail
      refine (Unpack_any (packL l) w1 (by omega) (he.next hb1)).mono ?_
      rw [texts_pack l hsh, err_pack l hsh]
      rintro e w2 ⟨u, rfl, hrow, hb2⟩
      have hB2 := hb1.trans (hb2.mono hb1.size)
      have hS := Sl.of_owns hrow
      clear hsh hpl
      go_wp2_with fail
      refine (Texts_any l l u v w2 (by omega) (by omega) hS (hv.below hB2 (Nat.le_refl _))).mono ?_
      have hde : decide (l = l) = true := by simp
      rw [hde]
      rintro e w3 ⟨rfl, hb3⟩
      have hB3 := hB2.trans (hb3.mono hB2.size)
      go_wp2_with fail
      refine (Unpack_any s w3 (by omega) (he.next hB3)).mono ?_
      rintro e w4 ⟨u2, rfl, hrow2, hb4⟩
      have hB4 := hB3.trans (hb4.mono hB3.size)
      have hS2 := Sl.of_owns hrow2
      by_cases hg : good s
      · have e1 : errOf s = 0 := by rw [errOf, if_pos hg]
        have htt := texts_tot s
        have htl := texts_len s
        have hq : ((bs s).toList == (bs s).toList) = true := by simp
        rw [e1]
        go_wp2_with fail
        refine (Pack_any (texts s) u2 w4 (by omega) (by omega) (he.next hB4) hS2).mono ?_
        rw [pack_texts hg]
        rintro e w5 ⟨rfl, hb5⟩
        have hB5 := hB4.trans (hb5.mono hB4.size)
        go_wp2_with fail
        refine (two_any w5 (he.next hB5)).mono ?_
        rintro e w6 ⟨rfl, hb6⟩
        go_wp2
        go_ret
        exact ⟨rfl, hB5.trans (hb6.mono hB5.size)⟩
      · have e1 : errOf s = 4 := by rw [errOf, if_neg hg]
        have e2 : texts s = [] := by rw [texts, if_neg hg]
        rw [e2] at hS2
        obtain ⟨ua, uc, rfl⟩ := hS2.slice
        rw [e1]
        go_wp2_with fail
        refine (two_any w4 (he.next hB4)).mono ?_
        rintro e w6 ⟨rfl, hb6⟩
        go_wp2
        go_ret
        exact ⟨rfl, hB4.trans (hb6.mono hB4.size)⟩
end Go.Proofs.YtnachkdclmcaiaaDoor
