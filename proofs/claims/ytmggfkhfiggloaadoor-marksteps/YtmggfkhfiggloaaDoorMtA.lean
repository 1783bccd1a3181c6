/- A mark's text by the plain text. -/
import Derived.Test.YtmggfkhfiggloaaDoorMkI
import Derived.Test.YtmggfkhfiggloaaDoorNsP
import Derived.Test.YtmggfkhfiggloaaDoorNsR
namespace Go.Proofs.YtmggfkhfiggloaaDoor
open Go.RowKit
attribute [local go_sem ↓] Go.wp_at_zero Go.wp_at_succ

theorem mark_long (g n : Int) (st : List UInt8) : st.length ≤ (markT g n st).length := by
  have e : markT g n st = one [109, 97, 114, 107] ++ (one (Lib.itoa g) ++ (one (Lib.itoa n) ++ one st)) := by simp [markT, packL]
  rw [e]
  simp only [List.length_append]
  have : st.length ≤ (one st).length := by simp only [one, List.length_append, List.length_cons, List.length_nil]; omega
  omega
set_option maxRecDepth 20000 in
set_option maxHeartbeats 2000000 in
theorem rText_any (g n : Int) (st : List UInt8) (w : World) :
    Calls Tryd.prog 9 #[.int .i64 g, .int .i64 n, .string (bs st)] w fun e W' => e = .returned (.tuple #[.string (bs (textV g n st)), .int .i64 (textE g n st)]) ∧ Below w.heap.size w W' := by
  have hst : (bs st).size = st.length := bs_size st
  cases hin : inT g n
  · obtain ⟨e1, e2⟩ := textE_1 (g := g) (n := n) st hin
    rw [e1, e2]
    have hc : g < 0 ∨ (0 ≤ g ∧ 4 < g) ∨ (0 ≤ g ∧ g ≤ 4 ∧ n < 1) ∨ (0 ≤ g ∧ g ≤ 4 ∧ 1 ≤ n ∧ 1099511627776 < n) := by
      simp only [inT, Bool.and_eq_false_iff] at hin
      rcases hin with h | h
      · rcases inR_f h with h | h <;> omega
      · rcases inR_f h with h | h <;> omega
    clear e1 e2 hin
    rcases hc with h | ⟨h1, h2⟩ | ⟨h1, h2, h3⟩ | ⟨h1, h2, h3, h4⟩
    all_goals
      go_enter Tryd.func9, Tryd.ntmps9
      go_wp2
      exact bodyPost_ret (v := .tuple #[.string (bs []), .int .i64 1]) (by simp [results, Tryd.f9, go_sem, bs]) rfl ⟨rfl, Below.refl _ _⟩
  · have h12 := hin
    simp only [inT, Bool.and_eq_true] at h12
    obtain ⟨h1, h2⟩ := h12
    obtain ⟨g0, g4⟩ := inR_t h1
    obtain ⟨n1, n2⟩ := inR_t h2
    by_cases hl : 30000 < st.length
    · obtain ⟨e1, e2⟩ := textE_2 (g := g) (n := n) (st := st) hin (by have := mark_long g n st; omega)
      rw [e1, e2]
      have hl2 : (30000 : Int) < (st.length : Int) := by omega
      clear e1 e2 hin hl h1 h2
      go_enter Tryd.func9, Tryd.ntmps9
      go_wp2
      exact bodyPost_ret (v := .tuple #[.string (bs []), .int .i64 2]) (by simp [results, Tryd.f9, go_sem, bs]) rfl ⟨rfl, Below.refl _ _⟩
    · have hl2 : (st.length : Int) ≤ 30000 := by omega
      have ht := mark_tot (g := g) (n := n) (st := st) hin
      have hN1 := rNum_any g w (by omega) (by omega)
      have HN2 : Hid (∀ w1, Calls Tryd.prog 29 #[.int .i64 n] w1 fun e w' => e = .returned (.string (bs (Lib.itoa n))) ∧ Below w1.heap.size w1 w') := fun w1 => rNum_any n w1 (by omega) (by omega)
      have HP : Hid (∀ w2, Below w.heap.size w w2 → Calls Tryd.prog 28 #[.slice (some ⟨w2.heap.size, 0, none⟩) 4 4] (w2.alloc (.cells #[.string (bs [109, 97, 114, 107]), .string (bs (Lib.itoa g)), .string (bs (Lib.itoa n)), .string (bs st)] 9)) fun e W' => e = .returned (.string (bs (markT g n st))) ∧ Below w.heap.size w W') := by
        intro w2 hb
        have hb3 : Below w2.heap.size w2 (w2.alloc (.cells #[.string (bs [109, 97, 114, 107]), .string (bs (Lib.itoa g)), .string (bs (Lib.itoa n)), .string (bs st)] 9)) := (Below.refl _ _).alloc (Nat.le_refl _) _
        have hB3 := hb.trans (hb3.mono hb.size)
        refine (rPack_any [[109, 97, 114, 107], Lib.itoa g, Lib.itoa n, st] _ _ (by omega) (by simp) (Sl_four w2 _ _ _ _)).mono ?_
        rintro e W' ⟨rfl, hb4⟩
        exact ⟨rfl, hB3.trans (hb4.mono hB3.size)⟩
      have hsz : (bs (markT g n st)).size = (markT g n st).length := bs_size _
      obtain ⟨G, hG⟩ : ∃ G, bs (Lib.itoa g) = G := ⟨_, rfl⟩
      obtain ⟨M, hM⟩ : ∃ M, bs (Lib.itoa n) = M := ⟨_, rfl⟩
      rw [hG] at hN1 HP
      rw [hM] at HN2 HP
      have HD : Hid (_ ∧ _) := ⟨textE_2 (g := g) (n := n) (st := st) hin, textE_0 (g := g) (n := n) (st := st) hin⟩
      obtain ⟨E, hE⟩ : ∃ E, textE g n st = E := ⟨_, rfl⟩
      obtain ⟨X, hX⟩ : ∃ X, textV g n st = X := ⟨_, rfl⟩
      obtain ⟨T, hT⟩ : ∃ T, markT g n st = T := ⟨_, rfl⟩
      rw [hE, hX, hT] at HD
      rw [hT] at HP hsz
      rw [hE, hX]
      clear hE hX hT hin hG hM ht h1 h2 hl
      go_enter Tryd.func9, Tryd.ntmps9
      by_cases hl : 30000 < T.length
      · obtain ⟨rfl, rfl⟩ := HD.out.1 hl
        have hl3 : (30000 : Int) < (T.length : Int) := by omega
        go_wp2_with (first
          | (go_at_call 29; refine hN1.mono ?_; clear hN1; rintro e w1 ⟨rfl, hb1⟩; have hN2 := HN2.out w1)
          | (go_at_call 29; refine hN2.mono ?_; clear hN2; rintro e w2 ⟨rfl, hb2⟩; have hP := HP.out _ (hb1.trans (hb2.mono hb1.size)))
          | (go_at_call 28; refine hP.mono ?_; rintro e w4 ⟨rfl, hb4⟩))
        exact bodyPost_ret (v := .tuple #[.string (bs []), .int .i64 2]) (by simp [results, Tryd.f9, go_sem, bs]) rfl ⟨rfl, hb4⟩
      · obtain ⟨rfl, rfl⟩ := HD.out.2 (by omega)
        have hl3 : (X.length : Int) ≤ 30000 := by omega
        go_wp2_with (first
          | (go_at_call 29; refine hN1.mono ?_; clear hN1; rintro e w1 ⟨rfl, hb1⟩; have hN2 := HN2.out w1)
          | (go_at_call 29; refine hN2.mono ?_; clear hN2; rintro e w2 ⟨rfl, hb2⟩; have hP := HP.out _ (hb1.trans (hb2.mono hb1.size)))
          | (go_at_call 28; refine hP.mono ?_; rintro e w4 ⟨rfl, hb4⟩))
        exact bodyPost_ret (v := .tuple #[.string (bs X), .int .i64 0]) (by simp [results, Tryd.f9, go_sem]) rfl ⟨rfl, hb4⟩
end Go.Proofs.YtmggfkhfiggloaaDoor
