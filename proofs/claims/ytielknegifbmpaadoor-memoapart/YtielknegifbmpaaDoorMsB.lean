/- A mark's text: the plain text, and the program's, walked. -/
import Derived.Test.YtielknegifbmpaaDoorMsA
namespace Go.Proofs.YtielknegifbmpaaDoor
open Go.RowKit
attribute [local go_sem ↓] Go.wp_at_zero Go.wp_at_succ

theorem mwithin_any (n a b : Int) (w : World) : Calls Tryd.prog 45 #[.int .i64 n, .int .i64 a, .int .i64 b] w fun e W' => e = .returned (.bool (inR n a b)) ∧ W' = w := by
  by_cases h1 : a ≤ n
  · by_cases h2 : n ≤ b
    · rw [show inR n a b = true by simp [inR, h1, h2]]
      go_enter Tryd.func45, Tryd.ntmps45
      go_wp2
      go_ret
      exact ⟨rfl, rfl⟩
    · rw [show inR n a b = false by simp [inR, h2]]
      have h3 : b < n := by omega
      go_enter Tryd.func45, Tryd.ntmps45
      go_wp2
      go_ret
      exact ⟨rfl, rfl⟩
  · rw [show inR n a b = false by simp [inR, h1]]
    go_enter Tryd.func45, Tryd.ntmps45
    go_wp2
    go_ret
    exact ⟨rfl, rfl⟩

def markT (g n : Int) (st : List UInt8) : List UInt8 := packL [[109, 97, 114, 107], Lib.itoa g, Lib.itoa n, st]
def inT (g n : Int) : Bool := inR g 0 4 && inR n 1 1099511627776
def textE (g n : Int) (st : List UInt8) : Int := if inT g n = false then 1 else if 30000 < (markT g n st).length then 2 else 0
def textV (g n : Int) (st : List UInt8) : List UInt8 := if textE g n st = 0 then markT g n st else []
theorem mark_tot {g n : Int} {st : List UInt8} (h : inT g n = true) : tot [[109, 97, 114, 107], Lib.itoa g, Lib.itoa n, st] ≤ st.length + 27 := by
  simp only [inT, Bool.and_eq_true] at h
  obtain ⟨h1, h2⟩ := h
  have h1 := inR_t h1
  have h2 := inR_t h2
  have := itoa_len2 g (by omega) (by omega)
  have := itoa_len20 n (by omega) (by omega)
  simp [tot]
  omega
theorem textE_1 {g n : Int} (st : List UInt8) (h : inT g n = false) : textE g n st = 1 ∧ textV g n st = [] := by
  have : textE g n st = 1 := if_pos h
  exact ⟨this, by rw [textV, this]; rfl⟩
theorem textE_2 {g n : Int} {st : List UInt8} (h : inT g n = true) (hl : 30000 < (markT g n st).length) : textE g n st = 2 ∧ textV g n st = [] := by
  have : textE g n st = 2 := by rw [textE, if_neg (by simp [h]), if_pos hl]
  exact ⟨this, by rw [textV, this]; rfl⟩
theorem textE_0 {g n : Int} {st : List UInt8} (h : inT g n = true) (hl : (markT g n st).length ≤ 30000) : textE g n st = 0 ∧ textV g n st = markT g n st := by
  have : textE g n st = 0 := by rw [textE, if_neg (by simp [h]), if_neg (by omega)]
  exact ⟨this, by rw [textV, this]; rfl⟩
theorem textE_zero {g n : Int} {st : List UInt8} (h : textE g n st = 0) : inT g n = true ∧ (markT g n st).length ≤ 30000 ∧ textV g n st = markT g n st := by
  have h' := h
  unfold textE at h
  split at h
  · cases h
  · split at h
    · cases h
    · rename_i h1 h2
      exact ⟨by simpa using h1, by omega, by rw [textV, if_pos h']⟩
theorem Sl_four (w : World) (a b c d : List UInt8) : Sl (w.alloc (.cells #[.string (bs a), .string (bs b), .string (bs c), .string (bs d)] 9)) (.slice (some ⟨w.heap.size, 0, none⟩) 4 4) [a, b, c, d] :=
  Sl.of_owns (l := [a, b, c, d]) (owns_new w #[.string (bs a), .string (bs b), .string (bs c), .string (bs d)] 9 1 4 rfl (by decide))

set_option maxRecDepth 20000 in
set_option maxHeartbeats 2000000 in
theorem Text_any (g n : Int) (st : List UInt8) (w : World) (hs : st.length ≤ 140737488351232) (he : EnvP w) :
    Calls Tryd.prog 30 #[.int .i64 g, .int .i64 n, .string (bs st)] w fun e W' => e = .returned (.tuple #[.string (bs (textV g n st)), .int .i64 (textE g n st)]) ∧ Below w.heap.size w W' := by
  cases h1 : inR g 0 4
  · obtain ⟨e1, e2⟩ := textE_1 (g := g) (n := n) st (by simp [inT, h1])
    rw [e1, e2]
    clear e1 e2
    go_enter Tryd.func30, Tryd.ntmps30
    go_wp2_with (first | (go_at_call 45; refine (mwithin_any _ _ _ _).mono ?_; rintro e w1 ⟨rfl, h9⟩; subst h9))
    exact bodyPost_ret (v := .tuple #[.string (bs []), .int .i64 1]) (by simp [results, Tryd.f30, go_sem, bs]) rfl ⟨rfl, Below.refl _ _⟩
  · cases h2 : inR n 1 1099511627776
    · obtain ⟨e1, e2⟩ := textE_1 (g := g) (n := n) st (by simp [inT, h2])
      rw [e1, e2]
      clear e1 e2
      go_enter Tryd.func30, Tryd.ntmps30
      go_wp2_with (first | (go_at_call 45; refine (mwithin_any _ _ _ _).mono ?_; rintro e w1 ⟨rfl, h9⟩; subst h9))
      exact bodyPost_ret (v := .tuple #[.string (bs []), .int .i64 1]) (by simp [results, Tryd.f30, go_sem, bs]) rfl ⟨rfl, Below.refl _ _⟩
    · have ht := mark_tot (g := g) (n := n) (st := st) (by simp [inT, h1, h2])
      obtain ⟨g0, g4⟩ := inR_t h1
      obtain ⟨n1, n2⟩ := inR_t h2
      have hN1 := Num_any g w (by omega) (by omega) he
      have HN2 : Hid (∀ w1, Below w.heap.size w w1 → Calls Tryd.prog 15 #[.int .i64 n] w1 fun e w' => e = .returned (.string (bs (Lib.itoa n))) ∧ Below w1.heap.size w1 w') := fun w1 hb => Num_any n w1 (by omega) (by omega) (he.next hb)
      have HP : Hid (∀ w2, Below w.heap.size w w2 → Calls Tryd.prog 14 #[.slice (some ⟨w2.heap.size, 0, none⟩) 4 4] (w2.alloc (.cells #[.string (bs [109, 97, 114, 107]), .string (bs (Lib.itoa g)), .string (bs (Lib.itoa n)), .string (bs st)] 9)) fun e W' => e = .returned (.string (bs (markT g n st))) ∧ Below w.heap.size w W') := by
        intro w2 hb
        have hb3 : Below w2.heap.size w2 (w2.alloc (.cells #[.string (bs [109, 97, 114, 107]), .string (bs (Lib.itoa g)), .string (bs (Lib.itoa n)), .string (bs st)] 9)) := (Below.refl _ _).alloc (Nat.le_refl _) _
        have hB3 := hb.trans (hb3.mono hb.size)
        refine (Pack_wide [[109, 97, 114, 107], Lib.itoa g, Lib.itoa n, st] _ _ (by simp only [List.length_cons, List.length_nil]; omega) (he.next hB3) (Sl_four w2 _ _ _ _)).mono ?_
        rintro e W' ⟨rfl, hb4⟩
        exact ⟨rfl, hB3.trans (hb4.mono hB3.size)⟩
      have hsz : (bs (markT g n st)).size = (markT g n st).length := bs_size _
      have hin : inT g n = true := by simp [inT, h1, h2]
      obtain ⟨G, hG⟩ : ∃ G, bs (Lib.itoa g) = G := ⟨_, rfl⟩
      obtain ⟨M, hM⟩ : ∃ M, bs (Lib.itoa n) = M := ⟨_, rfl⟩
      rw [hG] at hN1 HP
      rw [hM] at HN2 HP
      have HD : Hid (_ ∧ _) := ⟨textE_2 (g := g) (n := n) (st := st) hin, textE_0 (g := g) (n := n) (st := st) hin⟩
      obtain ⟨E, hE⟩ : ∃ E, textE g n st = E := ⟨_, rfl⟩
      obtain ⟨X, hX⟩ : ∃ X, textV g n st = X := ⟨_, rfl⟩
      obtain ⟨T, hT⟩ : ∃ T, markT g n st = T := ⟨_, rfl⟩
      rw [hE, hX, hT] at HD
      rw [hT] at HP hsz
      rw [hE, hX]
      clear hE hX hT hin hG hM ht he hs
      go_enter Tryd.func30, Tryd.ntmps30
      by_cases hl : 30000 < T.length
      · obtain ⟨rfl, rfl⟩ := HD.out.1 hl
        have hl2 : (30000 : Int) < (T.length : Int) := by omega
        go_wp2_with (first
          | (go_at_call 45; refine (mwithin_any _ _ _ _).mono ?_; rintro e w1 ⟨rfl, h9⟩; subst h9)
          | (go_at_call 15; refine hN1.mono ?_; clear hN1; rintro e w1 ⟨rfl, hb1⟩; have hN2 := HN2.out _ hb1)
          | (go_at_call 15; refine hN2.mono ?_; clear hN2; rintro e w2 ⟨rfl, hb2⟩; have hP := HP.out _ (hb1.trans (hb2.mono hb1.size)))
          | (go_at_call 14; refine hP.mono ?_; rintro e w4 ⟨rfl, hb4⟩))
        exact bodyPost_ret (v := .tuple #[.string (bs []), .int .i64 2]) (by simp [results, Tryd.f30, go_sem, bs]) rfl ⟨rfl, hb4⟩
      · obtain ⟨rfl, rfl⟩ := HD.out.2 (by omega)
        have hl2 : (X.length : Int) ≤ 30000 := by omega
        go_wp2_with (first
          | (go_at_call 45; refine (mwithin_any _ _ _ _).mono ?_; rintro e w1 ⟨rfl, h9⟩; subst h9)
          | (go_at_call 15; refine hN1.mono ?_; clear hN1; rintro e w1 ⟨rfl, hb1⟩; have hN2 := HN2.out _ hb1)
          | (go_at_call 15; refine hN2.mono ?_; clear hN2; rintro e w2 ⟨rfl, hb2⟩; have hP := HP.out _ (hb1.trans (hb2.mono hb1.size)))
          | (go_at_call 14; refine hP.mono ?_; rintro e w4 ⟨rfl, hb4⟩))
        exact bodyPost_ret (v := .tuple #[.string (bs X), .int .i64 0]) (by simp [results, Tryd.f30, go_sem]) rfl ⟨rfl, hb4⟩
end Go.Proofs.YtielknegifbmpaaDoor
