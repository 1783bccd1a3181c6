/- The laws BagNil and BagFull, walked. -/
import Derived.Test.YtemmnojcickcpaaBgJ
namespace Go.Proofs.Ytemmnojcickcpaa
open Go.RowKit
attribute [local go_sem ↓] Go.wp_at_zero Go.wp_at_succ

set_option maxRecDepth 20000 in
set_option maxHeartbeats 4000000 in
theorem nil_any (i : Int) (w : World) : Calls Try.prog 6 #[.int .i64 i] w fun e W' => e = .returned (.bool true) ∧ Below w.heap.size w W' := by
  have hb1 : ∀ W, Below w.heap.size w W → Below w.heap.size w (W.alloc (.cells #[.int .i64 0, .int .i64 0, .int .i64 0, .string (bs [])] 31)) := fun W h => h.alloc h.size _
  go_enter Try.func6, Try.ntmps6
  go_wp2_with (first
    | (go_at_call 20; refine (Pick_nil _ _).mono ?_; rintro e w1 ⟨rfl, h1⟩; have h2 := hb1 _ h1)
    | (go_at_call 12; refine (See_nil _ _).mono ?_; rintro e w3 ⟨rfl, h3⟩; have h4 := hb1 _ (h2.trans (h3.mono h2.size)))
    | (go_at_call 19; refine (Put_nil _).mono ?_; rintro e w5 ⟨rfl, h5⟩; have h6 := h4.trans (h5.mono h4.size))
    | (go_at_call 21; refine (Copy_nil _ _).mono ?_; rintro e w7 ⟨rfl, h7⟩; have h8 := h6.trans (h7.mono h6.size))
    | (go_at_call 14; refine (Between_nil _ _ _).mono ?_; rintro e w9 ⟨rfl, rfl⟩)
    | (go_at_call 18; refine (Older_nil _ _).mono ?_; rintro e w9 ⟨rfl, rfl⟩)
    | (go_at_call 16; refine (Len_nil _).mono ?_; rintro e w9 ⟨rfl, rfl⟩)
    | (go_at_call 17; refine (Dropped_nil _).mono ?_; rintro e w9 ⟨rfl, rfl⟩)
    | (go_at_call 10; refine (three_any _).mono ?_; rintro e wz ⟨rfl, h9⟩))
  go_ret
  exact ⟨rfl, h8.trans (h9.mono h8.size)⟩

theorem Put_full {base : Nat} {w : World} {B : Nat} {v : Value} {l : List It} {d : Int} (h : BagAt 70 31 base w B v l d) (hd : 0 ≤ d ∧ d < 1099511627776) (hl : 4096 ≤ l.length) :
    Calls Try.prog 19 #[.pointer (some ⟨B, 0, none⟩), .agg #[.int .i64 0, .int .i64 0, .int .i64 0, .string (bs [])]] w fun e W' => e = .returned (.int .i64 5) ∧ ∃ v', BagAt 70 31 base W' B v' l (d + 1) ∧ Moved B v v' w W' := by
  have h := Put_any h hd 0 0 0 []
  have h0 : putE (0, 0, 0, []) l.length = 5 := by
    unfold putE
    rw [if_neg (by decide), if_neg (by decide), if_pos hl]
  have e1 : putL (0, 0, 0, []) l = l := if_neg (by rw [h0]; decide)
  have e2 : putD (0, 0, 0, []) l d = d + 1 := if_pos h0
  rw [e1, e2, h0] at h
  exact h
theorem putE_to (t : Int) (n : Nat) (h1 : 0 ≤ t) (h2 : t < 64) (hn : n < 4096) : putE (0, t, 0, []) n = 0 := by
  have : endB t = true := by simp [endB, h1, h2]
  unfold putE
  rw [if_neg (by simp [this]; decide), if_neg (by simp), if_neg (by omega)]
set_option maxRecDepth 20000 in
set_option maxHeartbeats 4000000 in
theorem full_any (more : Int) (w : World) : Calls Try.prog 5 #[.int .i64 more] w fun e W' => e = .returned (.bool true) ∧ Below w.heap.size w W' := by
  by_cases hm : more < 0 ∨ 50 < more
  · have hc : more < 0 ∨ 0 ≤ more ∧ 50 < more := by omega
    clear hm
    rcases hc with hc | ⟨hc, hc2⟩
    all_goals
      go_enter Try.func5, Try.ntmps5
      go_wp2_with (go_at_call 10; refine (three_any _).mono ?_; rintro e wz ⟨rfl, h9⟩)
      go_ret
      exact ⟨rfl, h9⟩
  have hm0 : 0 ≤ more := by omega
  have hm5 : more ≤ 50 := by omega
  clear hm
  have hN := New_any w
  go_enter Try.func5, Try.ntmps5
  go_wp2_with (go_at_call 9; refine hN.mono ?_; rintro e w1 ⟨rfl, rfl⟩)
  have h0 := BagAt.new w w.heap.size (Nat.le_refl _)
  have hB0 : Below w.heap.size w (w.alloc (.cells #[.slice none 0 0, .int .i64 0] 70)) := (Below.refl _ w).alloc (Nat.le_refl _) _
  obtain ⟨W1, hW1⟩ : ∃ W, w.alloc (.cells #[.slice none 0 0, .int .i64 0] 70) = W := ⟨_, rfl⟩
  rw [hW1] at h0 hB0 ⊢
  obtain ⟨B, hB⟩ : ∃ B, w.heap.size = B := ⟨_, rfl⟩
  have HB : Hid (w.heap.size = B) := hB
  rw [hB] at h0 hB0
  rw [show (⟨w.heap.size, 0, none⟩ : Addr) = ⟨B, 0, none⟩ by rw [hB]]
  clear hW1 hN hB
  go_loopg [4] 4096 (fun gk i wr => ∃ k : Nat, k + gk = 4096 ∧ i = .int .i64 k ∧ ∃ v l, BagAt 70 31 B wr B v l 0 ∧ Hid (l.length = k) ∧ Below B w wr)
  case atStart => exact ⟨0, rfl, rfl, _, _, h0, rfl, hB0⟩
  case round =>
    obtain ⟨k, hk, rfl, v, l, h, HL, hB⟩ := hrel
    clear h0 hB0
    by_cases hlt : k < 4096
    · have k1 : (k : Int) < 4096 := by omega
      have k0 : (0 : Int) ≤ (k : Int) := by omega
      have t0 : (0 : Int) ≤ (k : Int) % 64 := by omega
      have t1 : (k : Int) % 64 < 64 := by omega
      have hP := Put_ok h (by decide) 0 ((k : Int) % 64) 0 [] (putE_to _ _ t0 t1 (by have := HL.out; omega))
      go_wp2_with (go_at_call 19; refine hP.mono ?_; rintro e w2 ⟨rfl, v2, h2, hm2⟩)
      go_roundg (4096 - (k + 1))
      case measure => omega
      case rel => exact ⟨k + 1, by omega, by go_num, v2, _, h2, (by show (l ++ _).length = k + 1; have := HL.out; simp; omega), hB.trans (h.bel hm2 (Nat.le_refl _))⟩
    · have hk4 : k = 4096 := by omega
      subst hk4
      go_wp2_with fail
      go_loopg [5] more.toNat (fun gk i wr => ∃ j : Nat, j + gk = more.toNat ∧ i = .int .i64 j ∧ ∃ v l, BagAt 70 31 B wr B v l j ∧ Hid (l.length = 4096) ∧ Below B w wr)
      case atStart => exact ⟨0, by omega, rfl, _, _, h, HL, hB⟩
      case round =>
        obtain ⟨j, hj, rfl, v, l, h, HL, hB⟩ := hrel
        by_cases hlt : j < more.toNat
        · have j1 : (j : Int) < more := by omega
          have j0 : (0 : Int) ≤ (j : Int) := by omega
          have hP := Put_full h (by omega) (by have := HL.out; omega)
          go_wp2_with (go_at_call 19; refine hP.mono ?_; rintro e w2 ⟨rfl, v2, h2, hm2⟩)
          go_roundg (more.toNat - (j + 1))
          case measure => omega
          case rel => exact ⟨j + 1, by omega, by go_num, v2, _, h2, HL, hB.trans (h.bel hm2 (Nat.le_refl _))⟩
        · have j1 : more ≤ (j : Int) := by omega
          have hjm : (j : Int) = more := by omega
          have HJ : Hid ((j : Int) = more) := hjm
          obtain ⟨⟨a0, a1, a2, a3⟩, ha⟩ : ∃ a, l[0]? = some a := ⟨_, List.getElem?_eq_getElem (by have := HL.out; omega)⟩
          have hC : Calls Try.prog 21 #[.pointer (some ⟨B, 0, none⟩), .int .i64 0] _ _ := Copy_full h 0 a0 a1 a2 a3 ha (by have := HL.out; omega) (by omega)
          have hLn : ∀ W, BagAt 70 31 B W B v l ((j : Int) + 1) → Calls Try.prog 16 #[.pointer (some ⟨B, 0, none⟩)] W fun e W' => e = .returned (.int .i64 4096) ∧ W' = W := fun W hW => by
            have := Len_any hW
            rw [HL.out] at this
            exact this
          have hDr : ∀ W, BagAt 70 31 B W B v l ((j : Int) + 1) → Calls Try.prog 17 #[.pointer (some ⟨B, 0, none⟩)] W fun e W' => e = .returned (.int .i64 (more + 1)) ∧ W' = W := fun W hW => by
            have := Dropped_any hW
            rw [HJ.out] at this
            exact this
          clear hjm ha hj hlt hk
          go_wp2_with (first
            | (go_at_call 21; refine hC.mono ?_; rintro e w2 ⟨rfl, h2, hm2⟩; have hB2 := hB.trans (h.bel hm2 (Nat.le_refl _)))
            | (go_at_call 16; refine (hLn _ h2).mono ?_; rintro e w3 ⟨rfl, rfl⟩)
            | (go_at_call 17; refine (hDr _ h2).mono ?_; rintro e w3 ⟨rfl, rfl⟩)
            | (go_at_call 10; refine (three_any _).mono ?_; rintro e wz ⟨rfl, h9⟩))
          go_ret
          exact ⟨rfl, by rw [HB.out]; exact hB2.trans (h9.mono (Nat.le_trans h2.base (Nat.le_of_lt h2.lt)))⟩
end Go.Proofs.Ytemmnojcickcpaa
