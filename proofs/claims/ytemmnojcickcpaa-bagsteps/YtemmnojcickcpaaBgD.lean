/- The bag's Put, See and Copy, walked. -/
import Derived.Test.YtemmnojcickcpaaBgC
namespace Go.Proofs.Ytemmnojcickcpaa
open Go.RowKit
attribute [local go_sem ↓] Go.wp_at_zero Go.wp_at_succ

/-- What Put answers, so many being there. -/
def putE (a : It) (n : Nat) : Int := if ¬ (endB a.1 = true ∧ endB a.2.1 = true ∧ 0 ≤ a.2.2.1) then 1 else if 1048576 < a.2.2.2.length then 2 else if 4096 ≤ n then 5 else 0
def putL (a : It) (l : List It) : List It := if putE a l.length = 0 then l ++ [a] else l
def putD (a : It) (l : List It) (d : Int) : Int := if putE a l.length = 5 then d + 1 else d
theorem putE_cases (a : It) (n : Nat) : (putE a n = 1 ∧ (endB a.1 = false ∨ endB a.1 = true ∧ (endB a.2.1 = false ∨ endB a.2.1 = true ∧ a.2.2.1 < 0))) ∨
    (endB a.1 = true ∧ endB a.2.1 = true ∧ 0 ≤ a.2.2.1 ∧ ((putE a n = 2 ∧ 1048576 < a.2.2.2.length) ∨ (a.2.2.2.length ≤ 1048576 ∧ ((putE a n = 5 ∧ 4096 ≤ n) ∨ (putE a n = 0 ∧ n < 4096))))) := by
  unfold putE
  cases h1 : endB a.1
  · left; simp
  · cases h2 : endB a.2.1
    · left; simp
    · by_cases h3 : 0 ≤ a.2.2.1
      · right
        refine ⟨rfl, rfl, h3, ?_⟩
        rw [if_neg (by simp [h3])]
        by_cases h4 : 1048576 < a.2.2.2.length
        · left; exact ⟨if_pos h4, h4⟩
        · right
          refine ⟨by omega, ?_⟩
          rw [if_neg h4]
          by_cases h5 : 4096 ≤ n
          · left; exact ⟨if_pos h5, h5⟩
          · right; exact ⟨if_neg h5, by omega⟩
      · left
        simp [h3]; omega

set_option maxRecDepth 20000 in
set_option maxHeartbeats 2000000 in
theorem Put_any {base : Nat} {w : World} {B : Nat} {v : Value} {l : List It} {d : Int} (h : BagAt 70 31 base w B v l d) (hd : 0 ≤ d ∧ d < 1099511627776) (a0 a1 a2 : Int) (a3 : List UInt8) :
    Calls Try.prog 19 #[.pointer (some ⟨B, 0, none⟩), .agg #[.int .i64 a0, .int .i64 a1, .int .i64 a2, .string (bs a3)]] w fun e W' => e = .returned (.int .i64 (putE (a0, a1, a2, a3) l.length)) ∧ ∃ v', BagAt 70 31 base W' B v' (putL (a0, a1, a2, a3) l) (putD (a0, a1, a2, a3) l d) ∧ Moved B v v' w W' := by
  have hb0 : Below w.heap.size w (w.alloc (.cells #[.int .i64 a0, .int .i64 a1, .int .i64 a2, .string (bs a3)] 31)) := (Below.refl _ w).alloc (Nat.le_refl _) _
  have h0 := h.next hb0
  have hm0 := Moved.of_below hb0 B v
  have hsz : (bs a3).size = a3.length := bs_size a3
  have HC : Hid (_) := putE_cases (a0, a1, a2, a3) l.length
  obtain ⟨E, hE⟩ : ∃ E, putE (a0, a1, a2, a3) l.length = E := ⟨_, rfl⟩
  have hL : putL (a0, a1, a2, a3) l = if E = 0 then l ++ [(a0, a1, a2, a3)] else l := by rw [putL, hE]
  have hD : putD (a0, a1, a2, a3) l d = if E = 5 then d + 1 else d := by rw [putD, hE]
  rw [hL, hD, hE]
  rw [hE] at HC
  have hI0 := fun W => isEnd_any a0 W
  have hI1 := fun W => isEnd_any a1 W
  have hC := HC.out
  simp only at hC
  clear HC hE hL hD
  rcases hC with ⟨rfl, hc⟩ | ⟨e0, e1, e2, ⟨rfl, e3⟩ | ⟨e3, ⟨rfl, e4⟩ | ⟨rfl, e4⟩⟩⟩
  · rw [if_neg (by decide), if_neg (by decide)]
    rcases hc with e0 | ⟨e0, e1 | ⟨e1, e2⟩⟩
    · rw [e0] at hI0
      go_enter Try.func19, Try.ntmps19
      go_wp2_with (go_at_call 32; refine (hI0 _).mono ?_; rintro e w1 ⟨rfl, rfl⟩)
      go_ret
      exact ⟨rfl, v, h0, hm0⟩
    · rw [e0] at hI0
      rw [e1] at hI1
      go_enter Try.func19, Try.ntmps19
      go_wp2_with fail
      refine (hI0 _).mono ?_
      rintro e w1 ⟨rfl, rfl⟩
      go_wp2_with fail
      refine (hI1 _).mono ?_
      rintro e w1 ⟨rfl, rfl⟩
      go_wp2
      go_ret
      exact ⟨rfl, v, h0, hm0⟩
    · rw [e0] at hI0
      rw [e1] at hI1
      go_enter Try.func19, Try.ntmps19
      go_wp2_with fail
      refine (hI0 _).mono ?_
      rintro e w1 ⟨rfl, rfl⟩
      go_wp2_with fail
      refine (hI1 _).mono ?_
      rintro e w1 ⟨rfl, rfl⟩
      go_wp2
      go_ret
      exact ⟨rfl, v, h0, hm0⟩
  · rw [if_neg (by decide), if_neg (by decide)]
    rw [e0] at hI0
    rw [e1] at hI1
    have e3' : (1048576 : Int) < a3.length := by omega
    go_enter Try.func19, Try.ntmps19
    go_wp2_with fail
    refine (hI0 _).mono ?_
    rintro e w1 ⟨rfl, rfl⟩
    go_wp2_with fail
    refine (hI1 _).mono ?_
    rintro e w1 ⟨rfl, rfl⟩
    go_wp2
    go_ret
    exact ⟨rfl, v, h0, hm0⟩
  · rw [if_neg (by decide), if_pos rfl]
    rw [e0] at hI0
    rw [e1] at hI1
    have e3' : (a3.length : Int) ≤ 1048576 := by omega
    have hA : Calls Try.prog 33 #[.pointer (some ⟨B, 0, none⟩), .agg #[.int .i64 a0, .int .i64 a1, .int .i64 a2, .string (bs a3)]] _ _ := add_full h0 (a0, a1, a2, a3) e4 hd
    go_enter Try.func19, Try.ntmps19
    go_wp2_with fail
    refine (hI0 _).mono ?_
    rintro e w1 ⟨rfl, rfl⟩
    go_wp2_with fail
    refine (hI1 _).mono ?_
    rintro e w1 ⟨rfl, rfl⟩
    go_wp2_with fail
    refine hA.mono ?_
    rintro e w1 ⟨rfl, h1, hm⟩
    go_wp2
    go_ret
    exact ⟨rfl, v, h1, hm0.trans hm⟩
  · rw [if_pos rfl, if_neg (by decide)]
    rw [e0] at hI0
    rw [e1] at hI1
    have e3' : (a3.length : Int) ≤ 1048576 := by omega
    have hA : Calls Try.prog 33 #[.pointer (some ⟨B, 0, none⟩), .agg #[.int .i64 a0, .int .i64 a1, .int .i64 a2, .string (bs a3)]] _ _ := add_ok h0 (a0, a1, a2, a3) e4
    go_enter Try.func19, Try.ntmps19
    go_wp2_with fail
    refine (hI0 _).mono ?_
    rintro e w1 ⟨rfl, rfl⟩
    go_wp2_with fail
    refine (hI1 _).mono ?_
    rintro e w1 ⟨rfl, rfl⟩
    go_wp2_with fail
    refine hA.mono ?_
    rintro e w1 ⟨rfl, v', h1, hm⟩
    go_wp2
    go_ret
    exact ⟨rfl, v', h1, hm0.trans hm⟩
theorem Put_nil (w : World) : Calls Try.prog 19 #[.pointer none, .agg #[.int .i64 0, .int .i64 0, .int .i64 0, .string (bs [])]] w fun e W' => e = .returned (.int .i64 5) ∧ Below w.heap.size w W' := by
  have hb0 : Below w.heap.size w (w.alloc (.cells #[.int .i64 0, .int .i64 0, .int .i64 0, .string (bs [])] 31)) := (Below.refl _ w).alloc (Nat.le_refl _) _
  have hI0 : ∀ W, Calls Try.prog 32 #[.int .i64 0] W fun e W' => e = .returned (.bool true) ∧ W' = W := fun W => isEnd_any 0 W
  have hsz : (bs []).size = 0 := rfl
  have hA : Calls Try.prog 33 #[.pointer none, .agg #[.int .i64 0, .int .i64 0, .int .i64 0, .string (bs [])]] _ _ := add_nil (0, 0, 0, []) (w.alloc (.cells #[.int .i64 0, .int .i64 0, .int .i64 0, .string (bs [])] 31))
  go_enter Try.func19, Try.ntmps19
  go_wp2_with fail
  refine (hI0 _).mono ?_
  rintro e w1 ⟨rfl, rfl⟩
  go_wp2_with fail
  refine (hI0 _).mono ?_
  rintro e w1 ⟨rfl, rfl⟩
  go_wp2_with fail
  refine hA.mono ?_
  rintro e w1 ⟨rfl, hb⟩
  go_wp2
  go_ret
  exact ⟨rfl, hb0.trans (hb.mono hb0.size)⟩
end Go.Proofs.Ytemmnojcickcpaa
