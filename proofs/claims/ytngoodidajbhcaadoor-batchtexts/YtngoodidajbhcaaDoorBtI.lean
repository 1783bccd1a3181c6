/- What Add, Done and Forget answer, in one; and the laws' small case, walked. -/
import Derived.Test.YtngoodidajbhcaaDoorBtH
namespace Go.Proofs.YtngoodidajbhcaaDoor.Bat
open Go.RowKit
attribute [local go_sem ↓] Go.wp_at_zero Go.wp_at_succ

/-- What Add answers, and what is there behind it. -/
def addR (c n : Int) (t : List UInt8) (l : List Rq) (D : Nat → Int) : Bool × Int × List Rq :=
  if okB c n = false then (false, 1, l) else if 4000 < t.length then (false, 2, l) else if n ≤ D c.toNat then (false, 0, l) else
  match l.findIdx? (ofP c) with
  | some i => if n ≤ ((l[i]?).getD (0, 0, [])).2.1 then (false, 0, l) else (true, 0, rmL (ofP c) l ++ [(c, n, t)])
  | none => if 24 ≤ l.length then (false, 5, l) else (true, 0, rmL (ofP c) l ++ [(c, n, t)])
theorem Add_any {base : Nat} {w : World} {B : Nat} {v : Value} {l : List Rq} {D : Nat → Int} (h : PoolAt base w B v l D) (hlen : l.length ≤ 1000) (c n : Int) (t : List UInt8) (b1 : Bool) (e1 : Int) (l1 : List Rq) (hR : addR c n t l D = (b1, e1, l1)) :
    Calls Tryd.prog 11 #[.pointer (some ⟨B, 0, none⟩), .agg #[.int .i64 c, .int .i64 n, .string (bs t)]] w fun e W' => e = .returned (.tuple #[.bool b1, .int .i64 e1]) ∧ ∃ v', PoolAt base W' B v' l1 D ∧ Moved B v v' w W' := by
  have stay : ∀ (b : Bool) (x : Int), (Calls Tryd.prog 11 #[.pointer (some ⟨B, 0, none⟩), .agg #[.int .i64 c, .int .i64 n, .string (bs t)]] w fun e W' => e = .returned (.tuple #[.bool b, .int .i64 x]) ∧ Below w.heap.size w W') → Calls Tryd.prog 11 #[.pointer (some ⟨B, 0, none⟩), .agg #[.int .i64 c, .int .i64 n, .string (bs t)]] w fun e W' => e = .returned (.tuple #[.bool b, .int .i64 x]) ∧ ∃ v', PoolAt base W' B v' l D ∧ Moved B v v' w W' := by
    intro b x hC
    refine hC.mono ?_
    rintro e W' ⟨rfl, hb⟩
    exact ⟨rfl, v, h.next hb, Moved.of_below hb B v⟩
  unfold addR at hR
  by_cases h1 : okB c n = false
  · rw [if_pos h1] at hR
    injection hR with a1 a2
    injection a2 with a2 a3
    subst a1 a2 a3
    exact stay _ _ (Add_no _ c n t h1 w)
  · rw [if_neg h1] at hR
    have hok : okB c n = true := by simpa using h1
    by_cases h2 : 4000 < t.length
    · rw [if_pos h2] at hR
      injection hR with a1 a2
      injection a2 with a2 a3
      subst a1 a2 a3
      exact stay _ _ (Add_long _ c n t hok h2 w)
    · rw [if_neg h2] at hR
      have hb := okB_t hok
      obtain ⟨k, rfl⟩ : ∃ k : Nat, (k : Int) = c := ⟨c.toNat, by omega⟩
      rw [Int.toNat_natCast] at hR
      by_cases h3 : n ≤ D k
      · rw [if_pos h3] at hR
        injection hR with a1 a2
        injection a2 with a2 a3
        subst a1 a2 a3
        exact stay _ _ (Add_old h hlen k n t hok (by omega) h3)
      · rw [if_neg h3] at hR
        cases hi : l.findIdx? (ofP k) with
        | some i =>
          rw [hi] at hR
          have hil := idx_lt hi
          obtain ⟨a, ha⟩ : ∃ a, l[i]? = some a := ⟨_, List.getElem?_eq_getElem hil⟩
          simp only [ha, Option.getD_some] at hR
          by_cases h4 : n ≤ a.2.1
          · rw [if_pos h4] at hR
            injection hR with a1 a2
            injection a2 with a2 a3
            subst a1 a2 a3
            exact stay _ _ (Add_there h hlen k n t hok (by omega) (by omega) i a hi ha h4)
          · rw [if_neg h4] at hR
            injection hR with a1 a2
            injection a2 with a2 a3
            subst a1 a2 a3
            exact Add_ok h hlen k n t hok (by omega) (by omega) (.inl ⟨i, a, hi, ha, by omega⟩)
        | none =>
          rw [hi] at hR
          by_cases h4 : 24 ≤ l.length
          · simp only [if_pos h4] at hR
            injection hR with a1 a2
            injection a2 with a2 a3
            subst a1 a2 a3
            exact stay _ _ (Add_full h hlen k n t hok (by omega) (by omega) hi h4)
          · simp only [if_neg h4] at hR
            injection hR with a1 a2
            injection a2 with a2 a3
            subst a1 a2 a3
            exact Add_ok h hlen k n t hok (by omega) (by omega) (.inr ⟨hi, by omega⟩)
/-- What Done answers, what is there, what is done. -/
def doneR (c n : Int) (l : List Rq) (D : Nat → Int) : Bool × Int × List Rq × (Nat → Int) := if okB c n = false then (false, 1, l, D) else (hitB (upP c n) l, 0, rmL (upP c n) l, updM D c.toNat n)
theorem Done_all {base : Nat} {w : World} {B : Nat} {v : Value} {l : List Rq} {D : Nat → Int} (h : PoolAt base w B v l D) (hlen : l.length ≤ 1000) (c n : Int) (b1 : Bool) (e1 : Int) (l1 : List Rq) (D1 : Nat → Int) (hR : doneR c n l D = (b1, e1, l1, D1)) :
    Calls Tryd.prog 12 #[.pointer (some ⟨B, 0, none⟩), .int .i64 c, .int .i64 n] w fun e W' => e = .returned (.tuple #[.bool b1, .int .i64 e1]) ∧ ∃ v', PoolAt base W' B v' l1 D1 ∧ Moved B v v' w W' := by
  unfold doneR at hR
  by_cases h1 : okB c n = false
  · rw [if_pos h1] at hR
    injection hR with a1 a2
    injection a2 with a2 a3
    injection a3 with a3 a4
    subst a1 a2 a3 a4
    refine (Done_no _ h1 w).mono ?_
    rintro e W' ⟨rfl, rfl⟩
    exact ⟨rfl, v, h, Moved.refl _ _ _⟩
  · rw [if_neg h1] at hR
    have hok : okB c n = true := by simpa using h1
    have hb := okB_t hok
    injection hR with a1 a2
    injection a2 with a2 a3
    injection a3 with a3 a4
    subst a1 a2 a3 a4
    obtain ⟨k, rfl⟩ : ∃ k : Nat, (k : Int) = c := ⟨c.toNat, by omega⟩
    rw [Int.toNat_natCast]
    exact Done_any h hlen hok
/-- What Forget answers, and what is there. -/
def forR (c n : Int) (l : List Rq) : Bool × Int × List Rq := if okB c n = false then (false, 1, l) else (hitB (exP c n) l, 0, rmL (exP c n) l)
set_option maxRecDepth 20000 in
set_option maxHeartbeats 4000000 in
theorem one_any (w : World) : Calls Tryd.prog 4 #[] w fun e W' => e = .returned (.bool true) ∧ Below w.heap.size w W' := by
  have hN := New_any w w.heap.size (Nat.le_refl _)
  go_enter Tryd.func4, Tryd.ntmps4
  go_wp2_with fail
  refine hN.mono ?_
  rintro e w1 ⟨rfl, h0, hB0⟩
  obtain ⟨B, hB⟩ : ∃ B, w.heap.size = B := ⟨_, rfl⟩
  have HB : Hid (w.heap.size = B) := hB
  rw [hB] at h0 hB0
  rw [show (⟨w.heap.size, 0, none⟩ : Addr) = ⟨B, 0, none⟩ by rw [hB]]
  clear hN hB
  have hP0 := Add_any h0 (by decide) 1 5 [97] true 0 [(1, 5, [97])] (by rfl)
  go_wp2_with fail
  refine hP0.mono ?_
  rintro e w2 ⟨rfl, v2, h2, hm2⟩
  have hB2 := hB0.trans (h0.bel hm2 (Nat.le_refl _))
  have hP2 := Add_any h2 (by decide) 1 5 [98] false 0 [(1, 5, [97])] (by rfl)
  clear hP0 h0 hm2 hB0
  go_wp2_with fail
  refine hP2.mono ?_
  rintro e w3 ⟨rfl, v3, h3, hm3⟩
  have hB3 := hB2.trans (h2.bel hm3 (Nat.le_refl _))
  have hP3 := Add_any h3 (by decide) 1 6 [98] true 0 [(1, 6, [98])] (by rfl)
  clear hP2 h2 hm3 hB2
  go_wp2_with fail
  refine hP3.mono ?_
  rintro e w4 ⟨rfl, v4, h4, hm4⟩
  have hB4 := hB3.trans (h3.bel hm4 (Nat.le_refl _))
  have hP4 := Done_all h4 (by decide) 1 6 true 0 [] (updM (fun _ => 0) 1 6) (by rfl)
  clear hP3 h3 hm4 hB3
  go_wp2_with fail
  refine hP4.mono ?_
  rintro e w5 ⟨rfl, v5, h5, hm5⟩
  have hB5 := hB4.trans (h4.bel hm5 (Nat.le_refl _))
  have hP5 := Add_any h5 (by decide) 1 6 [99] false 0 [] (by rfl)
  clear hP4 h4 hm5 hB4
  go_wp2_with fail
  refine hP5.mono ?_
  rintro e w6 ⟨rfl, v6, h6, hm6⟩
  have hB6 := hB5.trans (h5.bel hm6 (Nat.le_refl _))
  have hP6 := Last_any h6 1
  rw [show lastV (updM (fun _ => 0) 1 6) 1 = 6 by rfl] at hP6
  clear hP5 h5 hm6 hB5 h6
  go_wp2_with (go_at_call 13; refine hP6.mono ?_; rintro e w7 ⟨rfl, h9⟩; subst h9)
  go_ret
  exact ⟨rfl, by rw [HB.out]; exact hB6⟩
end Go.Proofs.YtngoodidajbhcaaDoor.Bat
