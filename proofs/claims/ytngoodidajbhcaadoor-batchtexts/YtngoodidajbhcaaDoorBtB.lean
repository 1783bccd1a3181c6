/- The pool's small functions, walked: New, isCaller, fault, the three questions, IndexFunc, find. -/
import Derived.Test.YtngoodidajbhcaaDoorBtA
namespace Go.Proofs.YtngoodidajbhcaaDoor.Bat
open Go.RowKit
attribute [local go_sem ↓] Go.wp_at_zero Go.wp_at_succ

/-- The zero pool's cells. -/
def Z65 : Array Value := #[.slice none 0 0] ++ Array.replicate 64 (.int .i64 0)
theorem Tryd.info47 : (Tryd.prog.info? 47).map (fun i => (i.zero, i.size, i.bytes)) = some (some (.agg Z65), 65, 536) := by kernel_rfl
theorem Tryd.zero47 (w : World) : (zeroValue 47).run Tryd.prog w = .ok (.agg Z65) w := by
  obtain ⟨i, hi, hz, _⟩ := info_parts Tryd.info47
  simp [zeroValue, typeInfo, hi, hz]
theorem cell_alloc {w : World} {p : Addr} {v : Value} (o : Obj) (h : w.cell? p = some v) : (w.alloc o).cell? p = some v := by
  have hlt : p.block < w.heap.size := by
    rcases Nat.lt_or_ge p.block w.heap.size with h' | h'
    · exact h'
    · simp [World.cell?, Array.getElem?_eq_none h'] at h
  rw [← h]
  simp only [World.cell?, World.alloc, Array.getElem?_push, Nat.ne_of_lt hlt, if_false]
set_option maxRecDepth 20000 in
theorem New_any (w : World) (base : Nat) (hb : base ≤ w.heap.size) : Calls Tryd.prog 10 #[] w fun e W' => e = .returned (.pointer (some ⟨w.heap.size, 0, none⟩)) ∧ PoolAt base W' w.heap.size (.slice none 0 0) [] (fun _ => 0) ∧ Below w.heap.size w W' := by
  have hz := Tryd.zero47
  have HZ : Hid (Z65[0]? = some (.slice none 0 0) ∧ ∀ c, c < 64 → Z65[c + 1]? = some (.int .i64 0)) := by
    refine ⟨rfl, fun c hc => ?_⟩
    unfold Z65
    rw [Array.getElem?_append_right (by simp)]
    simp [hc]
  obtain ⟨Z, hZ⟩ : ∃ Z, Z65 = Z := ⟨_, rfl⟩
  rw [hZ] at hz HZ
  clear hZ
  go_enter Tryd.func10, Tryd.ntmps10
  go_wp2
  go_ret
  exact ⟨rfl, ⟨⟨_, heap_alloc_new _ _, HZ.out.1, HZ.out.2⟩, World.ownsRow_nil _ _ _ _, fun h => (by cases h), hb⟩, (Below.refl _ w).alloc (Nat.le_refl _) _⟩

/-- Is it a caller? -/
def callB (n : Int) : Bool := decide (0 ≤ n ∧ n < 64)
theorem callB_t {n : Int} (h : callB n = true) : 0 ≤ n ∧ n < 64 := by simpa [callB] using h
theorem isCaller_any (n : Int) (w : World) : Calls Tryd.prog 25 #[.int .i64 n] w fun e W' => e = .returned (.bool (callB n)) ∧ W' = w := by
  by_cases h1 : 0 ≤ n
  · by_cases h2 : n < 64
    · rw [show callB n = true by simp [callB, h1, h2]]
      go_enter Tryd.func25, Tryd.ntmps25
      go_wp2
      go_ret
      exact ⟨rfl, rfl⟩
    · rw [show callB n = false by simp [callB, h2]]
      go_enter Tryd.func25, Tryd.ntmps25
      go_wp2
      go_ret
      exact ⟨rfl, rfl⟩
  · rw [show callB n = false by simp [callB, h1]]
    go_enter Tryd.func25, Tryd.ntmps25
    go_wp2
    go_ret
    exact ⟨rfl, rfl⟩
/-- Are they a caller and a number? -/
def okB (c n : Int) : Bool := callB c && (decide (1 ≤ n) && decide (n ≤ 1099511627776))
theorem okB_t {c n : Int} (h : okB c n = true) : 0 ≤ c ∧ c < 64 ∧ 1 ≤ n ∧ n ≤ 1099511627776 := by
  simp [okB, callB] at h; omega
theorem fault_any (c n : Int) (w : World) : Calls Tryd.prog 20 #[.int .i64 c, .int .i64 n] w fun e W' => e = .returned (.int .i64 (if okB c n = true then 0 else 1)) ∧ W' = w := by
  have hI := isCaller_any c
  cases h0 : callB c
  · rw [h0] at hI
    rw [show okB c n = false by simp [okB, h0], if_neg (by decide)]
    go_enter Tryd.func20, Tryd.ntmps20
    go_wp2_with (go_at_call 25; refine (hI _).mono ?_; rintro e w1 ⟨rfl, rfl⟩)
    go_ret
    exact ⟨rfl, rfl⟩
  · rw [h0] at hI
    by_cases h1 : n < 1
    · rw [show okB c n = false by simp [okB, h0]; omega, if_neg (by decide)]
      go_enter Tryd.func20, Tryd.ntmps20
      go_wp2_with (go_at_call 25; refine (hI _).mono ?_; rintro e w1 ⟨rfl, rfl⟩)
      go_ret
      exact ⟨rfl, rfl⟩
    · by_cases h2 : 1099511627776 < n
      · rw [show okB c n = false by simp [okB, h0]; omega, if_neg (by decide)]
        have h3 : 1 ≤ n := by omega
        go_enter Tryd.func20, Tryd.ntmps20
        go_wp2_with (go_at_call 25; refine (hI _).mono ?_; rintro e w1 ⟨rfl, rfl⟩)
        go_ret
        exact ⟨rfl, rfl⟩
      · rw [show okB c n = true by simp [okB, h0]; omega, if_pos rfl]
        have h3 : 1 ≤ n := by omega
        have h4 : n ≤ 1099511627776 := by omega
        go_enter Tryd.func20, Tryd.ntmps20
        go_wp2_with (go_at_call 25; refine (hI _).mono ?_; rintro e w1 ⟨rfl, rfl⟩)
        go_ret
        exact ⟨rfl, rfl⟩
theorem fault_ok {c n : Int} (h : okB c n = true) (w : World) : Calls Tryd.prog 20 #[.int .i64 c, .int .i64 n] w fun e W' => e = .returned (.int .i64 0) ∧ W' = w := by
  have := fault_any c n w
  rw [if_pos h] at this
  exact this
theorem fault_no {c n : Int} (h : okB c n = false) (w : World) : Calls Tryd.prog 20 #[.int .i64 c, .int .i64 n] w fun e W' => e = .returned (.int .i64 1) ∧ W' = w := by
  have := fault_any c n w
  rw [if_neg (by rw [h]; decide)] at this
  exact this
theorem of_any (c : Int) (w : World) : Calls Tryd.prog 22 #[.int .i64 c] w fun e W' => e = .returned (.func (.func 34) #[] #[.pointer (some ⟨w.heap.size, 0, none⟩)]) ∧ W' = w.alloc (.cells #[.int .i64 c] 3) := by
  go_enter Tryd.func22, Tryd.ntmps22
  go_wp2
  go_ret
  exact ⟨rfl, rfl⟩
theorem upTo_any (c n : Int) (w : World) : Calls Tryd.prog 24 #[.int .i64 c, .int .i64 n] w fun e W' => e = .returned (.func (.func 36) #[] #[.pointer (some ⟨w.heap.size, 0, none⟩), .pointer (some ⟨w.heap.size + 1, 0, none⟩)]) ∧ W' = (w.alloc (.cells #[.int .i64 c] 3)).alloc (.cells #[.int .i64 n] 3) := by
  go_enter Tryd.func24, Tryd.ntmps24
  go_wp2
  go_ret
  exact ⟨rfl, rfl⟩
/-- The three questions. -/
def ofP (c : Int) (a : Rq) : Bool := decide (a.1 = c)
def upP (c n : Int) (a : Rq) : Bool := decide (a.1 = c) && decide (a.2.1 ≤ n)
def exP (c n : Int) (a : Rq) : Bool := decide (a.1 = c) && decide (a.2.1 = n)
theorem clo33 (c : Int) (P : Nat) (a : Rq) (w : World) (hc : w.cell? ⟨P, 0, none⟩ = some (.int .i64 c)) : Calls Tryd.prog 34 #[.agg #[.int .i64 a.1, .int .i64 a.2.1, .string (bs a.2.2)], .pointer (some ⟨P, 0, none⟩)] w fun e W' => e = .returned (.bool (ofP c a)) ∧ Below w.heap.size w W' := by
  have hc2 := cell_alloc (.cells #[.int .i64 a.1, .int .i64 a.2.1, .string (bs a.2.2)] 26) hc
  by_cases h : a.1 = c
  · rw [show ofP c a = true by simp [ofP, h]]
    have hq : (a.1 == c) = true := by simp [h]
    clear h
    go_enter Tryd.func34, Tryd.ntmps34
    go_wp2
    go_ret
    exact ⟨rfl, (Below.refl _ w).alloc (Nat.le_refl _) _⟩
  · rw [show ofP c a = false by simp [ofP, h]]
    have hq : (a.1 == c) = false := by simp [h]
    clear h
    go_enter Tryd.func34, Tryd.ntmps34
    go_wp2
    go_ret
    exact ⟨rfl, (Below.refl _ w).alloc (Nat.le_refl _) _⟩
set_option maxHeartbeats 1000000 in
theorem clo35 (c n : Int) (P Q : Nat) (a : Rq) (w : World) (hc : w.cell? ⟨P, 0, none⟩ = some (.int .i64 c)) (hn : w.cell? ⟨Q, 0, none⟩ = some (.int .i64 n)) : Calls Tryd.prog 36 #[.agg #[.int .i64 a.1, .int .i64 a.2.1, .string (bs a.2.2)], .pointer (some ⟨P, 0, none⟩), .pointer (some ⟨Q, 0, none⟩)] w fun e W' => e = .returned (.bool (upP c n a)) ∧ Below w.heap.size w W' := by
  have hc2 := cell_alloc (.cells #[.int .i64 a.1, .int .i64 a.2.1, .string (bs a.2.2)] 26) hc
  have hn2 := cell_alloc (.cells #[.int .i64 a.1, .int .i64 a.2.1, .string (bs a.2.2)] 26) hn
  by_cases h : a.1 = c
  · have hq : (a.1 == c) = true := by simp [h]
    by_cases h2 : a.2.1 ≤ n
    · rw [show upP c n a = true by simp [upP, h, h2]]
      have hq2 : decide (a.2.1 ≤ n) = true := by simp [h2]
      clear h h2
      go_enter Tryd.func36, Tryd.ntmps36
      go_wp2
      go_ret
      exact ⟨by first | rfl | simp_all, (Below.refl _ w).alloc (Nat.le_refl _) _⟩
    · rw [show upP c n a = false by simp [upP, h2]]
      have hq2 : decide (a.2.1 ≤ n) = false := by simp; omega
      clear h h2
      go_enter Tryd.func36, Tryd.ntmps36
      go_wp2
      go_ret
      exact ⟨by first | rfl | simp_all, (Below.refl _ w).alloc (Nat.le_refl _) _⟩
  · rw [show upP c n a = false by simp [upP, h]]
    have hq : (a.1 == c) = false := by simp [h]
    clear h
    go_enter Tryd.func36, Tryd.ntmps36
    go_wp2
    go_ret
    exact ⟨rfl, (Below.refl _ w).alloc (Nat.le_refl _) _⟩
end Go.Proofs.YtngoodidajbhcaaDoor.Bat
