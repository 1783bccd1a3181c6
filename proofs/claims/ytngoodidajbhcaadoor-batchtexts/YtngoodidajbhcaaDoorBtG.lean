/- The pool's Add, where nothing is added, walked. -/
import Derived.Test.YtngoodidajbhcaaDoorBtF
namespace Go.Proofs.YtngoodidajbhcaaDoor.Bat
open Go.RowKit
attribute [local go_sem ↓] Go.wp_at_zero Go.wp_at_succ

theorem Add_no (p : Option Addr) (c n : Int) (t : List UInt8) (h : okB c n = false) (w : World) : Calls Tryd.prog 11 #[.pointer p, .agg #[.int .i64 c, .int .i64 n, .string (bs t)]] w fun e W' => e = .returned (.tuple #[.bool false, .int .i64 1]) ∧ Below w.heap.size w W' := by
  have hF := fault_no h
  have hb0 : Below w.heap.size w (w.alloc (.cells #[.int .i64 c, .int .i64 n, .string (bs t)] 26)) := (Below.refl _ w).alloc (Nat.le_refl _) _
  clear h
  go_enter Tryd.func11, Tryd.ntmps11
  go_wp2_with (first | (go_at_call 20; refine (hF _).mono ?_; rintro e w1 ⟨rfl, h9⟩; subst h9))
  exact bodyPost_ret (v := .tuple #[.bool false, .int .i64 1]) (by simp [results, Tryd.f11, go_sem]) rfl ⟨rfl, hb0⟩
theorem Add_long (p : Option Addr) (c n : Int) (t : List UInt8) (h : okB c n = true) (ht : 4000 < t.length) (w : World) : Calls Tryd.prog 11 #[.pointer p, .agg #[.int .i64 c, .int .i64 n, .string (bs t)]] w fun e W' => e = .returned (.tuple #[.bool false, .int .i64 2]) ∧ Below w.heap.size w W' := by
  have hF := fault_ok h
  have hb0 : Below w.heap.size w (w.alloc (.cells #[.int .i64 c, .int .i64 n, .string (bs t)] 26)) := (Below.refl _ w).alloc (Nat.le_refl _) _
  have hsz : (bs t).size = t.length := bs_size t
  have ht2 : (4000 : Int) < (t.length : Int) := by omega
  clear h
  go_enter Tryd.func11, Tryd.ntmps11
  go_wp2_with (first | (go_at_call 20; refine (hF _).mono ?_; rintro e w1 ⟨rfl, h9⟩; subst h9))
  exact bodyPost_ret (v := .tuple #[.bool false, .int .i64 2]) (by simp [results, Tryd.f11, go_sem]) rfl ⟨rfl, hb0⟩
theorem Add_nil (c n : Int) (t : List UInt8) (h : okB c n = true) (ht : t.length ≤ 4000) (w : World) : Calls Tryd.prog 11 #[.pointer none, .agg #[.int .i64 c, .int .i64 n, .string (bs t)]] w fun e W' => e = .returned (.tuple #[.bool false, .int .i64 5]) ∧ Below w.heap.size w W' := by
  have hF := fault_ok h
  have hb0 : Below w.heap.size w (w.alloc (.cells #[.int .i64 c, .int .i64 n, .string (bs t)] 26)) := (Below.refl _ w).alloc (Nat.le_refl _) _
  have hsz : (bs t).size = t.length := bs_size t
  have ht2 : (t.length : Int) ≤ 4000 := by omega
  clear h
  go_enter Tryd.func11, Tryd.ntmps11
  go_wp2_with (first | (go_at_call 20; refine (hF _).mono ?_; rintro e w1 ⟨rfl, h9⟩; subst h9))
  exact bodyPost_ret (v := .tuple #[.bool false, .int .i64 5]) (by simp [results, Tryd.f11, go_sem]) rfl ⟨rfl, hb0⟩
/-- What Add meets ahead of its first look: the request's block, the question, the place. -/
theorem add_find {base : Nat} {w : World} {B : Nat} {v : Value} {l : List Rq} {D : Nat → Int} (h : PoolAt base w B v l D) (hlen : l.length ≤ 1000) (c n : Int) (t : List UInt8) :
    Calls Tryd.prog 21 #[.pointer (some ⟨B, 0, none⟩), .func (.func 34) #[] #[.pointer (some ⟨w.heap.size + 1, 0, none⟩)]] ((w.alloc (.cells #[.int .i64 c, .int .i64 n, .string (bs t)] 26)).alloc (.cells #[.int .i64 c] 3)) fun e W' => e = .returned (.int .i64 (idxI (ofP c) l)) ∧
      Below w.heap.size w W' ∧ PoolAt base W' B v l D ∧ W'.heap[w.heap.size]? = some (.cells #[.int .i64 c, .int .i64 n, .string (bs t)] 26) := by
  have hb0 : Below w.heap.size w (w.alloc (.cells #[.int .i64 c, .int .i64 n, .string (bs t)] 26)) := (Below.refl _ w).alloc (Nat.le_refl _) _
  have hb1 := hb0.alloc hb0.size (.cells #[.int .i64 c] 3)
  have r0 := (Below.heap_alloc (w.alloc (.cells #[.int .i64 c, .int .i64 n, .string (bs t)] 26)) (.cells #[.int .i64 c] 3) w.heap.size (by simp)).trans (heap_alloc_new w (.cells #[.int .i64 c, .int .i64 n, .string (bs t)] 26))
  have hq := heap_alloc_new (w.alloc (.cells #[.int .i64 c, .int .i64 n, .string (bs t)] 26)) (.cells #[.int .i64 c] 3)
  rw [show (w.alloc (.cells #[.int .i64 c, .int .i64 n, .string (bs t)] 26)).heap.size = w.heap.size + 1 by simp] at hq
  refine (find33 (h.next hb1) hlen c _ (cellB hq 0 _ rfl) (Array.getElem?_eq_some_iff.1 hq).1).mono ?_
  rintro e W' ⟨rfl, hb⟩
  have hB := hb1.trans (hb.mono hb1.size)
  exact ⟨rfl, hB, h.next hB, (hb.block _ (Array.getElem?_eq_some_iff.1 r0).1).trans r0⟩
set_option maxRecDepth 20000 in
set_option maxHeartbeats 4000000 in
theorem Add_old {base : Nat} {w : World} {B : Nat} {v : Value} {l : List Rq} {D : Nat → Int} (h : PoolAt base w B v l D) (hlen : l.length ≤ 1000) (c : Nat) (n : Int) (t : List UInt8) (hok : okB c n = true) (ht : t.length ≤ 4000) (hD : n ≤ D c) :
    Calls Tryd.prog 11 #[.pointer (some ⟨B, 0, none⟩), .agg #[.int .i64 c, .int .i64 n, .string (bs t)]] w fun e W' => e = .returned (.tuple #[.bool false, .int .i64 0]) ∧ Below w.heap.size w W' := by
  have hF := fault_ok hok
  obtain ⟨hc0, hc1, hn0, hn1⟩ := okB_t hok
  have hc : c < 64 := by omega
  have hI := add_find h hlen c n t
  have hsz : (bs t).size = t.length := bs_size t
  have ht2 : (t.length : Int) ≤ 4000 := by omega
  obtain ⟨I, hIe⟩ : ∃ I, idxI (ofP c) l = I := ⟨_, rfl⟩
  rw [hIe] at hI
  obtain ⟨d, hd⟩ : ∃ d, D c = d := ⟨_, rfl⟩
  rw [hd] at hD
  have HD : Hid (D c = d) := hd
  have hdd : decide (n ≤ d) = true := by simp [hD]
  clear h hok hIe hd
  go_enter Tryd.func11, Tryd.ntmps11
  go_upto_region 9 with (first
    | (go_at_call 20; refine (hF _).mono ?_; rintro e w1 ⟨rfl, h9⟩; subst h9)
    | (go_at_call 22; refine (of_any _ _).mono ?_; rintro e w1 ⟨rfl, rfl⟩)
    | (go_at_call 21; refine hI.mono ?_; rintro e w2 ⟨rfl, hb2, h2, r2⟩; have x0 := cellB r2 0 (.int .i64 c) rfl; have x1 := cellB r2 1 (.int .i64 n) rfl; have cd := (h2.cd hc).1; rw [Nat.add_comm, HD.out] at cd))
  go_quiet (fail)
  go_wp2
  exact bodyPost_ret (v := .tuple #[.bool false, .int .i64 0]) (by simp [results, Tryd.f11, go_sem]) rfl ⟨rfl, below_drewN hb2 _⟩
set_option maxRecDepth 20000 in
set_option maxHeartbeats 4000000 in
theorem Add_there {base : Nat} {w : World} {B : Nat} {v : Value} {l : List Rq} {D : Nat → Int} (h : PoolAt base w B v l D) (hlen : l.length ≤ 1000) (c : Nat) (n : Int) (t : List UInt8) (hok : okB c n = true) (ht : t.length ≤ 4000) (hD : D c < n) (i : Nat) (a : Rq) (hi : l.findIdx? (ofP c) = some i) (ha : l[i]? = some a) (hna : n ≤ a.2.1) :
    Calls Tryd.prog 11 #[.pointer (some ⟨B, 0, none⟩), .agg #[.int .i64 c, .int .i64 n, .string (bs t)]] w fun e W' => e = .returned (.tuple #[.bool false, .int .i64 0]) ∧ Below w.heap.size w W' := by
  have hF := fault_ok hok
  obtain ⟨hc0, hc1, hn0, hn1⟩ := okB_t hok
  have hc : c < 64 := by omega
  have hI := add_find h hlen c n t
  rw [show idxI (ofP c) l = i by rw [idxI, hi]] at hI
  have hsz : (bs t).size = t.length := bs_size t
  have ht2 : (t.length : Int) ≤ 4000 := by omega
  obtain ⟨d, hd⟩ : ∃ d, D c = d := ⟨_, rfl⟩
  rw [hd] at hD
  have HD : Hid (D c = d) := hd
  have hdd : decide (n ≤ d) = false := by simp; omega
  have hnd : decide (n ≤ a.2.1) = true := by simp [hna]
  have hil := idx_lt hi
  have i0 : (0 : Int) ≤ (i : Int) := by omega
  have i1 : (i : Int) < (l.length : Int) := by omega
  have HA : Hid (l[i]? = some a) := ha
  clear h hok hd hi ha
  go_enter Tryd.func11, Tryd.ntmps11
  go_upto_region 9 with (first
    | (go_at_call 20; refine (hF _).mono ?_; rintro e w1 ⟨rfl, h9⟩; subst h9)
    | (go_at_call 22; refine (of_any _ _).mono ?_; rintro e w1 ⟨rfl, rfl⟩)
    | (go_at_call 21; refine hI.mono ?_; rintro e w2 ⟨rfl, hb2, h2, r2⟩; have x0 := cellB r2 0 (.int .i64 c) rfl; have x1 := cellB r2 1 (.int .i64 n) rfl; have cd := (h2.cd hc).1; rw [Nat.add_comm, HD.out] at cd; obtain ⟨gb, cap, hv, hg1, hg2, y0, y1, y2⟩ := row_at h2.own HA.out; have c0 := h2.c0.1; rw [hv] at c0))
  go_quiet (fail)
  go_wp2
  exact bodyPost_ret (v := .tuple #[.bool false, .int .i64 0]) (by simp [results, Tryd.f11, go_sem]) rfl ⟨rfl, below_drewN hb2 _⟩
set_option maxRecDepth 20000 in
set_option maxHeartbeats 4000000 in
theorem Add_full {base : Nat} {w : World} {B : Nat} {v : Value} {l : List Rq} {D : Nat → Int} (h : PoolAt base w B v l D) (hlen : l.length ≤ 1000) (c : Nat) (n : Int) (t : List UInt8) (hok : okB c n = true) (ht : t.length ≤ 4000) (hD : D c < n) (hi : l.findIdx? (ofP c) = none) (hl : 24 ≤ l.length) :
    Calls Tryd.prog 11 #[.pointer (some ⟨B, 0, none⟩), .agg #[.int .i64 c, .int .i64 n, .string (bs t)]] w fun e W' => e = .returned (.tuple #[.bool false, .int .i64 5]) ∧ Below w.heap.size w W' := by
  have hF := fault_ok hok
  obtain ⟨hc0, hc1, hn0, hn1⟩ := okB_t hok
  have hc : c < 64 := by omega
  have hI := add_find h hlen c n t
  rw [show idxI (ofP c) l = -1 by rw [idxI, hi]] at hI
  have hsz : (bs t).size = t.length := bs_size t
  have ht2 : (t.length : Int) ≤ 4000 := by omega
  have hl2 : (24 : Int) ≤ (l.length : Int) := by omega
  obtain ⟨d, hd⟩ : ∃ d, D c = d := ⟨_, rfl⟩
  rw [hd] at hD
  have HD : Hid (D c = d) := hd
  have hdd : decide (n ≤ d) = false := by simp; omega
  obtain ⟨va, vc, rfl⟩ := h.slice
  clear h hok hd hi
  go_enter Tryd.func11, Tryd.ntmps11
  go_upto_region 9 with (first
    | (go_at_call 20; refine (hF _).mono ?_; rintro e w1 ⟨rfl, h9⟩; subst h9)
    | (go_at_call 22; refine (of_any _ _).mono ?_; rintro e w1 ⟨rfl, rfl⟩)
    | (go_at_call 21; refine hI.mono ?_; rintro e w2 ⟨rfl, hb2, h2, r2⟩; have x0 := cellB r2 0 (.int .i64 c) rfl; have x1 := cellB r2 1 (.int .i64 n) rfl; have cd := (h2.cd hc).1; rw [Nat.add_comm, HD.out] at cd; have c0 := h2.c0.1))
  go_quiet (fail)
  go_wp2
  exact bodyPost_ret (v := .tuple #[.bool false, .int .i64 5]) (by simp [results, Tryd.f11, go_sem]) rfl ⟨rfl, below_drewN hb2 _⟩
end Go.Proofs.YtngoodidajbhcaaDoor.Bat
