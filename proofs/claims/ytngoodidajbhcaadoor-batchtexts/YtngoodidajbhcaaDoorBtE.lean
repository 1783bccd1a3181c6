/- The pool's Len, Last, Has, Forget, Done, walked. -/
import Derived.Test.YtngoodidajbhcaaDoorBtD
namespace Go.Proofs.YtngoodidajbhcaaDoor.Bat
open Go.RowKit
attribute [local go_sem ↓] Go.wp_at_zero Go.wp_at_succ

/-- Without the first of those. -/
def rmL (p : Rq → Bool) (l : List Rq) : List Rq := match l.findIdx? p with | some i => l.eraseIdx i | none => l
def hitB (p : Rq → Bool) (l : List Rq) : Bool := (l.findIdx? p).isSome
theorem idx_lt {p : Rq → Bool} {l : List Rq} {i : Nat} (h : l.findIdx? p = some i) : i < l.length := by
  rw [List.findIdx?_eq_some_iff_getElem] at h
  exact h.1
theorem rmL_len (p : Rq → Bool) (l : List Rq) : (rmL p l).length ≤ l.length := by
  unfold rmL
  cases l.findIdx? p with
  | none => exact Nat.le_refl _
  | some i => exact List.length_eraseIdx_le l i
theorem remove_idx {base : Nat} {w : World} {B : Nat} {v : Value} {l : List Rq} {D : Nat → Int} (h : PoolAt base w B v l D) (hlen : l.length ≤ 1000) (p : Rq → Bool) :
    Calls Tryd.prog 23 #[.pointer (some ⟨B, 0, none⟩), .int .i64 (idxI p l)] w fun e W' => e = .returned (.bool (hitB p l)) ∧ ∃ v', PoolAt base W' B v' (rmL p l) D ∧ Moved B v v' w W' := by
  unfold idxI hitB rmL
  cases hi : l.findIdx? p with
  | none =>
    refine (remove_neg (some ⟨B, 0, none⟩) w).mono ?_
    rintro e W' ⟨rfl, rfl⟩
    exact ⟨rfl, v, h, Moved.refl _ _ _⟩
  | some i => exact remove_any h hlen (idx_lt hi)
theorem Last_nil (c : Int) (w : World) : Calls Tryd.prog 13 #[.pointer none, .int .i64 c] w fun e W' => e = .returned (.int .i64 0) ∧ W' = w := by
  go_enter Tryd.func13, Tryd.ntmps13
  go_wp2
  go_ret
  exact ⟨rfl, rfl⟩
def lastV (D : Nat → Int) (c : Int) : Int := if callB c = true then D c.toNat else 0
theorem Last_any {base : Nat} {w : World} {B : Nat} {v : Value} {l : List Rq} {D : Nat → Int} (h : PoolAt base w B v l D) (c : Int) : Calls Tryd.prog 13 #[.pointer (some ⟨B, 0, none⟩), .int .i64 c] w fun e W' => e = .returned (.int .i64 (lastV D c)) ∧ W' = w := by
  have hI := isCaller_any c
  unfold lastV
  cases hc : callB c
  · rw [hc] at hI
    rw [if_neg (by decide)]
    clear h hc
    go_enter Tryd.func13, Tryd.ntmps13
    go_wp2_with (first | (go_at_call 25; refine (hI _).mono ?_; rintro e w1 ⟨rfl, rfl⟩))
    go_ret
    exact ⟨rfl, rfl⟩
  · rw [hc] at hI
    rw [if_pos rfl]
    obtain ⟨h0, h1⟩ := callB_t hc
    obtain ⟨k, rfl⟩ : ∃ k : Nat, (k : Int) = c := ⟨c.toNat, by omega⟩
    have hk : k < 64 := by omega
    have cd := (h.cd hk).1
    rw [Int.toNat_natCast]
    have cd2 : w.cell? ⟨B, 1 + k, none⟩ = some (.int .i64 (D k)) := by rw [Nat.add_comm]; exact cd
    clear h hc
    go_enter Tryd.func13, Tryd.ntmps13
    go_wp2_with (first | (go_at_call 25; refine (hI _).mono ?_; rintro e w1 ⟨rfl, rfl⟩))
    go_ret
    exact ⟨rfl, rfl⟩
theorem two_boxes (w : World) (c n : Int) : ((w.alloc (.cells #[.int .i64 c] 3)).alloc (.cells #[.int .i64 n] 3)).cell? ⟨w.heap.size, 0, none⟩ = some (.int .i64 c) ∧ ((w.alloc (.cells #[.int .i64 c] 3)).alloc (.cells #[.int .i64 n] 3)).cell? ⟨w.heap.size + 1, 0, none⟩ = some (.int .i64 n) ∧
    w.heap.size + 1 < ((w.alloc (.cells #[.int .i64 c] 3)).alloc (.cells #[.int .i64 n] 3)).heap.size ∧ Below w.heap.size w ((w.alloc (.cells #[.int .i64 c] 3)).alloc (.cells #[.int .i64 n] 3)) := by
  have h1 := heap_alloc_new w (.cells #[.int .i64 c] 3)
  have h2 := heap_alloc_new (w.alloc (.cells #[.int .i64 c] 3)) (.cells #[.int .i64 n] 3)
  have e : (w.alloc (.cells #[.int .i64 c] 3)).heap.size = w.heap.size + 1 := by simp
  rw [e] at h2
  exact ⟨cell_alloc _ (cellB h1 0 _ rfl), cellB h2 0 _ rfl, (Array.getElem?_eq_some_iff.1 h2).1, ((Below.refl _ w).alloc (Nat.le_refl _) _).alloc (by omega) _⟩
theorem Done_no (p : Option Addr) {c n : Int} (h : okB c n = false) (w : World) : Calls Tryd.prog 12 #[.pointer p, .int .i64 c, .int .i64 n] w fun e W' => e = .returned (.tuple #[.bool false, .int .i64 1]) ∧ W' = w := by
  have hF := fault_no h w
  clear h
  go_enter Tryd.func12, Tryd.ntmps12
  go_wp2_with (first | (go_at_call 20; refine hF.mono ?_; rintro e w1 ⟨rfl, rfl⟩))
  exact bodyPost_ret (v := .tuple #[.bool false, .int .i64 1]) (by simp [results, Tryd.f12, go_sem]) rfl ⟨rfl, rfl⟩
theorem Done_nil {c n : Int} (h : okB c n = true) (w : World) : Calls Tryd.prog 12 #[.pointer none, .int .i64 c, .int .i64 n] w fun e W' => e = .returned (.tuple #[.bool false, .int .i64 0]) ∧ W' = w := by
  have hF := fault_ok h w
  clear h
  go_enter Tryd.func12, Tryd.ntmps12
  go_wp2_with (first | (go_at_call 20; refine hF.mono ?_; rintro e w1 ⟨rfl, h9⟩; subst h9))
  exact bodyPost_ret (v := .tuple #[.bool false, .int .i64 0]) (by simp [results, Tryd.f12, go_sem]) rfl ⟨rfl, rfl⟩
/-- What is done, once more is. -/
def updM (D : Nat → Int) (c : Nat) (n : Int) : Nat → Int := upd D c (max (D c) n)
end Go.Proofs.YtngoodidajbhcaaDoor.Bat
