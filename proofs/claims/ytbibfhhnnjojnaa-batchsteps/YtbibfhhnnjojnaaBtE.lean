/- The pool's Len, Last, Has, Forget, Done, walked. -/
import Derived.Test.YtbibfhhnnjojnaaBtD
namespace Go.Proofs.Ytbibfhhnnjojnaa
open Go.RowKit
attribute [local go_sem ↓] Go.wp_at_zero Go.wp_at_succ

/-- Without the first of those. -/
def rmL (p : Rq → Bool) (l : List Rq) : List Rq := match l.findIdx? p with | some i => l.eraseIdx i | none => l
def hitB (p : Rq → Bool) (l : List Rq) : Bool := (l.findIdx? p).isSome
theorem idx_lt {p : Rq → Bool} {l : List Rq} {i : Nat} (h : l.findIdx? p = some i) : i < l.length := by
  rw [List.findIdx?_eq_some_iff_getElem] at h
  exact h.1
theorem rmL_len (p : Rq → Bool) (l : List Rq) : (rmL p l).length ≤ l.length := by
  unfold rmL
  cases l.findIdx? p with
  | none => exact Nat.le_refl _
  | some i => exact List.length_eraseIdx_le l i
theorem remove_idx {base : Nat} {w : World} {B : Nat} {v : Value} {l : List Rq} {D : Nat → Int} (h : PoolAt base w B v l D) (hlen : l.length ≤ 1000) (p : Rq → Bool) :
    Calls Try.prog 26 #[.pointer (some ⟨B, 0, none⟩), .int .i64 (idxI p l)] w fun e W' => e = .returned (.bool (hitB p l)) ∧ ∃ v', PoolAt base W' B v' (rmL p l) D ∧ Moved B v v' w W' := by
  unfold idxI hitB rmL
  cases hi : l.findIdx? p with
  | none =>
    refine (remove_neg (some ⟨B, 0, none⟩) w).mono ?_
    rintro e W' ⟨rfl, rfl⟩
    exact ⟨rfl, v, h, Moved.refl _ _ _⟩
  | some i => exact remove_any h hlen (idx_lt hi)
theorem Len_nil (w : World) : Calls Try.prog 16 #[.pointer none] w fun e W' => e = .returned (.int .i64 0) ∧ W' = w := by
  go_enter Try.func16, Try.ntmps16
  go_wp2
  go_ret
  exact ⟨rfl, rfl⟩
theorem Len_any {base : Nat} {w : World} {B : Nat} {v : Value} {l : List Rq} {D : Nat → Int} (h : PoolAt base w B v l D) : Calls Try.prog 16 #[.pointer (some ⟨B, 0, none⟩)] w fun e W' => e = .returned (.int .i64 l.length) ∧ W' = w := by
  obtain ⟨a, cap, rfl⟩ := h.slice
  have c0 := h.c0.1
  clear h
  go_enter Try.func16, Try.ntmps16
  go_wp2
  go_ret
  exact ⟨rfl, rfl⟩
theorem Last_nil (c : Int) (w : World) : Calls Try.prog 21 #[.pointer none, .int .i64 c] w fun e W' => e = .returned (.int .i64 0) ∧ W' = w := by
  go_enter Try.func21, Try.ntmps21
  go_wp2
  go_ret
  exact ⟨rfl, rfl⟩
def lastV (D : Nat → Int) (c : Int) : Int := if callB c = true then D c.toNat else 0
theorem Last_any {base : Nat} {w : World} {B : Nat} {v : Value} {l : List Rq} {D : Nat → Int} (h : PoolAt base w B v l D) (c : Int) : Calls Try.prog 21 #[.pointer (some ⟨B, 0, none⟩), .int .i64 c] w fun e W' => e = .returned (.int .i64 (lastV D c)) ∧ W' = w := by
  have hI := isCaller_any c
  unfold lastV
  cases hc : callB c
  · rw [hc] at hI
    rw [if_neg (by decide)]
    clear h hc
    go_enter Try.func21, Try.ntmps21
    go_wp2_with (first | (go_at_call 31; refine (hI _).mono ?_; rintro e w1 ⟨rfl, rfl⟩))
    go_ret
    exact ⟨rfl, rfl⟩
  · rw [hc] at hI
    rw [if_pos rfl]
    obtain ⟨h0, h1⟩ := callB_t hc
    obtain ⟨k, rfl⟩ : ∃ k : Nat, (k : Int) = c := ⟨c.toNat, by omega⟩
    have hk : k < 64 := by omega
    have cd := (h.cd hk).1
    rw [Int.toNat_natCast]
    have cd2 : w.cell? ⟨B, 1 + k, none⟩ = some (.int .i64 (D k)) := by rw [Nat.add_comm]; exact cd
    clear h hc
    go_enter Try.func21, Try.ntmps21
    go_wp2_with (first | (go_at_call 31; refine (hI _).mono ?_; rintro e w1 ⟨rfl, rfl⟩))
    go_ret
    exact ⟨rfl, rfl⟩
theorem two_boxes (w : World) (c n : Int) : ((w.alloc (.cells #[.int .i64 c] 3)).alloc (.cells #[.int .i64 n] 3)).cell? ⟨w.heap.size, 0, none⟩ = some (.int .i64 c) ∧ ((w.alloc (.cells #[.int .i64 c] 3)).alloc (.cells #[.int .i64 n] 3)).cell? ⟨w.heap.size + 1, 0, none⟩ = some (.int .i64 n) ∧
    w.heap.size + 1 < ((w.alloc (.cells #[.int .i64 c] 3)).alloc (.cells #[.int .i64 n] 3)).heap.size ∧ Below w.heap.size w ((w.alloc (.cells #[.int .i64 c] 3)).alloc (.cells #[.int .i64 n] 3)) := by
  have h1 := heap_alloc_new w (.cells #[.int .i64 c] 3)
  have h2 := heap_alloc_new (w.alloc (.cells #[.int .i64 c] 3)) (.cells #[.int .i64 n] 3)
  have e : (w.alloc (.cells #[.int .i64 c] 3)).heap.size = w.heap.size + 1 := by simp
  rw [e] at h2
  exact ⟨cell_alloc _ (cellB h1 0 _ rfl), cellB h2 0 _ rfl, (Array.getElem?_eq_some_iff.1 h2).1, ((Below.refl _ w).alloc (Nat.le_refl _) _).alloc (by omega) _⟩
theorem Has_nil (c n : Int) (w : World) : Calls Try.prog 20 #[.pointer none, .int .i64 c, .int .i64 n] w fun e W' => e = .returned (.bool false) ∧ Below w.heap.size w W' := by
  have hb := (two_boxes w c n).2.2.2
  go_enter Try.func20, Try.ntmps20
  go_wp2_with (first
    | (go_at_call 30; refine (exactly_any c n _).mono ?_; rintro e w1 ⟨rfl, rfl⟩)
    | (go_at_call 24; refine (find_nil _ _).mono ?_; rintro e w2 ⟨rfl, rfl⟩))
  go_ret
  exact ⟨rfl, hb⟩
set_option maxHeartbeats 1000000 in
theorem Has_any {base : Nat} {w : World} {B : Nat} {v : Value} {l : List Rq} {D : Nat → Int} (h : PoolAt base w B v l D) (hlen : l.length ≤ 1000) (c n : Int) : Calls Try.prog 20 #[.pointer (some ⟨B, 0, none⟩), .int .i64 c, .int .i64 n] w fun e W' => e = .returned (.bool (hitB (exP c n) l)) ∧ Below w.heap.size w W' := by
  obtain ⟨b1, b2, b3, hb⟩ := two_boxes w c n
  have hF := find36 (h.next hb) hlen c n w.heap.size (w.heap.size + 1) b1 (by omega) b2 b3
  have hX : (hitB (exP c n) l = true ∧ 0 ≤ idxI (exP c n) l) ∨ (hitB (exP c n) l = false ∧ idxI (exP c n) l < 0) := by
    unfold hitB idxI
    cases l.findIdx? (exP c n) with
    | none => right; exact ⟨rfl, by decide⟩
    | some i => left; exact ⟨rfl, by simp⟩
  obtain ⟨I, hI⟩ : ∃ I, idxI (exP c n) l = I := ⟨_, rfl⟩
  rw [hI] at hF hX
  clear b1 b2 b3 h hI
  rcases hX with ⟨hh, hx⟩ | ⟨hh, hx⟩
  all_goals
    rw [hh]
    clear hh
    go_enter Try.func20, Try.ntmps20
    go_wp2_with (first
      | (go_at_call 30; refine (exactly_any c n _).mono ?_; rintro e w1 ⟨rfl, rfl⟩)
      | (go_at_call 24; refine hF.mono ?_; rintro e w2 ⟨rfl, hb2⟩))
    go_ret
    exact ⟨by first | rfl | (simp; omega), hb.trans (hb2.mono hb.size)⟩
theorem Forget_no (p : Option Addr) {c n : Int} (h : okB c n = false) (w : World) : Calls Try.prog 14 #[.pointer p, .int .i64 c, .int .i64 n] w fun e W' => e = .returned (.tuple #[.bool false, .int .i64 1]) ∧ W' = w := by
  have hF := fault_no h w
  clear h
  go_enter Try.func14, Try.ntmps14
  go_wp2_with (first | (go_at_call 23; refine hF.mono ?_; rintro e w1 ⟨rfl, rfl⟩))
  exact bodyPost_ret (v := .tuple #[.bool false, .int .i64 1]) (by simp [results, Try.f14, go_sem]) rfl ⟨rfl, rfl⟩
theorem Forget_nil {c n : Int} (h : okB c n = true) (w : World) : Calls Try.prog 14 #[.pointer none, .int .i64 c, .int .i64 n] w fun e W' => e = .returned (.tuple #[.bool false, .int .i64 0]) ∧ Below w.heap.size w W' := by
  have hF := fault_ok h w
  have hb := (two_boxes w c n).2.2.2
  clear h
  go_enter Try.func14, Try.ntmps14
  go_wp2_with (first
    | (go_at_call 23; refine hF.mono ?_; rintro e w1 ⟨rfl, h9⟩; subst h9)
    | (go_at_call 30; refine (exactly_any c n _).mono ?_; rintro e w1 ⟨rfl, rfl⟩)
    | (go_at_call 24; refine (find_nil _ _).mono ?_; rintro e w2 ⟨rfl, h9⟩; subst h9)
    | (go_at_call 26; refine (remove_neg _ _).mono ?_; rintro e w3 ⟨rfl, h9⟩; subst h9))
  exact bodyPost_ret (v := .tuple #[.bool false, .int .i64 0]) (by simp [results, Try.f14, go_sem]) rfl ⟨rfl, hb⟩
set_option maxHeartbeats 1000000 in
theorem Forget_any {base : Nat} {w : World} {B : Nat} {v : Value} {l : List Rq} {D : Nat → Int} (h : PoolAt base w B v l D) (hlen : l.length ≤ 1000) {c n : Int} (hok : okB c n = true) :
    Calls Try.prog 14 #[.pointer (some ⟨B, 0, none⟩), .int .i64 c, .int .i64 n] w fun e W' => e = .returned (.tuple #[.bool (hitB (exP c n) l), .int .i64 0]) ∧ ∃ v', PoolAt base W' B v' (rmL (exP c n) l) D ∧ Moved B v v' w W' := by
  have hQ := fault_ok hok w
  obtain ⟨b1, b2, b3, hb⟩ := two_boxes w c n
  have h1 := h.next hb
  have hF := find36 h1 hlen c n w.heap.size (w.heap.size + 1) b1 (by omega) b2 b3
  have HR : Hid (∀ W, Below w.heap.size w W → Calls Try.prog 26 #[.pointer (some ⟨B, 0, none⟩), .int .i64 (idxI (exP c n) l)] W fun e W' => e = .returned (.bool (hitB (exP c n) l)) ∧ ∃ v', PoolAt base W' B v' (rmL (exP c n) l) D ∧ Moved B v v' W W') := fun W hW => remove_idx (h.next hW) hlen (exP c n)
  obtain ⟨I, hI⟩ : ∃ I, idxI (exP c n) l = I := ⟨_, rfl⟩
  obtain ⟨H, hH⟩ : ∃ I, hitB (exP c n) l = I := ⟨_, rfl⟩
  rw [hI] at hF HR
  rw [hH] at HR ⊢
  clear b1 b2 b3 h h1 hI hok hH
  go_enter Try.func14, Try.ntmps14
  go_wp2_with (first
    | (go_at_call 23; refine hQ.mono ?_; rintro e w1 ⟨rfl, h9⟩; subst h9)
    | (go_at_call 30; refine (exactly_any c n _).mono ?_; rintro e w1 ⟨rfl, rfl⟩)
    | (go_at_call 24; refine hF.mono ?_; rintro e w2 ⟨rfl, hb2⟩; have hB2 := hb.trans (hb2.mono hb.size))
    | (go_at_call 26; refine (HR.out _ hB2).mono ?_; rintro e w3 ⟨rfl, v', h3, hm3⟩))
  exact bodyPost_ret (v := .tuple #[.bool H, .int .i64 0]) (by simp [results, Try.f14, go_sem]) rfl ⟨rfl, v', h3, (Moved.of_below hB2 B v).trans hm3⟩
theorem Done_no (p : Option Addr) {c n : Int} (h : okB c n = false) (w : World) : Calls Try.prog 12 #[.pointer p, .int .i64 c, .int .i64 n] w fun e W' => e = .returned (.tuple #[.bool false, .int .i64 1]) ∧ W' = w := by
  have hF := fault_no h w
  clear h
  go_enter Try.func12, Try.ntmps12
  go_wp2_with (first | (go_at_call 23; refine hF.mono ?_; rintro e w1 ⟨rfl, rfl⟩))
  exact bodyPost_ret (v := .tuple #[.bool false, .int .i64 1]) (by simp [results, Try.f12, go_sem]) rfl ⟨rfl, rfl⟩
theorem Done_nil {c n : Int} (h : okB c n = true) (w : World) : Calls Try.prog 12 #[.pointer none, .int .i64 c, .int .i64 n] w fun e W' => e = .returned (.tuple #[.bool false, .int .i64 0]) ∧ W' = w := by
  have hF := fault_ok h w
  clear h
  go_enter Try.func12, Try.ntmps12
  go_wp2_with (first | (go_at_call 23; refine hF.mono ?_; rintro e w1 ⟨rfl, h9⟩; subst h9))
  exact bodyPost_ret (v := .tuple #[.bool false, .int .i64 0]) (by simp [results, Try.f12, go_sem]) rfl ⟨rfl, rfl⟩
/-- What is done, once more is. -/
def updM (D : Nat → Int) (c : Nat) (n : Int) : Nat → Int := upd D c (max (D c) n)
end Go.Proofs.Ytbibfhhnnjojnaa
