/- The bag's See and Copy, walked. -/
import Derived.Test.YtemmnojcickcpaaBgD
namespace Go.Proofs.Ytemmnojcickcpaa
open Go.RowKit
attribute [local go_sem ↓] Go.wp_at_zero Go.wp_at_succ

theorem set4 {w : World} {B : Nat} {p q r s : Value} {t : TypeId} (h : w.heap[B]? = some (.cells #[p, q, r, s] t)) (a b c d : Value) :
    ((((w.setCell ⟨B, 0, none⟩ a).setCell ⟨B, 1, none⟩ b).setCell ⟨B, 2, none⟩ c).setCell ⟨B, 3, none⟩ d).heap[B]? = some (.cells #[a, b, c, d] t) :=
  setB (setB (setB (setB h 0 a) 1 b) 2 c) 3 d
theorem below_set4 {w W : World} {b B : Nat} (h : Below b w W) (hB : b ≤ B) (a1 a2 a3 a4 : Value) : Below b w ((((W.setCell ⟨B, 0, none⟩ a1).setCell ⟨B, 1, none⟩ a2).setCell ⟨B, 2, none⟩ a3).setCell ⟨B, 3, none⟩ a4) :=
  (((h.setCell (p := ⟨B, 0, none⟩) hB _).setCell (p := ⟨B, 1, none⟩) hB _).setCell (p := ⟨B, 2, none⟩) hB _).setCell (p := ⟨B, 3, none⟩) hB _

set_option maxRecDepth 20000 in
set_option maxHeartbeats 2000000 in
theorem See_nil (i : Int) (w : World) : Calls Try.prog 12 #[.pointer none, .int .i64 i] w fun e W' => e = .returned (.tuple #[.agg #[.int .i64 0, .int .i64 0, .int .i64 0, .string (bs [])], .int .i64 6]) ∧ Below w.heap.size w W' := by
  have hb0 : Below w.heap.size w (w.alloc (.cells #[.int .i64 0, .int .i64 0, .int .i64 0, .string ⟨#[]⟩] 31)) := (Below.refl _ w).alloc (Nat.le_refl _) _
  by_cases h1 : i < 0
  · go_enter Try.func12, Try.ntmps12
    go_wp2
    exact bodyPost_ret (v := .tuple #[.agg #[.int .i64 0, .int .i64 0, .int .i64 0, .string (bs [])], .int .i64 6]) (by simp [results, Try.f12, go_sem, bs]) rfl ⟨rfl, (Below.refl _ w).alloc (Nat.le_refl _) _⟩
  · have h2 : 0 ≤ i := by omega
    go_enter Try.func12, Try.ntmps12
    go_wp2_with (go_at_call 16; refine (Len_nil _).mono ?_; rintro e w1 ⟨rfl, rfl⟩)
    exact bodyPost_ret (v := .tuple #[.agg #[.int .i64 0, .int .i64 0, .int .i64 0, .string (bs [])], .int .i64 6]) (by simp [results, Try.f12, go_sem, bs]) rfl ⟨rfl, (Below.refl _ w).alloc (Nat.le_refl _) _⟩
set_option maxRecDepth 20000 in
set_option maxHeartbeats 2000000 in
theorem See_no {base : Nat} {w : World} {B : Nat} {v : Value} {l : List It} {d : Int} (h : BagAt 70 31 base w B v l d) (i : Int) (hi : i < 0 ∨ (l.length : Int) ≤ i) :
    Calls Try.prog 12 #[.pointer (some ⟨B, 0, none⟩), .int .i64 i] w fun e W' => e = .returned (.tuple #[.agg #[.int .i64 0, .int .i64 0, .int .i64 0, .string (bs [])], .int .i64 6]) ∧ Below w.heap.size w W' := by
  have hb0 : Below w.heap.size w (w.alloc (.cells #[.int .i64 0, .int .i64 0, .int .i64 0, .string ⟨#[]⟩] 31)) := (Below.refl _ w).alloc (Nat.le_refl _) _
  have hLen := Len_any (h.next hb0)
  by_cases h1 : i < 0
  · go_enter Try.func12, Try.ntmps12
    go_wp2
    exact bodyPost_ret (v := .tuple #[.agg #[.int .i64 0, .int .i64 0, .int .i64 0, .string (bs [])], .int .i64 6]) (by simp [results, Try.f12, go_sem, bs]) rfl ⟨rfl, (Below.refl _ w).alloc (Nat.le_refl _) _⟩
  · have h2 : 0 ≤ i := by omega
    have h3 : (l.length : Int) ≤ i := by omega
    go_enter Try.func12, Try.ntmps12
    go_wp2_with (go_at_call 16; refine hLen.mono ?_; rintro e w1 ⟨rfl, rfl⟩)
    exact bodyPost_ret (v := .tuple #[.agg #[.int .i64 0, .int .i64 0, .int .i64 0, .string (bs [])], .int .i64 6]) (by simp [results, Try.f12, go_sem, bs]) rfl ⟨rfl, (Below.refl _ w).alloc (Nat.le_refl _) _⟩
set_option maxRecDepth 20000 in
set_option maxHeartbeats 2000000 in
theorem See_ok {base : Nat} {w : World} {B : Nat} {v : Value} {l : List It} {d : Int} (h : BagAt 70 31 base w B v l d) (k : Nat) (a0 a1 a2 : Int) (a3 : List UInt8) (hk : l[k]? = some (a0, a1, a2, a3)) :
    Calls Try.prog 12 #[.pointer (some ⟨B, 0, none⟩), .int .i64 k] w fun e W' => e = .returned (.tuple #[.agg #[.int .i64 a0, .int .i64 a1, .int .i64 a2, .string (bs a3)], .int .i64 0]) ∧ Below w.heap.size w W' := by
  have hkl : k < l.length := (List.getElem?_eq_some_iff.1 hk).1
  have hb0 : Below w.heap.size w (w.alloc (.cells #[.int .i64 0, .int .i64 0, .int .i64 0, .string ⟨#[]⟩] 31)) := (Below.refl _ w).alloc (Nat.le_refl _) _
  have h0 := h.next hb0
  have hLen := Len_any h0
  obtain ⟨g, cap, rfl, hg1, hg2, hg3, hcap, hcs⟩ := h0.at (by omega)
  obtain ⟨x0, x1, x2, x3⟩ := hcs k _ hk
  have c0 := cellB h0.blk 0 _ rfl
  have k0 : (0 : Int) ≤ (k : Int) := by omega
  have k1 : (k : Int) < (l.length : Int) := by omega
  clear hcs hk h0
  go_enter Try.func12, Try.ntmps12
  go_wp2_with (go_at_call 16; refine hLen.mono ?_; rintro e w1 ⟨rfl, rfl⟩)
  exact bodyPost_ret (v := .tuple #[.agg #[.int .i64 a0, .int .i64 a1, .int .i64 a2, .string (bs a3)], .int .i64 0]) (by simp [results, Try.f12, go_sem]) rfl ⟨rfl, (Below.refl _ w).alloc (Nat.le_refl _) _⟩
end Go.Proofs.Ytemmnojcickcpaa
