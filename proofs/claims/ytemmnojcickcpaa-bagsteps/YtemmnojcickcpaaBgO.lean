/- The document's bag, walked: See and Put; and an item's copy. -/
import Derived.Test.YtemmnojcickcpaaBgE
namespace Go.Proofs.Ytemmnojcickcpaa
open Go.RowKit
attribute [local go_sem ↓] Go.wp_at_zero Go.wp_at_succ

theorem Try.info38 : (Try.prog.info? 38).map (fun i => (i.zero, i.size, i.bytes)) = some (some (.agg #[.int .i64 0, .int .i64 0, .int .i64 0, .string ⟨#[]⟩]), 4, 40) := by kernel_rfl

set_option maxRecDepth 20000 in
set_option maxHeartbeats 2000000 in
theorem rSee_no {base : Nat} {w : World} {B : Nat} {v : Value} {l : List It} {d : Int} (h : BagAt 29 38 base w B v l d) (i : Int) (hi : i < 0 ∨ (l.length : Int) ≤ i) :
    Calls Try.prog 13 #[.pointer (some ⟨B, 0, none⟩), .int .i64 i] w fun e W' => e = .returned (.tuple #[.agg #[.int .i64 0, .int .i64 0, .int .i64 0, .string (bs [])], .int .i64 6]) ∧ Below w.heap.size w W' := by
  have hb0 : Below w.heap.size w (w.alloc (.cells #[.int .i64 0, .int .i64 0, .int .i64 0, .string ⟨#[]⟩] 38)) := (Below.refl _ w).alloc (Nat.le_refl _) _
  have h0 := h.next hb0
  obtain ⟨a, cap, rfl⟩ := h.slice
  have c0 := cellB h0.blk 0 (.slice a l.length cap) rfl
  by_cases h1 : i < 0
  · go_enter Try.func13, Try.ntmps13
    go_wp2
    exact bodyPost_ret (v := .tuple #[.agg #[.int .i64 0, .int .i64 0, .int .i64 0, .string (bs [])], .int .i64 6]) (by simp [results, Try.f13, go_sem, bs]) rfl ⟨rfl, (Below.refl _ w).alloc (Nat.le_refl _) _⟩
  · have h2 : 0 ≤ i := by omega
    have h3 : (l.length : Int) ≤ i := by omega
    go_enter Try.func13, Try.ntmps13
    go_wp2
    exact bodyPost_ret (v := .tuple #[.agg #[.int .i64 0, .int .i64 0, .int .i64 0, .string (bs [])], .int .i64 6]) (by simp [results, Try.f13, go_sem, bs]) rfl ⟨rfl, (Below.refl _ w).alloc (Nat.le_refl _) _⟩
set_option maxRecDepth 20000 in
set_option maxHeartbeats 2000000 in
theorem rSee_ok {base : Nat} {w : World} {B : Nat} {v : Value} {l : List It} {d : Int} (h : BagAt 29 38 base w B v l d) (k : Nat) (a0 a1 a2 : Int) (a3 : List UInt8) (hk : l[k]? = some (a0, a1, a2, a3)) :
    Calls Try.prog 13 #[.pointer (some ⟨B, 0, none⟩), .int .i64 k] w fun e W' => e = .returned (.tuple #[.agg #[.int .i64 a0, .int .i64 a1, .int .i64 a2, .string (bs a3)], .int .i64 0]) ∧ Below w.heap.size w W' := by
  have hkl : k < l.length := (List.getElem?_eq_some_iff.1 hk).1
  have hb0 : Below w.heap.size w (w.alloc (.cells #[.int .i64 0, .int .i64 0, .int .i64 0, .string ⟨#[]⟩] 38)) := (Below.refl _ w).alloc (Nat.le_refl _) _
  have h0 := h.next hb0
  obtain ⟨g, cap, rfl, hg1, hg2, hg3, hcap, hcs⟩ := h0.at (by omega)
  obtain ⟨x0, x1, x2, x3⟩ := hcs k _ hk
  have c0 := cellB h0.blk 0 _ rfl
  have k0 : (0 : Int) ≤ (k : Int) := by omega
  have k1 : (k : Int) < (l.length : Int) := by omega
  clear hcs hk h0
  go_enter Try.func13, Try.ntmps13
  go_wp2
  exact bodyPost_ret (v := .tuple #[.agg #[.int .i64 a0, .int .i64 a1, .int .i64 a2, .string (bs a3)], .int .i64 0]) (by simp [results, Try.f13, go_sem]) rfl ⟨rfl, (Below.refl _ w).alloc (Nat.le_refl _) _⟩
set_option maxRecDepth 20000 in
set_option maxHeartbeats 2000000 in
theorem ref_any (a0 a1 a2 : Int) (a3 : List UInt8) (w : World) : Calls Try.prog 15 #[.agg #[.int .i64 a0, .int .i64 a1, .int .i64 a2, .string (bs a3)]] w fun e W' => e = .returned (.agg #[.int .i64 a0, .int .i64 a1, .int .i64 a2, .string (bs a3)]) ∧ Below w.heap.size w W' := by
  go_enter Try.func15, Try.ntmps15
  go_wp2
  exact bodyPost_ret (v := .agg #[.int .i64 a0, .int .i64 a1, .int .i64 a2, .string (bs a3)]) (by simp [results, Try.f15, go_sem]) rfl ⟨rfl, ((Below.refl _ w).alloc (Nat.le_refl _) _).alloc (by simp) _⟩
theorem endB_true {n : Int} (h : endB n = true) : 0 ≤ n ∧ n ≤ 63 := by unfold endB at h; have := of_decide_eq_true h; omega
theorem endB_false {n : Int} (h : endB n = false) : n < 0 ∨ 0 ≤ n ∧ 63 < n := by unfold endB at h; have := of_decide_eq_false h; omega
set_option maxRecDepth 20000 in
set_option maxHeartbeats 4000000 in
theorem rPut_bad (w : World) (B : Nat) (l : List It) (a0 a1 a2 : Int) (a3 : List UInt8) (hl : l.length < 4096) (hE : putE (a0, a1, a2, a3) l.length ≠ 0) :
    Calls Try.prog 30 #[.pointer (some ⟨B, 0, none⟩), .agg #[.int .i64 a0, .int .i64 a1, .int .i64 a2, .string (bs a3)]] w fun e W' => e = .returned (.int .i64 (putE (a0, a1, a2, a3) l.length)) ∧ Below w.heap.size w W' := by
  have hsz : (bs a3).size = a3.length := bs_size a3
  have hC := putE_cases (a0, a1, a2, a3) l.length
  obtain ⟨E, hEq⟩ : ∃ E, putE (a0, a1, a2, a3) l.length = E := ⟨_, rfl⟩
  rw [hEq] at hC hE ⊢
  simp only at hC
  clear hEq
  rcases hC with ⟨rfl, hc⟩ | ⟨e0, e1, e2, ⟨rfl, e3⟩ | ⟨e3, ⟨rfl, e4⟩ | ⟨rfl, e4⟩⟩⟩
  · have hcc : a0 < 0 ∨ 0 ≤ a0 ∧ (63 < a0 ∨ a0 ≤ 63 ∧ (a1 < 0 ∨ 0 ≤ a1 ∧ (63 < a1 ∨ a1 ≤ 63 ∧ a2 < 0))) := by
      rcases hc with e0 | ⟨e0, e1 | ⟨e1, e2⟩⟩
      · have := endB_false e0; omega
      · have := endB_true e0; have := endB_false e1; omega
      · have := endB_true e0; have := endB_true e1; omega
    clear hc
    rcases hcc with c | ⟨c, d | ⟨d, e | ⟨e, f | ⟨f, g⟩⟩⟩⟩
    all_goals
      go_enter Try.func30, Try.ntmps30
      go_wp2
      go_ret
      exact ⟨rfl, (Below.refl _ w).alloc (Nat.le_refl _) _⟩
  · have := endB_true e0
    have := endB_true e1
    have e3' : (1048576 : Int) < a3.length := by omega
    go_enter Try.func30, Try.ntmps30
    go_wp2
    go_ret
    exact ⟨rfl, (Below.refl _ w).alloc (Nat.le_refl _) _⟩
  · omega
  · exact absurd rfl hE
end Go.Proofs.Ytemmnojcickcpaa
