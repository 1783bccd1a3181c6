/- The bag's small methods, walked: New, Len, Dropped, isEnd, add. -/
import Derived.Test.YtemmnojcickcpaaBgA
namespace Go.Proofs.Ytemmnojcickcpaa
open Go.RowKit
attribute [local go_sem ↓] Go.wp_at_zero Go.wp_at_succ

theorem New_any (w : World) : Calls Try.prog 9 #[] w fun e W' => e = .returned (.pointer (some ⟨w.heap.size, 0, none⟩)) ∧ W' = w.alloc (.cells #[.slice none 0 0, .int .i64 0] 70) := by
  go_enter Try.func9, Try.ntmps9
  go_wp2
  go_ret
  exact ⟨rfl, rfl⟩
theorem BagAt.new (w : World) (base : Nat) (hb : base ≤ w.heap.size) : BagAt 70 31 base (w.alloc (.cells #[.slice none 0 0, .int .i64 0] 70)) w.heap.size (.slice none 0 0) [] 0 :=
  ⟨heap_alloc_new _ _, World.ownsRow_nil _ _ _ _, fun h => (by cases h), hb⟩
theorem Len_nil (w : World) : Calls Try.prog 16 #[.pointer none] w fun e W' => e = .returned (.int .i64 0) ∧ W' = w := by
  go_enter Try.func16, Try.ntmps16
  go_wp2
  go_ret
  exact ⟨rfl, rfl⟩
theorem Len_any {base : Nat} {w : World} {B : Nat} {v : Value} {l : List It} {d : Int} (h : BagAt 70 31 base w B v l d) : Calls Try.prog 16 #[.pointer (some ⟨B, 0, none⟩)] w fun e W' => e = .returned (.int .i64 l.length) ∧ W' = w := by
  obtain ⟨a, cap, rfl⟩ := h.slice
  have c0 := cellB h.blk 0 (.slice a l.length cap) rfl
  clear h
  go_enter Try.func16, Try.ntmps16
  go_wp2
  go_ret
  exact ⟨rfl, rfl⟩
theorem Dropped_nil (w : World) : Calls Try.prog 17 #[.pointer none] w fun e W' => e = .returned (.int .i64 0) ∧ W' = w := by
  go_enter Try.func17, Try.ntmps17
  go_wp2
  go_ret
  exact ⟨rfl, rfl⟩
theorem Dropped_any {base : Nat} {w : World} {B : Nat} {v : Value} {l : List It} {d : Int} (h : BagAt 70 31 base w B v l d) : Calls Try.prog 17 #[.pointer (some ⟨B, 0, none⟩)] w fun e W' => e = .returned (.int .i64 d) ∧ W' = w := by
  have c0 := cellB h.blk 1 (.int .i64 d) rfl
  clear h
  go_enter Try.func17, Try.ntmps17
  go_wp2
  go_ret
  exact ⟨rfl, rfl⟩
/-- Is it an end? -/
def endB (n : Int) : Bool := decide (0 ≤ n ∧ n < 64)
theorem isEnd_any (n : Int) (w : World) : Calls Try.prog 32 #[.int .i64 n] w fun e W' => e = .returned (.bool (endB n)) ∧ W' = w := by
  by_cases h1 : 0 ≤ n
  · by_cases h2 : n < 64
    · rw [show endB n = true by simp [endB, h1, h2]]
      go_enter Try.func32, Try.ntmps32
      go_wp2
      go_ret
      exact ⟨rfl, rfl⟩
    · rw [show endB n = false by simp [endB, h2]]
      go_enter Try.func32, Try.ntmps32
      go_wp2
      go_ret
      exact ⟨rfl, rfl⟩
  · rw [show endB n = false by simp [endB, h1]]
    go_enter Try.func32, Try.ntmps32
    go_wp2
    go_ret
    exact ⟨rfl, rfl⟩

theorem Try.info31 : (Try.prog.info? 31).map (fun i => (i.zero, i.size, i.bytes)) = some (some (.agg #[.int .i64 0, .int .i64 0, .int .i64 0, .string ⟨#[]⟩]), 4, 40) := by kernel_rfl

theorem add_nil (a : It) (w : World) : Calls Try.prog 33 #[.pointer none, itV a] w fun e W' => e = .returned (.int .i64 5) ∧ Below w.heap.size w W' := by
  unfold itV
  go_enter Try.func33, Try.ntmps33
  go_wp2
  go_ret
  exact ⟨rfl, (Below.refl _ w).alloc (Nat.le_refl _) _⟩
set_option maxHeartbeats 1000000 in
theorem add_full {base : Nat} {w : World} {B : Nat} {v : Value} {l : List It} {d : Int} (h : BagAt 70 31 base w B v l d) (a : It) (hl : 4096 ≤ l.length) (hd : 0 ≤ d ∧ d < 1099511627776) :
    Calls Try.prog 33 #[.pointer (some ⟨B, 0, none⟩), itV a] w fun e W' => e = .returned (.int .i64 5) ∧ BagAt 70 31 base W' B v l (d + 1) ∧ Moved B v v w W' := by
  obtain ⟨va, cap, rfl⟩ := h.slice
  unfold itV
  have hb0 : Below w.heap.size w (w.alloc (.cells #[.int .i64 a.1, .int .i64 a.2.1, .int .i64 a.2.2.1, .string (bs a.2.2.2)] 31)) := (Below.refl _ w).alloc (Nat.le_refl _) _
  have h0 := h.next hb0
  have c0 := cellB h0.blk 0 (.slice va l.length cap) rfl
  have c1 := cellB h0.blk 1 (.int .i64 d) rfl
  have f1 := frozenB h0.blk 1
  have hr := setB h0.blk 1 (.int .i64 (d + 1))
  have hne : ∀ k, (Value.slice va l.length cap).ownBlock = some k → k ≠ B := fun k hk e => h.ne (by rw [← e]; exact hk)
  have hl2 : (4096 : Int) ≤ l.length := by omega
  go_enter Try.func33, Try.ntmps33
  go_wp2
  go_ret
  refine ⟨rfl, ?_, ?_⟩
  · exact ⟨hr, owns_kept h0.own (fun k hk => set_far (hne k hk) _ _), h.ne, h.base⟩
  · have hm := Moved.of_below hb0 B (.slice va l.length cap)
    exact ⟨hm.os, hm.tape, hm.output, by simp [World.setCell], fun k hk h1 h2 => (set_far h1 _ _).trans (hm.block k hk h1 h2), hm.own⟩
end Go.Proofs.Ytemmnojcickcpaa
