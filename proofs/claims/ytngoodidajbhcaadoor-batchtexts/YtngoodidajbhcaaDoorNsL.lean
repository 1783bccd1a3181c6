import Derived.Test.YtngoodidajbhcaaDoorNsJ
namespace Go.Proofs.YtngoodidajbhcaaDoor
open Go.RowKit
attribute [local go_sem ↓] Go.wp_at_zero Go.wp_at_succ

theorem large_false {l : List (List UInt8)} (h : largeL l = false) : tot l ≤ 20000 ∧ l.length ≤ 2000 := by
  simp [largeL] at h
  omega
theorem mem_tot {l : List (List UInt8)} {t : List UInt8} (h : t ∈ l) : t.length ≤ tot l := by
  induction l with
  | nil => cases h
  | cons a l ih =>
    rw [tot_cons]
    rcases List.mem_cons.1 h with rfl | h
    · omega
    · have := ih h; omega
theorem texts_tot (s : List UInt8) : tot (texts s) ≤ s.length := by
  unfold texts
  split
  · by_cases h : s = []
    · subst h; rw [items_nil]; simp [tot]
    · exact Nat.le_of_lt (items_tot h)
  · simp [tot]
theorem texts_len (s : List UInt8) : (texts s).length ≤ s.length := by
  unfold texts
  split
  · rw [List.length_map]; exact items_count
  · simp

end Go.Proofs.YtngoodidajbhcaaDoor
