/- The bag's Copy, Older and Between, walked. -/
import Derived.Test.YtemmnojcickcpaaBgE
namespace Go.Proofs.Ytemmnojcickcpaa
open Go.RowKit
attribute [local go_sem ↓] Go.wp_at_zero Go.wp_at_succ

set_option maxRecDepth 20000 in
set_option maxHeartbeats 2000000 in
theorem Copy_nil (i : Int) (w : World) : Calls Try.prog 21 #[.pointer none, .int .i64 i] w fun e W' => e = .returned (.int .i64 6) ∧ Below w.heap.size w W' := by
  go_enter Try.func21, Try.ntmps21
  go_wp2_with (go_at_call 12; refine (See_nil _ _).mono ?_; rintro e w1 ⟨rfl, hb1⟩)
  go_ret
  exact ⟨rfl, hb1.alloc hb1.size _⟩
set_option maxRecDepth 20000 in
set_option maxHeartbeats 2000000 in
theorem Copy_no {base : Nat} {w : World} {B : Nat} {v : Value} {l : List It} {d : Int} (h : BagAt 70 31 base w B v l d) (i : Int) (hi : i < 0 ∨ (l.length : Int) ≤ i) :
    Calls Try.prog 21 #[.pointer (some ⟨B, 0, none⟩), .int .i64 i] w fun e W' => e = .returned (.int .i64 6) ∧ Below w.heap.size w W' := by
  have hS := See_no h i hi
  clear hi
  go_enter Try.func21, Try.ntmps21
  go_wp2_with (go_at_call 12; refine hS.mono ?_; rintro e w1 ⟨rfl, hb1⟩)
  go_ret
  exact ⟨rfl, hb1.alloc hb1.size _⟩
set_option maxRecDepth 20000 in
set_option maxHeartbeats 2000000 in
theorem Copy_ok {base : Nat} {w : World} {B : Nat} {v : Value} {l : List It} {d : Int} (h : BagAt 70 31 base w B v l d) (k : Nat) (a0 a1 a2 : Int) (a3 : List UInt8) (hk : l[k]? = some (a0, a1, a2, a3)) (hl : l.length < 4096) :
    Calls Try.prog 21 #[.pointer (some ⟨B, 0, none⟩), .int .i64 k] w fun e W' => e = .returned (.int .i64 0) ∧ ∃ v', BagAt 70 31 base W' B v' (l ++ [(a0, a1, a2, a3)]) d ∧ Moved B v v' w W' := by
  have hS := See_ok h k a0 a1 a2 a3 hk
  have hA : ∀ W, Below w.heap.size w W → Calls Try.prog 33 #[.pointer (some ⟨B, 0, none⟩), .agg #[.int .i64 a0, .int .i64 a1, .int .i64 a2, .string (bs a3)]] W fun e W' => e = .returned (.int .i64 0) ∧ ∃ v', BagAt 70 31 base W' B v' (l ++ [(a0, a1, a2, a3)]) d ∧ Moved B v v' W W' := fun W hW => add_ok (h.next hW) (a0, a1, a2, a3) hl
  clear hk h
  go_enter Try.func21, Try.ntmps21
  go_wp2_with (first
    | (go_at_call 12; refine hS.mono ?_; rintro e w1 ⟨rfl, hb1⟩; have hb2 := hb1.alloc hb1.size (.cells #[.int .i64 a0, .int .i64 a1, .int .i64 a2, .string (bs a3)] 31))
    | (go_at_call 33; refine (hA _ hb2).mono ?_; rintro e w2 ⟨rfl, v', h2, hm⟩))
  go_ret
  exact ⟨rfl, v', h2, (Moved.of_below hb2 B v).trans hm⟩
set_option maxRecDepth 20000 in
set_option maxHeartbeats 2000000 in
theorem Copy_full {base : Nat} {w : World} {B : Nat} {v : Value} {l : List It} {d : Int} (h : BagAt 70 31 base w B v l d) (k : Nat) (a0 a1 a2 : Int) (a3 : List UInt8) (hk : l[k]? = some (a0, a1, a2, a3)) (hl : 4096 ≤ l.length) (hd : 0 ≤ d ∧ d < 1099511627776) :
    Calls Try.prog 21 #[.pointer (some ⟨B, 0, none⟩), .int .i64 k] w fun e W' => e = .returned (.int .i64 5) ∧ BagAt 70 31 base W' B v l (d + 1) ∧ Moved B v v w W' := by
  have hS := See_ok h k a0 a1 a2 a3 hk
  have hA : ∀ W, Below w.heap.size w W → Calls Try.prog 33 #[.pointer (some ⟨B, 0, none⟩), .agg #[.int .i64 a0, .int .i64 a1, .int .i64 a2, .string (bs a3)]] W fun e W' => e = .returned (.int .i64 5) ∧ BagAt 70 31 base W' B v l (d + 1) ∧ Moved B v v W W' := fun W hW => add_full (h.next hW) (a0, a1, a2, a3) hl hd
  clear hk h hd
  go_enter Try.func21, Try.ntmps21
  go_wp2_with (first
    | (go_at_call 12; refine hS.mono ?_; rintro e w1 ⟨rfl, hb1⟩; have hb2 := hb1.alloc hb1.size (.cells #[.int .i64 a0, .int .i64 a1, .int .i64 a2, .string (bs a3)] 31))
    | (go_at_call 33; refine (hA _ hb2).mono ?_; rintro e w2 ⟨rfl, h2, hm⟩))
  go_ret
  exact ⟨rfl, h2, (Moved.of_below hb2 B v).trans hm⟩

/-- How many are older. -/
def olderN (m : Int) (l : List It) : Nat := (l.filter fun a => decide (a.2.2.1 < m)).length
theorem older_le (m : Int) (l : List It) : olderN m l ≤ l.length := List.length_filter_le _ _
theorem take_snoc {α : Type} {l : List α} {k : Nat} {a : α} (h : l[k]? = some a) : l.take (k + 1) = l.take k ++ [a] := by
  obtain ⟨hk, e⟩ := List.getElem?_eq_some_iff.1 h
  rw [List.take_succ_eq_append_getElem hk, e]
theorem older_snoc (m : Int) (l : List It) (a : It) : olderN m (l ++ [a]) = olderN m l + if a.2.2.1 < m then 1 else 0 := by
  unfold olderN
  rw [List.filter_append]
  by_cases h : a.2.2.1 < m <;> simp [h]
theorem Older_nil (m : Int) (w : World) : Calls Try.prog 18 #[.pointer none, .int .i64 m] w fun e W' => e = .returned (.int .i64 0) ∧ W' = w := by
  go_enter Try.func18, Try.ntmps18
  go_wp2_with (go_at_call 16; refine (Len_nil _).mono ?_; rintro e w1 ⟨rfl, rfl⟩)
  go_loop [5, 9] (fun n i => n = .int .i64 0 ∧ i = .int .i64 0) (fun _ _ => 0)
  case atStart => exact ⟨rfl, rfl⟩
  case round =>
    obtain ⟨rfl, rfl⟩ := hrel
    go_wp2
    go_ret
    exact ⟨rfl, rfl⟩
set_option maxRecDepth 20000 in
set_option maxHeartbeats 2000000 in
theorem Older_any {base : Nat} {w : World} {B : Nat} {v : Value} {l : List It} {d : Int} (h : BagAt 70 31 base w B v l d) (hl : l.length ≤ 4096) (m : Int) :
    Calls Try.prog 18 #[.pointer (some ⟨B, 0, none⟩), .int .i64 m] w fun e W' => e = .returned (.int .i64 (olderN m l)) ∧ W' = w := by
  have hLen := Len_any h
  go_enter Try.func18, Try.ntmps18
  go_wp2_with (go_at_call 16; refine hLen.mono ?_; rintro e w1 ⟨rfl, rfl⟩)
  go_loop [5, 9] (fun n i => ∃ k : Nat, k ≤ l.length ∧ i = .int .i64 k ∧ n = .int .i64 (olderN m (l.take k))) (fun _ i => l.length - (intOf i).toNat)
  case atStart => exact ⟨0, Nat.zero_le _, rfl, rfl⟩
  case round =>
    obtain ⟨k, hk, rfl, rfl⟩ := hrel
    by_cases hlt : k < l.length
    · obtain ⟨a, ha⟩ : ∃ a, l[k]? = some a := ⟨_, List.getElem?_eq_getElem hlt⟩
      obtain ⟨g, cap, hv, hg1, hg2, hg3, hcap, hcs⟩ := h.at (by omega)
      obtain ⟨x0, x1, x2, x3⟩ := hcs k _ ha
      have c0 := cellB h.blk 0 _ rfl
      rw [hv] at c0
      have HS : Hid (olderN m (l.take (k + 1)) = olderN m (l.take k) + if a.2.2.1 < m then 1 else 0) := by
        show olderN m (l.take (k + 1)) = _
        rw [take_snoc ha, older_snoc]
      have hle := older_le m (l.take k)
      rw [List.length_take] at hle
      obtain ⟨N, hN⟩ : ∃ N, olderN m (l.take k) = N := ⟨_, rfl⟩
      rw [hN] at HS hle ⊢
      have k0 : (0 : Int) ≤ (k : Int) := by omega
      have k1 : (k : Int) < (l.length : Int) := by omega
      have hN4 : N ≤ 4096 := by omega
      clear hN hcs ha hv hle h hLen
      go_wp2
      all_goals
        go_round
        case rel => exact ⟨k + 1, by omega, by go_num, by rw [HS.out]; first | rw [if_pos ‹_›]; go_num | (rw [if_neg (by omega)]; go_num)⟩
        case measure => simp [intOf]; omega
    · have hkl : k = l.length := by omega
      subst hkl
      go_wp2
      go_ret
      exact ⟨rfl, rfl⟩
end Go.Proofs.Ytemmnojcickcpaa
