/- The document's own bell, walked: New, Tick. -/
import Derived.Test.YtemmnojcickcpaaBeV
namespace Go.Proofs.Ytemmnojcickcpaa
open Go.RowKit
attribute [local go_sem ↓] Go.wp_at_zero Go.wp_at_succ

/-- New's array, as far as it is done. -/
structure Ncs (cs : Array Value) (k : Nat) : Prop where
  size : cs.size = 33
  now : cs[0]? = some (.int .i64 0)
  due : ∀ n : Nat, n < k → cs[n + 1]? = some (.int .i64 (-1))
  rest : ∀ n : Nat, n < 33 → ∃ s, cs[n]? = some (.int .i64 s)
theorem Ncs.step {cs : Array Value} {k : Nat} (h : Ncs cs k) (hk : k < 16) : Ncs (cs.setIfInBounds (1 + k) (.int .i64 (-1))) (k + 1) := by
  refine ⟨by rw [Array.size_setIfInBounds]; exact h.size, ?_, fun n hn => ?_, fun n hn => ?_⟩
  · rw [Array.getElem?_setIfInBounds, if_neg (by omega)]; exact h.now
  · rw [Array.getElem?_setIfInBounds]
    by_cases e : n = k
    · subst e; rw [if_pos (by omega), if_pos (by rw [h.size]; omega)]
    · rw [if_neg (by omega)]; exact h.due n (by omega)
  · rw [Array.getElem?_setIfInBounds]
    by_cases e : 1 + k = n
    · exact ⟨-1, by rw [if_pos e, if_pos (by rw [h.size]; omega)]⟩
    · rw [if_neg e]; exact h.rest n hn
set_option maxRecDepth 20000 in
set_option maxHeartbeats 4000000 in
theorem rNew_any (w : World) : Calls Try.prog 24 #[] w fun e W' => e = .returned (.pointer (some ⟨w.heap.size, 0, none⟩)) ∧ RefAt W' w.heap.size (fun _ => none) 0 ∧ Below w.heap.size w W' := by
  go_enter Try.func24, Try.ntmps24
  go_upto_region 3 with fail
  obtain ⟨Z, hZ⟩ : ∃ Z, (#[.int .i64 0, .int .i64 0, .int .i64 0, .int .i64 0, .int .i64 0, .int .i64 0, .int .i64 0, .int .i64 0, .int .i64 0, .int .i64 0, .int .i64 0, .int .i64 0, .int .i64 0, .int .i64 0, .int .i64 0, .int .i64 0, .int .i64 0, .int .i64 0, .int .i64 0, .int .i64 0, .int .i64 0, .int .i64 0, .int .i64 0, .int .i64 0, .int .i64 0, .int .i64 0, .int .i64 0, .int .i64 0, .int .i64 0, .int .i64 0, .int .i64 0, .int .i64 0, .int .i64 0] : Array Value) = Z := ⟨_, rfl⟩
  have hz : Ncs Z 0 := by
    rw [← hZ]
    refine ⟨rfl, rfl, fun n hn => by omega, fun n hn => ⟨0, ?_⟩⟩
    match n, hn with
    | 0, _ => rfl
    | 1, _ => rfl
    | 2, _ => rfl
    | 3, _ => rfl
    | 4, _ => rfl
    | 5, _ => rfl
    | 6, _ => rfl
    | 7, _ => rfl
    | 8, _ => rfl
    | 9, _ => rfl
    | 10, _ => rfl
    | 11, _ => rfl
    | 12, _ => rfl
    | 13, _ => rfl
    | 14, _ => rfl
    | 15, _ => rfl
    | 16, _ => rfl
    | 17, _ => rfl
    | 18, _ => rfl
    | 19, _ => rfl
    | 20, _ => rfl
    | 21, _ => rfl
    | 22, _ => rfl
    | 23, _ => rfl
    | 24, _ => rfl
    | 25, _ => rfl
    | 26, _ => rfl
    | 27, _ => rfl
    | 28, _ => rfl
    | 29, _ => rfl
    | 30, _ => rfl
    | 31, _ => rfl
    | 32, _ => rfl
    | n + 33, h => omega
  rw [hZ]
  clear hZ
  have hb0 : Below w.heap.size w (w.alloc (.cells Z 66)) := (Below.refl _ w).alloc (Nat.le_refl _) _
  have y0 := heap_alloc_new w (.cells Z 66)
  obtain ⟨W1, hW1⟩ : ∃ W, w.alloc (.cells Z 66) = W := ⟨_, rfl⟩
  rw [hW1] at hb0 y0 ⊢
  obtain ⟨R, hR⟩ : ∃ R, w.heap.size = R := ⟨_, rfl⟩
  have HR : Hid (w.heap.size = R) := hR
  rw [hR] at hb0 y0
  rw [show (⟨w.heap.size, 0, none⟩ : Addr) = ⟨R, 0, none⟩ by rw [hR]]
  clear hW1 hR
  go_loopg [2] 16 (fun gk i wr => ∃ (k : Nat) (cs : Array Value), k + gk = 16 ∧ i = .int .i64 k ∧ wr.heap[R]? = some (.cells cs 66) ∧ Hid (Ncs cs k) ∧ Below R w wr)
  case atStart => exact ⟨0, Z, rfl, rfl, y0, hz, hb0⟩
  case round =>
    obtain ⟨k, cs, hk, rfl, hy, HN, hb⟩ := hrel
    clear y0 hb0 hz
    by_cases hlt : k < 16
    · have k0 : (0 : Int) ≤ (k : Int) := by omega
      have k1 : (k : Int) < 16 := by omega
      obtain ⟨s, hs⟩ := HN.out.rest (1 + k) (by omega)
      have c1 := cellB hy (1 + k) _ hs
      have f1 := frozenB hy (1 + k)
      have hy2 := setB hy (1 + k) (.int .i64 (-1))
      have hb2 : Below R w (wr.setCell ⟨R, 1 + k, none⟩ (.int .i64 (-1))) := hb.trans ⟨rfl, rfl, rfl, by simp [World.setCell], fun i hi => set_far (by omega) _ _⟩
      have HN2 : Hid (Ncs (cs.setIfInBounds (1 + k) (.int .i64 (-1))) (k + 1)) := HN.out.step hlt
      have HY : Hid (_) := hy2
      clear hs hy2 hy
      go_wp2_with fail
      go_roundg (16 - (k + 1))
      case measure => omega
      case rel => exact ⟨k + 1, _, by omega, by go_num, HY.out, HN2, hb2⟩
    · have hk16 : k = 16 := by omega
      subst hk16
      have HRe : Hid (RefAt wr R (fun _ => none) 0) := ⟨cs, hy, HN.out.size, HN.out.now, fun n hn => HN.out.due n hn, fun n hn => by
        obtain ⟨s, hs⟩ := HN.out.rest (n + 17) (by omega)
        exact ⟨s, hs, fun d s' h => by cases h⟩⟩
      clear hy HN
      go_wp2_with fail
      go_ret
      rw [HR.out]
      exact ⟨rfl, HRe.out, hb⟩
end Go.Proofs.Ytemmnojcickcpaa
