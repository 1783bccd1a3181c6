/- Rosters: what is held beside a boxed roster; within, Check, N, Need, Some, replicas, Ends, walked. -/
import Derived.Test.YtcaofedkbdngdaaProg
import Derived.WalkKit
import Derived.WalkSpells
import Derived.WalkLawsBesides
import Derived.BigRegion
import Derived.BigQuiet
import Derived.Deep.RegionHeld3
import Derived.Deep.DrawnRows
import Derived.Deep.DeepCutAuto
import Derived.Deep.AppendLies
import Derived.Deep.RegionLaw
import Derived.Deep.LoopGhost
import Derived.OwnWalk
namespace Go.Proofs.Ytcaofedkbdngdaa
open Go.RowKit
attribute [local go_sem ↓] Go.wp_at_zero Go.wp_at_succ

theorem cellB {w : World} {B : Nat} {cs : Array Value} {t : TypeId} {fr : Nat × Nat} (h : w.heap[B]? = some (.cells cs t fr)) (j : Nat) (u : Value) (hu : cs[j]? = some u) : w.cell? ⟨B, j, none⟩ = some u := by
  unfold World.cell?; simp only [h]; exact hu
theorem frozenB {w : World} {B : Nat} {cs : Array Value} {t : TypeId} (h : w.heap[B]? = some (.cells cs t)) (j : Nat) : w.frozen? ⟨B, j, none⟩ = false := by
  unfold World.frozen?; simp [h]
theorem setB {w : World} {B : Nat} {cs : Array Value} {t : TypeId} {fr : Nat × Nat} (h : w.heap[B]? = some (.cells cs t fr)) (j : Nat) (a : Value) :
    (w.setCell ⟨B, j, none⟩ a).heap[B]? = some (.cells (cs.setIfInBounds j a) t fr) := by
  unfold World.setCell
  simp only [Array.getElem?_modify, if_true, h, Option.map_some]
  rfl
theorem set_far {w : World} {B k : Nat} (h : k ≠ B) (j : Nat) (u : Value) : (w.setCell ⟨B, j, none⟩ u).heap[k]? = w.heap[k]? := Below.heap_setCell _ _ _ _ h
theorem below_drew {n : Nat} {w w' : World} (h : Below n w w') : Below n w w'.drew := ⟨h.os, h.tape, h.output, h.size, h.block⟩
theorem owns_slice {w : World} {base n : Nat} {e : TypeId} {s : Nat} {v : Value} {xs : List Value} (h : w.ownsRow base e s v n xs) : ∃ a cap, v = .slice a n cap := by
  rcases h.2 with ⟨rfl, rfl⟩ | ⟨g, cap, cur, rfl, _⟩
  · exact ⟨none, 0, rfl⟩
  · exact ⟨_, cap, rfl⟩
theorem info_parts {P : Program} {E : TypeId} {z : Value} {s b : Nat} (h : (P.info? E).map (fun i => (i.zero, i.size, i.bytes)) = some (some z, s, b)) :
    ∃ i, P.info? E = some i ∧ i.zero = some z ∧ i.size = s ∧ i.bytes = b := by
  cases hi : P.info? E with
  | none => rw [hi] at h; cases h
  | some i => rw [hi] at h; simp at h; exact ⟨i, rfl, h.1, h.2.1, h.2.2⟩
/-- What a call leaves, beside what is held at all worlds behind W0. -/
theorem keepC {k : Nat} {args : Array Value} {v : Value} (hC : ∀ W, Calls Try.prog k args W fun e W' => e = .returned v ∧ Below W.heap.size W W') {W0 : World} {Z : World → Prop} (hZ : ∀ W', Below W0.heap.size W0 W' → Z W') :
    ∀ W, Below W0.heap.size W0 W → Calls Try.prog k args W fun e W' => e = .returned v ∧ Below W0.heap.size W0 W' ∧ Z W' := by
  intro W hW
  refine (hC W).mono ?_
  rintro e W' ⟨rfl, hb⟩
  have h2 := hW.trans (hb.mono hW.size)
  exact ⟨rfl, h2, hZ W' h2⟩
theorem hold3 {W0 : World} {B : Nat} {a b c : Value} {t : TypeId} (r : W0.heap[B]? = some (.cells #[a, b, c] t)) : ∀ W', Below W0.heap.size W0 W' → W'.cell? ⟨B, 0, none⟩ = some a ∧ W'.cell? ⟨B, 1, none⟩ = some b ∧ W'.cell? ⟨B, 2, none⟩ = some c := by
  intro W' h
  have r' := (h.block B (Array.getElem?_eq_some_iff.1 r).1).trans r
  exact ⟨cellB r' 0 _ rfl, cellB r' 1 _ rfl, cellB r' 2 _ rfl⟩
theorem hold2 {W0 : World} {B : Nat} {a b : Value} {t : TypeId} (r : W0.heap[B]? = some (.cells #[a, b] t)) : ∀ W', Below W0.heap.size W0 W' → W'.cell? ⟨B, 0, none⟩ = some a ∧ W'.cell? ⟨B, 1, none⟩ = some b := by
  intro W' h
  have r' := (h.block B (Array.getElem?_eq_some_iff.1 r).1).trans r
  exact ⟨cellB r' 0 _ rfl, cellB r' 1 _ rfl⟩

/-- Is n from a to b? -/
def wi (n a b : Int) : Bool := decide (a ≤ n ∧ n ≤ b)
theorem wi_t {n a b : Int} (h : wi n a b = true) : a ≤ n ∧ n ≤ b := by simpa [wi] using h
theorem wi_f {n a b : Int} (h : wi n a b = false) : n < a ∨ b < n := by simp [wi] at h; omega
theorem within_any (n a b : Int) (w : World) : Calls Try.prog 26 #[.int .i64 n, .int .i64 a, .int .i64 b] w fun e W' => e = .returned (.bool (wi n a b)) ∧ W' = w := by
  by_cases h1 : a ≤ n
  · by_cases h2 : n ≤ b
    · rw [show wi n a b = true by simp [wi, h1, h2]]
      go_enter Try.func26, Try.ntmps26
      go_wp2
      go_ret
      exact ⟨rfl, rfl⟩
    · rw [show wi n a b = false by simp [wi, h2]]
      go_enter Try.func26, Try.ntmps26
      go_wp2
      go_ret
      exact ⟨rfl, rfl⟩
  · rw [show wi n a b = false by simp [wi, h1]]
    go_enter Try.func26, Try.ntmps26
    go_wp2
    go_ret
    exact ⟨rfl, rfl⟩

/-- Is it a roster? -/
def Rt (f g c : Int) : Bool := wi f 0 3 && (wi g 1 4 && wi c 1 8)
theorem Rt_t {f g c : Int} (h : Rt f g c = true) : wi f 0 3 = true ∧ wi g 1 4 = true ∧ wi c 1 8 = true := by simpa [Rt] using h
theorem Rt_b {f g c : Int} (h : Rt f g c = true) : 0 ≤ f ∧ f ≤ 3 ∧ 1 ≤ g ∧ g ≤ 4 ∧ 1 ≤ c ∧ c ≤ 8 := by
  obtain ⟨h1, h2, h3⟩ := Rt_t h
  have := wi_t h1; have := wi_t h2; have := wi_t h3; omega
theorem Rt_f {f g c : Int} (h : Rt f g c = false) : wi f 0 3 = false ∨ (wi f 0 3 = true ∧ (wi g 1 4 = false ∨ (wi g 1 4 = true ∧ wi c 1 8 = false))) := by
  unfold Rt at h
  cases h1 : wi f 0 3 <;> cases h2 : wi g 1 4 <;> simp_all
set_option maxHeartbeats 1000000 in
theorem Check_any (f g c : Int) (w : World) : Calls Try.prog 11 #[.agg #[.int .i64 f, .int .i64 g, .int .i64 c]] w fun e W' => e = .returned (.int .i64 (if Rt f g c = true then 0 else 1)) ∧ Below w.heap.size w W' := by
  have hb0 : Below w.heap.size w (w.alloc (.cells #[.int .i64 f, .int .i64 g, .int .i64 c] 23)) := (Below.refl _ w).alloc (Nat.le_refl _) _
  cases h : Rt f g c
  · rcases Rt_f h with h1 | ⟨h1, h2 | ⟨h2, h3⟩⟩
    all_goals
      clear h
      go_enter Try.func11, Try.ntmps11
      go_wp2_with (go_at_call 26; refine (within_any _ _ _ _).mono ?_; rintro e w1 ⟨rfl, rfl⟩)
      go_ret
      exact ⟨rfl, (Below.refl _ _).alloc (Nat.le_refl _) _⟩
  · obtain ⟨h1, h2, h3⟩ := Rt_t h
    clear h
    go_enter Try.func11, Try.ntmps11
    go_wp2_with (go_at_call 26; refine (within_any _ _ _ _).mono ?_; rintro e w1 ⟨rfl, rfl⟩)
    go_ret
    exact ⟨rfl, (Below.refl _ _).alloc (Nat.le_refl _) _⟩
theorem Check_right {f g c : Int} (h : Rt f g c = true) (w : World) : Calls Try.prog 11 #[.agg #[.int .i64 f, .int .i64 g, .int .i64 c]] w fun e W' => e = .returned (.int .i64 0) ∧ Below w.heap.size w W' := by
  have := Check_any f g c w
  rw [if_pos h] at this
  exact this
theorem Check_wrong {f g c : Int} (h : Rt f g c = false) (w : World) : Calls Try.prog 11 #[.agg #[.int .i64 f, .int .i64 g, .int .i64 c]] w fun e W' => e = .returned (.int .i64 1) ∧ Below w.heap.size w W' := by
  have := Check_any f g c w
  rw [if_neg (by rw [h]; decide)] at this
  exact this
end Go.Proofs.Ytcaofedkbdngdaa
