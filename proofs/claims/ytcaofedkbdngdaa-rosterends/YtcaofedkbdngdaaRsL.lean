/- Rosters: the document's list of ends, walked. -/
import Derived.Test.YtcaofedkbdngdaaRsX
namespace Go.Proofs.Ytcaofedkbdngdaa
open Go.RowKit
attribute [local go_sem ↓] Go.wp_at_zero Go.wp_at_succ

/-- Parties as cells. -/
def pcs (l : List (Int × Int)) : List Value := l.flatMap fun a => [.int .i64 a.1, .int .i64 a.2]
theorem pcs_cons (a : Int × Int) (l : List (Int × Int)) : pcs (a :: l) = .int .i64 a.1 :: .int .i64 a.2 :: pcs l := rfl
theorem pcs_len (l : List (Int × Int)) : (pcs l).length = l.length * 2 := by
  induction l with
  | nil => rfl
  | cons t r ih => rw [pcs_cons]; simp only [List.length_cons, ih]; omega
theorem pcs_append (a b : List (Int × Int)) : pcs (a ++ b) = pcs a ++ pcs b := by simp [pcs]
theorem pcs_at (l : List (Int × Int)) (i : Nat) (t : Int × Int) (h : l[i]? = some t) : (pcs l)[i * 2]? = some (.int .i64 t.1) ∧ (pcs l)[i * 2 + 1]? = some (.int .i64 t.2) := by
  induction l generalizing i with
  | nil => cases h
  | cons a r ih =>
    rw [pcs_cons]
    cases i with
    | zero => simp at h; subst h; exact ⟨rfl, rfl⟩
    | succ i =>
      have := ih i (by simpa using h)
      rw [show (i + 1) * 2 = i * 2 + 1 + 1 from by omega]
      simpa using this
/-- Whose the e'th end is, with so many replicas a group, and G groups of them in all. -/
def pa (n G e : Nat) : Int × Int := if e < G * n then ((e / n : Nat), (e % n : Nat)) else (-1, ((e - G * n : Nat) : Int))
def paL (n G k : Nat) : List (Int × Int) := (List.range k).map (pa n G)
theorem paL_len (n G k : Nat) : (paL n G k).length = k := by simp [paL]
theorem paL_succ (n G k : Nat) : paL n G (k + 1) = paL n G k ++ [pa n G k] := by simp [paL, List.range_succ]
theorem paL_at {n G k i : Nat} (h : i < k) : (paL n G k)[i]? = some (pa n G i) := by simp [paL, h]
theorem pa_rep {n G g i : Nat} (hi : i < n) (hg : g < G) : pa n G (g * n + i) = ((g : Int), (i : Int)) := by
  have h1 : g * n + i < G * n := by
    have : (g + 1) * n ≤ G * n := Nat.mul_le_mul_right n hg
    rw [Nat.add_mul, Nat.one_mul] at this
    omega
  have h2 : (g * n + i) / n = g := by rw [Nat.mul_comm, Nat.mul_add_div (by omega), Nat.div_eq_of_lt hi, Nat.add_zero]
  have h3 : (g * n + i) % n = i := by rw [Nat.mul_comm, Nat.mul_add_mod, Nat.mod_eq_of_lt hi]
  unfold pa
  rw [if_pos h1, h2, h3]
theorem pa_cl (n G i : Nat) : pa n G (G * n + i) = (-1, (i : Int)) := by
  unfold pa
  rw [if_neg (by omega), show G * n + i - G * n = i by omega]
theorem Try.info37 : (Try.prog.info? 37).map (fun i => (i.zero, i.size, i.bytes)) = some (some (.agg #[.int .i64 0, .int .i64 0]), 2, 16) := by kernel_rfl
set_option maxRecDepth 20000 in
set_option maxHeartbeats 4000000 in
theorem rEnds_right {f g c : Int} (h : Rt f g c = true) (n G C : Nat) (hn : (n : Int) = 3 * f + 1) (hG : (G : Int) = g + 1) (hC : (C : Int) = c) (w : World) :
    Calls Try.prog 17 #[.int .i64 f, .int .i64 g, .int .i64 c] w fun e W' => (∃ u, e = .returned u ∧ W'.ownsRow w.heap.size 37 2 u (G * n + C) (pcs (paL n G (G * n + C)))) ∧ Below w.heap.size w W' := by
  have hR := Right_any f g c w
  rw [h] at hR
  obtain ⟨h1, h2, h3, h4, h5, h6⟩ := Rt_b h
  obtain ⟨i0, hi, hz0, hz1, hz2⟩ := info_parts Try.info37
  have n1 : n ≤ 10 := by omega
  have G1 : G ≤ 5 := by omega
  have C1 : C ≤ 8 := by omega
  clear h
  go_enter Try.func17, Try.ntmps17
  go_wp2_with (first | (go_at_call 8; refine hR.mono ?_; rintro e w1 ⟨rfl, h9⟩; subst h9))
  rename World => w
  go_loopg [7, 8] G (fun gk p i wr => ∃ k : Nat, k + gk = G ∧ i = .int .i64 k ∧ wr.ownsRow w.heap.size 37 2 p (k * n) (pcs (paL n G (k * n))) ∧ Below w.heap.size w wr)
  case atStart => exact ⟨0, by omega, rfl, by rw [Nat.zero_mul]; exact World.ownsRow_nil _ _ _ _, Below.refl _ _⟩
  case round =>
    obtain ⟨k, hgk, rfl, hown, hB⟩ := hrel
    by_cases hlt : k < G
    · have k0 : (k : Int) ≤ g := by omega
      have k9 : (k : Int) ≤ 5 := by omega
      obtain ⟨pa', pc, rfl⟩ := owns_slice hown
      go_wp2_with fail
      go_loopg [7, 9] n (fun gq p i wr => ∃ q : Nat, q + gq = n ∧ i = .int .i64 q ∧ wr.ownsRow w.heap.size 37 2 p (k * n + q) (pcs (paL n G (k * n + q))) ∧ Below w.heap.size w wr)
      case atStart => exact ⟨0, by omega, rfl, hown, hB⟩
      case round =>
        clear hown hB
        obtain ⟨q, hgq, rfl, hown, hB⟩ := hrel
        by_cases hq : q < n
        · have q0 : (q : Int) < 3 * f + 1 := by omega
          have q9 : (q : Int) ≤ 10 := by omega
          have HS : Hid (pcs (paL n G (k * n + (q + 1))) = pcs (paL n G (k * n + q)) ++ [.int .i64 k, .int .i64 q]) := by
            show _ = _
            rw [← Nat.add_assoc, paL_succ, pcs_append, pa_rep hq hlt]
            rfl
          have hkn : k * n ≤ 50 := by
            have : k * n ≤ 5 * 10 := Nat.mul_le_mul (by omega) n1
            omega
          obtain ⟨L, hL⟩ : ∃ L, k * n + q = L := ⟨_, rfl⟩
          have HL : Hid (k * n + (q + 1) = L + 1) := by show _ = _; omega
          rw [hL] at HS hown
          obtain ⟨P, hP⟩ : ∃ P, pcs (paL n G L) = P := ⟨_, rfl⟩
          rw [hP] at HS hown
          obtain ⟨pa2, pc2, rfl⟩ := owns_slice hown
          have hml : L + 1 ≤ maxLen := by unfold maxLen; omega
          have hkb : (L + 1) * 16 ≤ 140737488355328 := by omega
          clear hP hL hkn
          go_wp2_with (first
            | (at_builtin; refine wpList_append_own _ rfl _ _ 33 rfl w.heap.size 37 i0 (.agg #[.int .i64 0, .int .i64 0]) 2 16 Try.underlying33 hi hz0 hz1 hz2 rfl (by decide) (.slice pa2 L pc2) L P rfl (hown.alloc _) _ 1 1 [.int .i64 k, .int .i64 q] rfl rfl (World.news_of_block (heap_alloc_new _ _)) (by simp [Value.oneCell']) hml hkb (by have := hB.size; simp; omega) ?_; intro v' w' h1 h2 _))
          go_roundg (n - (q + 1))
          case measure => omega
          case rel => exact ⟨q + 1, by omega, by go_num, by rw [HS.out, HL.out]; exact h1, (hB.alloc hB.size _).grown h2 (by have := hB.size; simp; omega) (fun q hq => (hown.lt q hq).1)⟩
        · have hqn : q = n := by omega
          subst hqn
          have hown2 : wr.ownsRow w.heap.size 37 2 u7 ((k + 1) * q) (pcs (paL q G ((k + 1) * q))) := by rw [Nat.add_mul, Nat.one_mul]; exact hown
          clear hown
          go_wp2_with fail
          go_roundg (G - (k + 1))
          case measure => omega
          case rel => exact ⟨k + 1, by omega, by go_num, hown2, hB⟩
    · have hkG : k = G := by omega
      subst hkG
      have gk : g < (k : Int) := by omega
      clear hlt hG
      obtain ⟨pa', pc, rfl⟩ := owns_slice hown
      go_wp2_with fail
      go_loopg [7, 10] C (fun gq p i wr => ∃ q : Nat, q + gq = C ∧ i = .int .i64 q ∧ wr.ownsRow w.heap.size 37 2 p (k * n + q) (pcs (paL n k (k * n + q))) ∧ Below w.heap.size w wr)
      case atStart => exact ⟨0, by omega, rfl, hown, hB⟩
      case round =>
        clear hown hB
        obtain ⟨q, hgq, rfl, hown, hB⟩ := hrel
        by_cases hq : q < C
        · have q0 : (q : Int) < c := by omega
          have q9 : (q : Int) ≤ 10 := by omega
          have HS : Hid (pcs (paL n k (k * n + (q + 1))) = pcs (paL n k (k * n + q)) ++ [.int .i64 (-1), .int .i64 q]) := by
            show _ = _
            rw [← Nat.add_assoc, paL_succ, pcs_append, pa_cl]
            rfl
          have hkn : k * n ≤ 50 := by
            have : k * n ≤ 5 * 10 := Nat.mul_le_mul (by omega) n1
            omega
          obtain ⟨L, hL⟩ : ∃ L, k * n + q = L := ⟨_, rfl⟩
          have HL : Hid (k * n + (q + 1) = L + 1) := by show _ = _; omega
          rw [hL] at HS hown
          obtain ⟨P, hP⟩ : ∃ P, pcs (paL n k L) = P := ⟨_, rfl⟩
          rw [hP] at HS hown
          obtain ⟨pa2, pc2, rfl⟩ := owns_slice hown
          have hml : L + 1 ≤ maxLen := by unfold maxLen; omega
          have hkb : (L + 1) * 16 ≤ 140737488355328 := by omega
          clear hP hL hkn
          go_wp2_with (first
            | (at_builtin; refine wpList_append_own _ rfl _ _ 33 rfl w.heap.size 37 i0 (.agg #[.int .i64 0, .int .i64 0]) 2 16 Try.underlying33 hi hz0 hz1 hz2 rfl (by decide) (.slice pa2 L pc2) L P rfl (hown.alloc _) _ 1 1 [.int .i64 (-1), .int .i64 q] rfl rfl (World.news_of_block (heap_alloc_new _ _)) (by simp [Value.oneCell']) hml hkb (by have := hB.size; simp; omega) ?_; intro v' w' h1 h2 _))
          go_roundg (C - (q + 1))
          case measure => omega
          case rel => exact ⟨q + 1, by omega, by go_num, by rw [HS.out, HL.out]; exact h1, (hB.alloc hB.size _).grown h2 (by have := hB.size; simp; omega) (fun q hq => (hown.lt q hq).1)⟩
        · have hqn : q = C := by omega
          subst hqn
          obtain ⟨pa2, pc2, rfl⟩ := owns_slice hown
          go_wp2
          go_ret
          exact ⟨⟨_, rfl, hown⟩, hB⟩
theorem rEnds_wrong {f g c : Int} (h : Rt f g c = false) (w : World) : Calls Try.prog 17 #[.int .i64 f, .int .i64 g, .int .i64 c] w fun e W' => e = .returned (.slice none 0 0) ∧ W' = w := by
  have hR := Right_any f g c w
  rw [h] at hR
  clear h
  go_enter Try.func17, Try.ntmps17
  go_wp2_with (first | (go_at_call 8; refine hR.mono ?_; rintro e w1 ⟨rfl, h9⟩; subst h9))
  go_ret
  exact ⟨rfl, rfl⟩
end Go.Proofs.Ytcaofedkbdngdaa
