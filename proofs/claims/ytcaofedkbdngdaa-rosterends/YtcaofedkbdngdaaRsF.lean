/- Rosters: the ends of a group's replicas but one, walked. -/
import Derived.Test.YtcaofedkbdngdaaRsE
namespace Go.Proofs.Ytcaofedkbdngdaa
open Go.RowKit
attribute [local go_sem ↓] Go.wp_at_zero Go.wp_at_succ

theorem owns_kept {w w' : World} {base n : Nat} {e : TypeId} {s : Nat} {v : Value} {xs : List Value} (h : w.ownsRow base e s v n xs) (hk : ∀ k, v.ownBlock = some k → w'.heap[k]? = w.heap[k]?) : w'.ownsRow base e s v n xs := by
  obtain ⟨hl, h | ⟨g, cap, cur, rfl, h2, h3, h4⟩⟩ := h
  · exact ⟨hl, .inl h⟩
  · exact ⟨hl, .inr ⟨g, cap, cur, rfl, h2, (hk g rfl).trans h3, h4⟩⟩
theorem owns_next {w w' : World} {base n : Nat} {e : TypeId} {s : Nat} {v : Value} {xs : List Value} (h : w.ownsRow base e s v n xs) (hb : Below w.heap.size w w') : w'.ownsRow base e s v n xs := owns_kept h (fun k hk => hb.block k (h.lt k hk).2)
/-- Numbers as cells. -/
def zcs (l : List Int) : List Value := l.map fun n => Value.int .i64 n
theorem zcs_len (l : List Int) : (zcs l).length = l.length := by simp [zcs]
theorem zcs_snoc (l : List Int) (n : Int) : zcs (l ++ [n]) = zcs l ++ [.int .i64 n] := by simp [zcs]
theorem zcs_at (l : List Int) (i : Nat) (t : Int) (h : l[i]? = some t) : (zcs l)[i]? = some (.int .i64 t) := by simp [zcs, h]
/-- Is i's end among them? -/
def inB (f g c no gr : Int) (i : Nat) : Bool := decide (endE f g c gr i = 0) && !decide ((i : Int) = no)
def butL (f g c no gr : Int) (k : Nat) : List Int := ((List.range k).filter (inB f g c no gr)).map fun (i : Nat) => endV f g c gr (i : Int)
theorem butL_succ (f g c no gr : Int) (k : Nat) : butL f g c no gr (k + 1) = butL f g c no gr k ++ if inB f g c no gr k = true then [endV f g c gr k] else [] := by
  unfold butL
  rw [List.range_succ, List.filter_append, List.map_append]
  by_cases h : inB f g c no gr k = true <;> simp [h]
theorem butL_le (f g c no gr : Int) (k : Nat) : (butL f g c no gr k).length ≤ k := by
  unfold butL
  rw [List.length_map]
  have := List.length_filter_le (inB f g c no gr) (List.range k)
  rw [List.length_range] at this
  exact this
theorem Try.info3 : (Try.prog.info? 3).map (fun i => (i.zero, i.size, i.bytes)) = some (some (.int .i64 0), 1, 8) := by kernel_rfl
set_option maxRecDepth 20000 in
set_option maxHeartbeats 4000000 in
theorem but_any (f g c no gr : Int) (K : Nat) (hK : K ≤ 10) (w : World) :
    Calls Try.prog 28 #[.int .i64 no, .int .i64 gr, .int .i64 K, .func (.func 18) #[.agg #[.int .i64 f, .int .i64 g, .int .i64 c]] #[]] w fun e W' => ∃ u, e = .returned u ∧ W'.ownsRow w.heap.size 3 1 u (butL f g c no gr K).length (zcs (butL f g c no gr K)) ∧ Below w.heap.size w W' := by
  obtain ⟨i0, hi, hz0, hz1, hz2⟩ := info_parts Try.info3
  go_enter Try.func28, Try.ntmps28
  go_wp2_with fail
  go_loopg [9, 14] K (fun gk p i wr => ∃ k : Nat, k + gk = K ∧ i = .int .i64 k ∧ wr.ownsRow w.heap.size 3 1 p (butL f g c no gr k).length (zcs (butL f g c no gr k)) ∧ Below w.heap.size w wr)
  case atStart => exact ⟨0, by omega, rfl, World.ownsRow_nil _ _ _ _, Below.refl _ _⟩
  case round =>
    obtain ⟨k, hgk, rfl, hown, hB⟩ := hrel
    by_cases hlt : k < K
    · have k0 : (0 : Int) ≤ (k : Int) := by omega
      have k1 : (k : Int) < (K : Int) := by omega
      have HS : Hid (butL f g c no gr (k + 1) = butL f g c no gr k ++ if inB f g c no gr k = true then [endV f g c gr k] else []) := butL_succ f g c no gr k
      have hle := butL_le f g c no gr k
      obtain ⟨P, hP⟩ : ∃ P, butL f g c no gr k = P := ⟨_, rfl⟩
      rw [hP] at HS hown hle
      obtain ⟨pa, pc, rfl⟩ := owns_slice hown
      have hE := End_any f g c gr k wr
      have hI : inB f g c no gr k = (decide (endE f g c gr k = 0) && !decide ((k : Int) = no)) := rfl
      obtain ⟨V, hV⟩ : ∃ V, endV f g c gr k = V := ⟨_, rfl⟩
      obtain ⟨X, hX⟩ : ∃ X, endE f g c gr k = X := ⟨_, rfl⟩
      rw [hX] at hI
      rw [hV, hX] at hE
      rw [hV] at HS
      clear hP hV hX
      have hcc : X ≠ 0 ∨ X = 0 ∧ ((k : Int) = no ∨ (k : Int) ≠ no) := by
        by_cases e1 : X = 0
        · exact .inr ⟨e1, Decidable.em _⟩
        · exact .inl e1
      rcases hcc with e1 | ⟨e1, e2 | e2⟩
      · have HS2 : Hid (butL f g c no gr (k + 1) = P) := by show _ = _; rw [HS.out, hI]; simp [e1]
        have hq1 : (X == 0) = false := by simp [e1]
        clear HS hI e1
        go_wp2_with (first | (go_at_call 18; refine hE.mono ?_; rintro e w1 ⟨rfl, hb1⟩))
        go_roundg (K - (k + 1))
        case measure => omega
        case rel => exact ⟨k + 1, by omega, by go_num, by rw [HS2.out]; exact owns_next hown hb1, hB.trans (hb1.mono hB.size)⟩
      · have HS2 : Hid (butL f g c no gr (k + 1) = P) := by show _ = _; rw [HS.out, hI]; simp [e2]
        have hq1 : (X == 0) = true := by simp [e1]
        have hq2 : ((k : Int) == no) = true := by simp [e2]
        clear HS hI e1 e2
        go_wp2_with (first | (go_at_call 18; refine hE.mono ?_; rintro e w1 ⟨rfl, hb1⟩))
        go_roundg (K - (k + 1))
        case measure => omega
        case rel => exact ⟨k + 1, by omega, by go_num, by rw [HS2.out]; exact owns_next hown hb1, hB.trans (hb1.mono hB.size)⟩
      · have HS2 : Hid (butL f g c no gr (k + 1) = P ++ [V]) := by show _ = _; rw [HS.out, hI]; simp [e1, e2]
        have hq1 : (X == 0) = true := by simp [e1]
        have hq2 : ((k : Int) == no) = false := by simp [e2]
        clear HS hI e1 e2
        have hml : P.length + 1 ≤ maxLen := by unfold maxLen; omega
        have hkb : (P.length + 1) * 8 ≤ 140737488355328 := by omega
        go_wp2_with (first
          | (go_at_call 18; refine hE.mono ?_; rintro e w1 ⟨rfl, hb1⟩; have hown1 := owns_next hown hb1; have hB1 := hB.trans (hb1.mono hB.size))
          | (at_builtin; refine wpList_append_own _ rfl _ _ 44 rfl w.heap.size 3 i0 (.int .i64 0) 1 8 Try.underlying44 hi hz0 hz1 hz2 rfl (by decide) (.slice pa P.length pc) P.length (zcs P) rfl (hown1.alloc _) _ 1 1 [.int .i64 V] rfl rfl (World.news_of_block (heap_alloc_new _ _)) (by simp [Value.oneCell']) hml hkb (by have := hB1.size; simp; omega) ?_; intro v' w' h1 h2 _))
        go_roundg (K - (k + 1))
        case measure => omega
        case rel => exact ⟨k + 1, by omega, by go_num, by rw [HS2.out, zcs_snoc, List.length_append]; exact h1, (hB1.alloc hB1.size _).grown h2 (by have := hB1.size; simp; omega) (fun q hq => (hown1.lt q hq).1)⟩
    · have hkl : k = K := by omega
      subst hkl
      obtain ⟨pa, pc, rfl⟩ := owns_slice hown
      go_wp2
      go_ret
      exact ⟨_, rfl, hown, hB⟩
end Go.Proofs.Ytcaofedkbdngdaa
