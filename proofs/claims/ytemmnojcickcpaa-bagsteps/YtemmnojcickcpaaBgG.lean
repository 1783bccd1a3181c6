/- The bag's Between, walked. -/
import Derived.Test.YtemmnojcickcpaaBgF
namespace Go.Proofs.Ytemmnojcickcpaa
open Go.RowKit
attribute [local go_sem ↓] Go.wp_at_zero Go.wp_at_succ

/-- Numbers as cells. -/
def ncs (l : List Nat) : List Value := l.map fun (n : Nat) => Value.int .i64 (n : Int)
theorem ncs_len (l : List Nat) : (ncs l).length = l.length * 1 := by simp [ncs]
/-- Is the i'th item from f to t? -/
def goesB (f t : Int) (l : List It) (i : Nat) : Bool := match l[i]? with | some a => decide (a.1 = f) && decide (a.2.1 = t) | none => false
/-- The places, below k, of items from f to t. -/
def betwTo (f t : Int) (l : List It) (k : Nat) : List Nat := (List.range k).filter (goesB f t l)
theorem betwTo_succ (f t : Int) (l : List It) (k : Nat) : betwTo f t l (k + 1) = betwTo f t l k ++ if goesB f t l k = true then [k] else [] := by
  unfold betwTo
  rw [List.range_succ, List.filter_append]
  by_cases h : goesB f t l k = true <;> simp [h]
theorem betwTo_le (f t : Int) (l : List It) (k : Nat) : (betwTo f t l k).length ≤ k := by
  have := List.length_filter_le (goesB f t l) (List.range k)
  rw [List.length_range] at this
  exact this
theorem Try.info3 : (Try.prog.info? 3).map (fun i => (i.zero, i.size, i.bytes)) = some (some (.int .i64 0), 1, 8) := by kernel_rfl
theorem Between_nil (f t : Int) (w : World) : Calls Try.prog 14 #[.pointer none, .int .i64 f, .int .i64 t] w fun e W' => e = .returned (.slice none 0 0) ∧ W' = w := by
  go_enter Try.func14, Try.ntmps14
  go_wp2_with (go_at_call 16; refine (Len_nil _).mono ?_; rintro e w1 ⟨rfl, rfl⟩)
  go_loop [7, 11] (fun n i => n = .slice none 0 0 ∧ i = .int .i64 0) (fun _ _ => 0)
  case atStart => exact ⟨rfl, rfl⟩
  case round =>
    obtain ⟨rfl, rfl⟩ := hrel
    go_wp2
    go_ret
    exact ⟨rfl, rfl⟩
set_option maxRecDepth 20000 in
set_option maxHeartbeats 4000000 in
theorem Between_any {base : Nat} {w : World} {B : Nat} {v : Value} {l : List It} {d : Int} (h : BagAt 70 31 base w B v l d) (hl : l.length ≤ 4096) (f t : Int) :
    Calls Try.prog 14 #[.pointer (some ⟨B, 0, none⟩), .int .i64 f, .int .i64 t] w fun e W' => ∃ u, e = .returned u ∧ W'.ownsRow w.heap.size 3 1 u (betwTo f t l l.length).length (ncs (betwTo f t l l.length)) ∧ Below w.heap.size w W' := by
  have hLen := Len_any h
  obtain ⟨i0, hi, hz0, hz1, hz2⟩ := info_parts Try.info3
  go_enter Try.func14, Try.ntmps14
  go_wp2_with (go_at_call 16; refine hLen.mono ?_; rintro e w1 ⟨rfl, rfl⟩)
  rename World => w
  go_loopg [7, 11] l.length (fun gk p i wr => ∃ k : Nat, k + gk = l.length ∧ i = .int .i64 k ∧ wr.ownsRow w.heap.size 3 1 p (betwTo f t l k).length (ncs (betwTo f t l k)) ∧ Below w.heap.size w wr)
  case atStart => exact ⟨0, by omega, rfl, World.ownsRow_nil _ _ _ _, Below.refl _ _⟩
  case round =>
    obtain ⟨k, hgk, rfl, hown, hB⟩ := hrel
    by_cases hlt : k < l.length
    · obtain ⟨a, ha⟩ : ∃ a, l[k]? = some a := ⟨_, List.getElem?_eq_getElem hlt⟩
      have hr := h.next hB
      obtain ⟨g, cap, hv, hg1, hg2, hg3, hcap, hcs⟩ := hr.at (by omega)
      obtain ⟨x0, x1, x2, x3⟩ := hcs k _ ha
      have c0 := cellB hr.blk 0 _ rfl
      rw [hv] at c0
      have k0 : (0 : Int) ≤ (k : Int) := by omega
      have k1 : (k : Int) < (l.length : Int) := by omega
      have hG : goesB f t l k = (decide (a.1 = f) && decide (a.2.1 = t)) := by unfold goesB; rw [ha]
      have HS : Hid (betwTo f t l (k + 1) = betwTo f t l k ++ if goesB f t l k = true then [k] else []) := betwTo_succ f t l k
      have hle := betwTo_le f t l k
      obtain ⟨P, hP⟩ : ∃ P, betwTo f t l k = P := ⟨_, rfl⟩
      rw [hP] at HS hown hle
      obtain ⟨pa, pc, rfl⟩ := owns_slice hown
      clear hcs ha hv h hr hP hg1 hg3 hcap hLen
      by_cases hc : a.1 = f ∧ a.2.1 = t
      · obtain ⟨e1, e2⟩ := hc
        have HS2 : Hid (betwTo f t l (k + 1) = P ++ [k]) := by show betwTo f t l (k + 1) = _; rw [HS.out, hG]; simp [e1, e2]
        have hq1 : (a.1 == f) = true := by simp [e1]
        have hq2 : (a.2.1 == t) = true := by simp [e2]
        clear HS hG e1 e2
        have hml : P.length + 1 ≤ maxLen := by unfold maxLen; omega
        have hkb : (P.length + 1) * 8 ≤ 140737488355328 := by omega
        go_wp2_with (first | (at_builtin; refine wpList_append_own _ rfl _ _ 41 rfl w.heap.size 3 i0 (.int .i64 0) 1 8 Try.underlying41 hi hz0 hz1 hz2 rfl (by decide) (.slice pa P.length pc) P.length (ncs P) rfl (hown.alloc _) _ 1 1 [.int .i64 k] rfl rfl (World.news_of_block (heap_alloc_new _ _)) (by simp [Value.oneCell']) hml hkb (by have := hB.size; simp; omega) ?_; intro v' w' h1 h2 _))
        go_roundg (l.length - (k + 1))
        case measure => omega
        case rel => exact ⟨k + 1, by omega, by go_num, by rw [HS2.out, List.length_append]; simpa [ncs] using h1, (hB.alloc hB.size _).grown h2 (by have := hB.size; simp; omega) (fun q hq => (hown.lt q hq).1)⟩
      · have HS2 : Hid (betwTo f t l (k + 1) = P) := by
          show betwTo f t l (k + 1) = _
          rw [HS.out, hG, if_neg (by simpa using hc), List.append_nil]
        clear HS hG
        have hcc : a.1 ≠ f ∨ a.1 = f ∧ a.2.1 ≠ t := by
          by_cases e1 : a.1 = f
          · exact .inr ⟨e1, fun e2 => hc ⟨e1, e2⟩⟩
          · exact .inl e1
        clear hc
        rcases hcc with e1 | ⟨e1, e2⟩
        · have hq1 : (a.1 == f) = false := by simp [e1]
          clear e1
          go_wp2
          go_roundg (l.length - (k + 1))
          case measure => omega
          case rel => exact ⟨k + 1, by omega, by go_num, by rw [HS2.out]; exact hown, hB⟩
        · have hq1 : (a.1 == f) = true := by simp [e1]
          have hq2 : (a.2.1 == t) = false := by simp [e2]
          clear e1 e2
          go_wp2
          go_roundg (l.length - (k + 1))
          case measure => omega
          case rel => exact ⟨k + 1, by omega, by go_num, by rw [HS2.out]; exact hown, hB⟩
    · have hkl : k = l.length := by omega
      subst hkl
      obtain ⟨pa, pc, rfl⟩ := owns_slice hown
      go_wp2
      go_ret
      exact ⟨_, rfl, hown, hB⟩
end Go.Proofs.Ytemmnojcickcpaa
