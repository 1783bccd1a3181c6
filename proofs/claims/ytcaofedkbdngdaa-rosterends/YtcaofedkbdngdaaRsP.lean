/- Rosters: the document's Party and Group, walked; and what they say of the list of ends. -/
import Derived.Test.YtcaofedkbdngdaaRsO
import Derived.Test.YtcaofedkbdngdaaRsN
namespace Go.Proofs.Ytcaofedkbdngdaa
open Go.RowKit
attribute [local go_sem ↓] Go.wp_at_zero Go.wp_at_succ

/-- What the document's Party answers. -/
def rpt (l : List (Int × Int)) (e : Int) : (Int × Int) × Int := if l.length = 0 then ((0, 0), 1) else if e < 0 ∨ (l.length : Int) ≤ e then ((0, 0), 6) else ((l[e.toNat]?).getD (0, 0), 0)
set_option maxRecDepth 20000 in
set_option maxHeartbeats 4000000 in
theorem rParty_any {base : Nat} {l : List (Int × Int)} {v : Value} {w : World} (hl : w.ownsRow base 37 2 v l.length (pcs l)) (e : Int) (q1 q2 q3 : Int) (hq : rpt l e = ((q1, q2), q3)) :
    Calls Try.prog 21 #[v, .int .i64 e] w fun x W' => x = .returned (.tuple #[.agg #[.int .i64 q1, .int .i64 q2], .int .i64 q3]) ∧ Below w.heap.size w W' := by
  obtain ⟨va, vc, rfl⟩ := owns_slice hl
  have hb0 : Below w.heap.size w (w.alloc (.cells #[.int .i64 0, .int .i64 0] 37)) := (Below.refl _ w).alloc (Nat.le_refl _) _
  have HR : Hid (_) := heap_alloc_new w (.cells #[.int .i64 0, .int .i64 0] 37)
  unfold rpt at hq
  by_cases h0 : l.length = 0
  · rw [if_pos h0] at hq
    injection hq with h1 h2
    injection h1 with h1 h3
    subst h1 h2 h3
    rw [h0]
    clear hl
    go_enter Try.func21, Try.ntmps21
    go_wp2
    exact bodyPost_ret (v := .tuple #[.agg #[.int .i64 0, .int .i64 0], .int .i64 1]) (by simp [results, Try.f21, go_sem]) rfl ⟨rfl, hb0⟩
  · rw [if_neg h0] at hq
    have hq0 : ((l.length : Int) == 0) = false := by simp; intro e; exact h0 (by rw [e]; rfl)
    by_cases h9 : e < 0 ∨ (l.length : Int) ≤ e
    · rw [if_pos h9] at hq
      injection hq with h1 h2
      injection h1 with h1 h3
      subst h1 h2 h3
      clear hl h0
      have hcc : e < 0 ∨ (0 ≤ e ∧ (l.length : Int) ≤ e) := by omega
      clear h9
      rcases hcc with k1 | ⟨k1, k2⟩
      all_goals
        go_enter Try.func21, Try.ntmps21
        go_wp2
        exact bodyPost_ret (v := .tuple #[.agg #[.int .i64 0, .int .i64 0], .int .i64 6]) (by simp [results, Try.f21, go_sem]) rfl ⟨rfl, hb0⟩
    · rw [if_neg h9] at hq
      obtain ⟨k, rfl⟩ : ∃ k : Nat, (k : Int) = e := ⟨e.toNat, by omega⟩
      have hkl : k < l.length := by omega
      obtain ⟨⟨a1, a2⟩, ha⟩ : ∃ a, l[k]? = some a := ⟨_, List.getElem?_eq_getElem hkl⟩
      rw [Int.toNat_natCast, ha] at hq
      simp only [Option.getD_some] at hq
      injection hq with h1 h2
      injection h1 with h1 h3
      subst h1 h2 h3
      obtain ⟨gb, cap, hv, hgb, x0, x1⟩ := pcs_cell (owns_next hl hb0) ha
      injection hv with e1 _ e2
      subst e1 e2
      simp only at x0 x1
      have m0 : (0 : Int) ≤ (k : Int) := by omega
      have m1 : (k : Int) < (l.length : Int) := by omega
      have hlt2 : decide (l.length ≤ k) = false := by simp; omega
      clear hl h0 h9 ha
      go_enter Try.func21, Try.ntmps21
      go_upto_region 5 with fail
      have r0 := HR.out
      clear HR
      obtain ⟨W0, hW0⟩ : ∃ W, w.alloc (.cells #[.int .i64 0, .int .i64 0] 37) = W := ⟨_, rfl⟩
      rw [hW0] at hb0 r0 x0 x1 ⊢
      have f0 := frozenB r0 0
      have f1 := frozenB r0 1
      have c0 := cellB r0 0 (.int .i64 0) rfl
      have c1 := cellB r0 1 (.int .i64 0) rfl
      obtain ⟨y0, y1, hB3⟩ := fin2 r0 hb0 (Nat.le_refl _) (.int .i64 a1) (.int .i64 a2)
      clear hW0 r0
      go_wp2
      exact bodyPost_ret (v := .tuple #[.agg #[.int .i64 a1, .int .i64 a2], .int .i64 0]) (by simp [results, Try.f21, go_sem, y0, y1]) rfl ⟨rfl, hB3⟩

/-- Is the i'th party one of that group, and not of that number? -/
def rgB (l : List (Int × Int)) (gr but : Int) (i : Nat) : Bool := match l[i]? with | some a => decide (a.1 = gr) && (decide (0 ≤ gr) && !decide (a.2 = but)) | none => false
def rgL (l : List (Int × Int)) (gr but : Int) (k : Nat) : List Int := ((List.range k).filter (rgB l gr but)).map fun (i : Nat) => (i : Int)
theorem rgL_succ (l : List (Int × Int)) (gr but : Int) (k : Nat) : rgL l gr but (k + 1) = rgL l gr but k ++ if rgB l gr but k = true then [(k : Int)] else [] := by
  unfold rgL
  rw [List.range_succ, List.filter_append, List.map_append]
  by_cases h : rgB l gr but k = true <;> simp [h]
theorem rgL_le (l : List (Int × Int)) (gr but : Int) (k : Nat) : (rgL l gr but k).length ≤ k := by
  unfold rgL
  rw [List.length_map]
  have := List.length_filter_le (rgB l gr but) (List.range k)
  rw [List.length_range] at this
  exact this
set_option maxRecDepth 20000 in
set_option maxHeartbeats 4000000 in
theorem rGroup_any {base : Nat} {l : List (Int × Int)} {v : Value} {w : World} (hl : w.ownsRow base 37 2 v l.length (pcs l)) (hlen : l.length ≤ 1000) (gr but : Int) :
    Calls Try.prog 22 #[v, .int .i64 gr, .int .i64 but] w fun x W' => (∃ u, x = .returned u ∧ W'.ownsRow w.heap.size 3 1 u (rgL l gr but l.length).length (zcs (rgL l gr but l.length))) ∧ Below w.heap.size w W' := by
  obtain ⟨va, vc, rfl⟩ := owns_slice hl
  obtain ⟨i0, hi, hz0, hz1, hz2⟩ := info_parts Try.info3
  go_enter Try.func22, Try.ntmps22
  go_wp2_with fail
  go_loopg [7, 12] l.length (fun gk p i wr => ∃ k : Nat, k + gk = l.length ∧ i = .int .i64 k ∧ wr.ownsRow w.heap.size 3 1 p (rgL l gr but k).length (zcs (rgL l gr but k)) ∧ Below w.heap.size w wr)
  case atStart => exact ⟨0, by omega, rfl, World.ownsRow_nil _ _ _ _, Below.refl _ _⟩
  case round =>
    obtain ⟨k, hgk, rfl, hown, hB⟩ := hrel
    by_cases hlt : k < l.length
    · obtain ⟨⟨a1, a2⟩, ha⟩ : ∃ a, l[k]? = some a := ⟨_, List.getElem?_eq_getElem hlt⟩
      obtain ⟨gb, cap, hv, hgb, x0, x1⟩ := pcs_cell (owns_next hl hB) ha
      injection hv with e1 _ e2
      subst e1 e2
      simp only at x0 x1
      have k0 : (0 : Int) ≤ (k : Int) := by omega
      have k1 : (k : Int) < (l.length : Int) := by omega
      have HS : Hid (rgL l gr but (k + 1) = rgL l gr but k ++ if rgB l gr but k = true then [(k : Int)] else []) := rgL_succ l gr but k
      have hG : rgB l gr but k = (decide (a1 = gr) && (decide (0 ≤ gr) && !decide (a2 = but))) := by unfold rgB; rw [ha]
      have hle := rgL_le l gr but k
      obtain ⟨P, hP⟩ : ∃ P, rgL l gr but k = P := ⟨_, rfl⟩
      rw [hP] at HS hown hle
      obtain ⟨pa', pc, rfl⟩ := owns_slice hown
      have hba : Below wr.heap.size wr (wr.alloc (.cells #[.int .i64 a1, .int .i64 a2] 37)) := (Below.refl _ _).alloc (Nat.le_refl _) _
      have rN := heap_alloc_new wr (.cells #[.int .i64 a1, .int .i64 a2] 37)
      have hown1 := owns_next hown hba
      have hB1 := hB.trans (hba.mono hB.size)
      have HBN : Hid (_ ∧ _ ∧ _) := ⟨rN, hown1, hB1⟩
      clear ha hP rN hown1 hB1 hba hown
      go_upto_region 5 with fail
      obtain ⟨rN, hown, hB1⟩ := HBN.out
      clear HBN
      obtain ⟨W1, hW1⟩ : ∃ W, wr.alloc (.cells #[.int .i64 a1, .int .i64 a2] 37) = W := ⟨_, rfl⟩
      rw [hW1] at rN hown hB1 ⊢
      have z0 := cellB rN 0 (.int .i64 a1) rfl
      have z1 := cellB rN 1 (.int .i64 a2) rfl
      clear hW1 rN x0 x1 hB
      have hcc : (a1 ≠ gr) ∨ (a1 = gr ∧ gr < 0) ∨ (a1 = gr ∧ 0 ≤ gr ∧ a2 = but) ∨ (a1 = gr ∧ 0 ≤ gr ∧ a2 ≠ but) := by omega
      rcases hcc with e1 | ⟨e1, e2⟩ | ⟨e1, e2, e3⟩ | ⟨e1, e2, e3⟩
      · have HS2 : Hid (rgL l gr but (k + 1) = P) := by show _ = _; rw [HS.out, hG]; simp [e1]
        have hq1 : (a1 == gr) = false := by simp [e1]
        clear HS hG e1
        go_wp2
        go_roundg (l.length - (k + 1))
        case measure => omega
        case rel => exact ⟨k + 1, by omega, by go_num, by rw [HS2.out]; exact hown, hB1⟩
      · have HS2 : Hid (rgL l gr but (k + 1) = P) := by show _ = _; rw [HS.out, hG]; simp; omega
        subst e1
        clear HS hG
        go_wp2
        go_roundg (l.length - (k + 1))
        case measure => omega
        case rel => exact ⟨k + 1, by omega, by go_num, by rw [HS2.out]; exact hown, hB1⟩
      · have HS2 : Hid (rgL l gr but (k + 1) = P) := by show _ = _; rw [HS.out, hG]; simp; omega
        subst e1 e3
        clear HS hG
        go_wp2
        go_roundg (l.length - (k + 1))
        case measure => omega
        case rel => exact ⟨k + 1, by omega, by go_num, by rw [HS2.out]; exact hown, hB1⟩
      · have HS2 : Hid (rgL l gr but (k + 1) = P ++ [(k : Int)]) := by show _ = _; rw [HS.out, hG, if_pos (by simp [e1, e2, e3])]
        have hq3 : (a2 == but) = false := by simp [e3]
        subst e1
        clear HS hG e3
        have hml : P.length + 1 ≤ maxLen := by unfold maxLen; omega
        have hkb : (P.length + 1) * 8 ≤ 140737488355328 := by omega
        go_wp2_with (first
          | (at_builtin; refine wpList_append_own _ rfl _ _ 44 rfl w.heap.size 3 i0 (.int .i64 0) 1 8 Try.underlying44 hi hz0 hz1 hz2 rfl (by decide) (.slice pa' P.length pc) P.length (zcs P) rfl (hown.alloc _) _ 1 1 [.int .i64 k] rfl rfl (World.news_of_block (heap_alloc_new _ _)) (by simp [Value.oneCell']) hml hkb (by have := hB1.size; simp; omega) ?_; intro v' w' h1 h2 _))
        go_roundg (l.length - (k + 1))
        case measure => omega
        case rel => exact ⟨k + 1, by omega, by go_num, by rw [HS2.out, zcs_snoc, List.length_append]; exact h1, (hB1.alloc hB1.size _).grown h2 (by have := hB1.size; simp; omega) (fun q hq => (hown.lt q hq).1)⟩
    · have hkl : k = l.length := by omega
      subst hkl
      obtain ⟨pa', pc, rfl⟩ := owns_slice hown
      go_wp2
      go_ret
      exact ⟨⟨_, rfl, hown⟩, hB⟩
end Go.Proofs.Ytcaofedkbdngdaa
