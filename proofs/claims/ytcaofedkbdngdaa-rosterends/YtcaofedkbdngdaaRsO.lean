/- Rosters: the document's End, Party and Group over a list of parties, walked. -/
import Derived.Test.YtcaofedkbdngdaaRsL
namespace Go.Proofs.Ytcaofedkbdngdaa
open Go.RowKit
attribute [local go_sem ↓] Go.wp_at_zero Go.wp_at_succ

/-- The cells of the i'th party. -/
theorem pcs_cell {w : World} {base : Nat} {v : Value} {l : List (Int × Int)} (h : w.ownsRow base 37 2 v l.length (pcs l)) {i : Nat} {t : Int × Int} (hi : l[i]? = some t) :
    ∃ g cap, v = .slice (some ⟨g, 0, none⟩) l.length cap ∧ g < w.heap.size ∧ w.cell? ⟨g, i * 2, none⟩ = some (.int .i64 t.1) ∧ w.cell? ⟨g, i * 2 + 1, none⟩ = some (.int .i64 t.2) := by
  have hil : i < l.length := (List.getElem?_eq_some_iff.1 hi).1
  obtain ⟨g, cap, rfl, hb, hlt⟩ := h.form (by omega)
  obtain ⟨e0, e1⟩ := pcs_at l i t hi
  refine ⟨g, cap, rfl, hlt, ?_, ?_⟩
  · rw [← e0]; exact h.cellAt _ (by omega)
  · rw [← e1]; exact h.cellAt _ (by omega)
/-- The first place of a party, from k on. -/
def NotYet (l : List (Int × Int)) (p : Int × Int) (k : Nat) : Prop := ∀ i, i < k → l[i]? ≠ some p
theorem NotYet.succ {l : List (Int × Int)} {p : Int × Int} {k : Nat} (h : NotYet l p k) (hk : l[k]? ≠ some p) : NotYet l p (k + 1) := by
  intro i hi
  by_cases e : i = k
  · subst e; exact hk
  · exact h i (by omega)
/-- What the document's End answers. -/
def rEndIs (l : List (Int × Int)) (p : Int × Int) (v e : Int) : Prop := (l = [] ∧ v = 0 ∧ e = 1) ∨ (l ≠ [] ∧ ((∃ k : Nat, l[k]? = some p ∧ NotYet l p k ∧ v = k ∧ e = 0) ∨ (NotYet l p l.length ∧ v = 0 ∧ e = 6)))
set_option maxRecDepth 20000 in
set_option maxHeartbeats 4000000 in
theorem rEnd_any {base : Nat} {l : List (Int × Int)} {v : Value} {w : World} (hl : w.ownsRow base 37 2 v l.length (pcs l)) (hlen : l.length ≤ 1000) (pg pn : Int) :
    Calls Try.prog 19 #[v, .agg #[.int .i64 pg, .int .i64 pn]] w fun x W' => (∃ a e, x = .returned (.tuple #[.int .i64 a, .int .i64 e]) ∧ rEndIs l (pg, pn) a e) ∧ Below w.heap.size w W' := by
  obtain ⟨va, vc, rfl⟩ := owns_slice hl
  have hb0 : Below w.heap.size w (w.alloc (.cells #[.int .i64 pg, .int .i64 pn] 37)) := (Below.refl _ w).alloc (Nat.le_refl _) _
  by_cases h0 : l.length = 0
  · have hln : l = [] := List.length_eq_zero_iff.1 h0
    subst hln
    clear hl
    simp only [List.length_nil]
    go_enter Try.func19, Try.ntmps19
    go_wp2
    exact bodyPost_ret (v := .tuple #[.int .i64 0, .int .i64 1]) (by simp [results, Try.f19, go_sem]) rfl ⟨⟨0, 1, rfl, .inl ⟨rfl, rfl, rfl⟩⟩, hb0⟩
  · have hln : l ≠ [] := fun e => h0 (by rw [e]; rfl)
    have hq0 : ((l.length : Int) == 0) = false := by simp; exact hln
    have HP : Hid (l ≠ []) := hln
    have r0 := heap_alloc_new w (.cells #[.int .i64 pg, .int .i64 pn] 37)
    have hl0 := owns_next hl hb0
    clear hln h0
    go_enter Try.func19, Try.ntmps19
    go_upto_region 1 with fail
    obtain ⟨W0, hW0⟩ : ∃ W, w.alloc (.cells #[.int .i64 pg, .int .i64 pn] 37) = W := ⟨_, rfl⟩
    rw [hW0] at hb0 r0 hl0 ⊢
    obtain ⟨B, hB⟩ : ∃ B, w.heap.size = B := ⟨_, rfl⟩
    rw [hB] at r0 ⊢
    clear hW0 hB hl
    go_wp2_with fail
    go_loopg [13] l.length (fun gk i wr => ∃ k : Nat, k + gk = l.length ∧ i = .int .i64 k ∧ Hid (NotYet l (pg, pn) k) ∧ Below W0.heap.size W0 wr)
    case atStart => exact ⟨0, by omega, rfl, fun i hi => absurd hi (Nat.not_lt_zero _), Below.refl _ _⟩
    case round =>
      obtain ⟨k, hk, rfl, HN, hBw⟩ := hrel
      have rr := (hBw.block B (Array.getElem?_eq_some_iff.1 r0).1).trans r0
      have b0 := cellB rr 0 _ rfl
      have b1 := cellB rr 1 _ rfl
      by_cases hlt : k < l.length
      · obtain ⟨⟨a1, a2⟩, ha⟩ : ∃ a, l[k]? = some a := ⟨_, List.getElem?_eq_getElem hlt⟩
        obtain ⟨gb, cap, hv, hgb, x0, x1⟩ := pcs_cell (owns_next hl0 hBw) ha
        injection hv with e1 _ e2
        subst e1 e2
        simp only at x0 x1
        have m0 : (0 : Int) ≤ (k : Int) := by omega
        have m1 : (k : Int) < (l.length : Int) := by omega
        have hBwa := hBw.alloc hBw.size (.cells #[.int .i64 a1, .int .i64 a2] 37)
        have rB := (Below.heap_alloc wr (.cells #[.int .i64 a1, .int .i64 a2] 37) B (Array.getElem?_eq_some_iff.1 rr).1).trans rr
        have rN := heap_alloc_new wr (.cells #[.int .i64 a1, .int .i64 a2] 37)
        have HBN : Hid (_ ∧ _ ∧ _) := ⟨hBwa, rB, rN⟩
        clear hBwa rB rN
        go_upto_region 6 with fail
        obtain ⟨hBwa, rB, rN⟩ := HBN.out
        clear HBN
        obtain ⟨W1, hW1⟩ : ∃ W, wr.alloc (.cells #[.int .i64 a1, .int .i64 a2] 37) = W := ⟨_, rfl⟩
        rw [hW1] at hBwa rB rN ⊢
        have y0 := cellB rB 0 (.int .i64 pg) rfl
        have y1 := cellB rB 1 (.int .i64 pn) rfl
        have z0 := cellB rN 0 (.int .i64 a1) rfl
        have z1 := cellB rN 1 (.int .i64 a2) rfl
        clear hW1 rB rN rr b0 b1 x0 x1
        by_cases hc : a1 = pg ∧ a2 = pn
        · obtain ⟨rfl, rfl⟩ := hc
          have HK : Hid (l[k]? = some (a1, a2)) := ha
          clear ha
          go_wp2
          exact bodyPost_ret (v := .tuple #[.int .i64 k, .int .i64 0]) (by simp [results, Try.f19, go_sem]) rfl ⟨⟨k, 0, rfl, .inr ⟨HP.out, .inl ⟨k, HK.out, HN.out, rfl, rfl⟩⟩⟩, hb0.trans (hBwa.mono hb0.size)⟩
        · have HN2 : Hid (NotYet l (pg, pn) (k + 1)) := NotYet.succ HN.out (by rw [ha]; intro h; injection h with h; injection h with h1 h2; exact hc ⟨h1, h2⟩)
          have hcc : (a1 == pg) = false ∨ ((a1 == pg) = true ∧ (a2 == pn) = false) := by
            by_cases e1 : a1 = pg
            · right; exact ⟨by simp [e1], by simp; exact fun e2 => hc ⟨e1, e2⟩⟩
            · left; simp [e1]
          clear ha hc
          rcases hcc with q1 | ⟨q1, q2⟩
          all_goals
            go_wp2
            go_roundg (l.length - (k + 1))
            case measure => omega
            case rel => exact ⟨k + 1, by omega, by go_num, HN2, hBwa⟩
      · have hkl : k = l.length := by omega
        subst hkl
        go_wp2
        exact bodyPost_ret (v := .tuple #[.int .i64 0, .int .i64 6]) (by simp [results, Try.f19, go_sem]) rfl ⟨⟨0, 6, rfl, .inr ⟨HP.out, .inr ⟨HN.out, rfl, rfl⟩⟩⟩, hb0.trans (hBw.mono hb0.size)⟩
end Go.Proofs.Ytcaofedkbdngdaa
