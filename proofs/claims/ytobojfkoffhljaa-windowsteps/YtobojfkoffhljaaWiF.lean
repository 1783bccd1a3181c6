/- What the window drops: the plain part, and the two questions. -/
import Derived.Test.YtobojfkoffhljaaWiE
import Derived.ChangeKeysEq
namespace Go.Proofs.Ytobojfkoffhljaa
open Go.RowKit Go.Maps
attribute [local go_sem ↓] Go.wp_at_zero Go.wp_at_succ

theorem keyOf_place_inv {key : Value} {kl : Lit} (h : keyOf Try.prog 76 key = some kl) : ∃ v n : Int, key = .agg #[.int .i64 v, .int .i64 n] ∧ (Lit.int .i64 v).wf = true ∧ (Lit.int .i64 n).wf = true ∧ kl = pk v n := by
  have h0 := h
  obtain ⟨m, hm⟩ := Try.tsize
  unfold keyOf at h
  rw [hm, Try.underlying76] at h
  cases key <;> simp [Value.formed, Try.underlying76, Try.cells76, Try.key76] at h
  rename_i cs
  obtain ⟨hs, ls, hl, hk⟩ := h
  obtain ⟨c0, c1, rfl⟩ : ∃ c0 c1, cs = #[c0, c1] := by
    match cs, hs with
    | ⟨[a, b]⟩, _ => exact ⟨a, b, rfl⟩
  have hx : ∀ (d : Nat) (c : Value) (l : List Lit), Try.prog.keyLits (d + 1) 3 [c] = some l → ∃ x, c = .int .i64 x ∧ (Lit.int .i64 x).wf = true := by
    intro d c l hc
    cases c <;> simp [Program.keyLits, Try.underlying3] at hc
    obtain ⟨⟨rfl, w1⟩, _⟩ := hc
    exact ⟨_, rfl, w1⟩
  have h00 : ∃ l0, Try.prog.keyLits (m + 1) 3 [c0] = some l0 := by
    cases h9 : Try.prog.keyLits (m + 1) 3 [c0] with
    | some l0 => exact ⟨l0, rfl⟩
    | none =>
      unfold Program.keyLits at hl
      simp [Try.underlying76, Try.cells76, Try.cells3, Value.cells, h9] at hl
  obtain ⟨l0, h00⟩ := h00
  have h01 : ∃ l1, Try.prog.keyLits (m + 1) 3 [c1] = some l1 := by
    cases h9 : Try.prog.keyLits (m + 1) 3 [c1] with
    | some l0 => exact ⟨l0, rfl⟩
    | none =>
      unfold Program.keyLits at hl
      simp [Try.underlying76, Try.cells76, Try.cells3, Value.cells, h9, h00] at hl
  obtain ⟨l1, h01⟩ := h01
  obtain ⟨x, rfl, w1⟩ := hx _ _ _ h00
  obtain ⟨y, rfl, w2⟩ := hx _ _ _ h01
  refine ⟨x, y, rfl, w1, w2, ?_⟩
  rw [keyOf_place w1 w2] at h0
  injection h0 with h0
  exact h0.symm
/-- What is left, where some go, and others are still to come. -/
def stay (gone : Int → Int → Bool) (left : Lit → Bool) (S : List Sk) : List Sk := S.filter (fun a => !(gone a.1 a.2.1) || left (pk a.1 a.2.1))
theorem sent_key (a : Sk) : (sent a).1 = pk a.1 a.2.1 := rfl
theorem stay_start {gone : Int → Int → Bool} {S : List Sk} {D : DataW Value} (hr : Rep D (S.map sent)) : stay gone (Maps.has D) S = S := by
  unfold stay
  rw [List.filter_eq_self]
  intro a ha
  have := (hr.at (k := pk a.1 a.2.1) (v := .pointer (some ⟨a.2.2, 0, none⟩)) (List.mem_map.2 ⟨a, ha, rfl⟩) .nil).2
  rw [this]; simp
theorem stay_end {gone : Int → Int → Bool} {left : Lit → Bool} {S : List Sk} (h : ∀ kl, left kl = false) : stay gone left S = S.filter (fun a => !(gone a.1 a.2.1)) := by
  unfold stay
  apply List.filter_congr
  intro a _
  rw [h]; simp
theorem key_same {v n : Int} {a : Sk} (hv : (Lit.int .i64 v).wf = true) (hn : (Lit.int .i64 n).wf = true) (ha : okS a) (h : (pk a.1 a.2.1).sameKey (pk v n) = true) : a.1 = v ∧ a.2.1 = n := by
  obtain ⟨k1, k2, k3, k4⟩ := ha
  exact pk_inj (wf64 (by omega) (by omega)) (wf64 (by omega) (by omega)) hv hn (WideAt.sameKey_eq h)
theorem stay_stays {gone : Int → Int → Bool} {left : Lit → Bool} {S : List Sk} {v n : Int} (hok : ∀ a ∈ S, okS a) (hv : (Lit.int .i64 v).wf = true) (hn : (Lit.int .i64 n).wf = true) (hg : gone v n = false) : stay gone (fun z => left z && !z.sameKey (pk v n)) S = stay gone left S := by
  unfold stay
  apply List.filter_congr
  intro a ha
  cases h : (pk a.1 a.2.1).sameKey (pk v n)
  · simp [h]
  · obtain ⟨e1, e2⟩ := key_same hv hn (hok a ha) h
    rw [e1, e2, hg]; simp
theorem stay_struck {gone : Int → Int → Bool} {left : Lit → Bool} {S : List Sk} {v n : Int} (hok : ∀ a ∈ S, okS a) (hv : (Lit.int .i64 v).wf = true) (hn : (Lit.int .i64 n).wf = true) (hg : gone v n = true) : ((stay gone left S).map sent).filter (fun p => !p.1.sameKey (pk v n)) = (stay gone (fun z => left z && !z.sameKey (pk v n)) S).map sent := by
  rw [List.filter_map]
  congr 1
  unfold stay
  rw [List.filter_filter]
  apply List.filter_congr
  intro a ha
  simp only [Function.comp, sent_key]
  cases h : (pk a.1 a.2.1).sameKey (pk v n)
  · simp
  · obtain ⟨e1, e2⟩ := key_same hv hn (hok a ha) h
    rw [e1, e2, hg]; simp
theorem clo37 (x : Int) (P : Nat) (v n : Int) (w : World) (hc : w.cell? ⟨P, 0, none⟩ = some (.int .i64 x)) : Calls Try.prog 37 #[.agg #[.int .i64 v, .int .i64 n], .pointer (some ⟨P, 0, none⟩)] w fun e W' => e = .returned (.bool (decide (v < x))) ∧ Below w.heap.size w W' := by
  have hc2 := cell_alloc (.cells #[.int .i64 v, .int .i64 n] 76) hc
  by_cases h : v < x
  · rw [show decide (v < x) = true by simp [h]]
    go_enter Try.func37, Try.ntmps37
    go_wp2
    go_ret
    exact ⟨rfl, (Below.refl _ w).alloc (Nat.le_refl _) _⟩
  · rw [show decide (v < x) = false by simp; omega]
    have h2 : x ≤ v := by omega
    go_enter Try.func37, Try.ntmps37
    go_wp2
    go_ret
    exact ⟨rfl, (Below.refl _ w).alloc (Nat.le_refl _) _⟩
theorem clo39 (x : Int) (P : Nat) (v n : Int) (w : World) (hc : w.cell? ⟨P, 0, none⟩ = some (.int .i64 x)) : Calls Try.prog 39 #[.agg #[.int .i64 v, .int .i64 n], .pointer (some ⟨P, 0, none⟩)] w fun e W' => e = .returned (.bool (decide (n ≤ x))) ∧ Below w.heap.size w W' := by
  have hc2 := cell_alloc (.cells #[.int .i64 v, .int .i64 n] 76) hc
  by_cases h : n ≤ x
  · rw [show decide (n ≤ x) = true by simp [h]]
    go_enter Try.func39, Try.ntmps39
    go_wp2
    go_ret
    exact ⟨rfl, (Below.refl _ w).alloc (Nat.le_refl _) _⟩
  · rw [show decide (n ≤ x) = false by simp; omega]
    have h2 : x < n := by omega
    go_enter Try.func39, Try.ntmps39
    go_wp2
    go_ret
    exact ⟨rfl, (Below.refl _ w).alloc (Nat.le_refl _) _⟩
end Go.Proofs.Ytobojfkoffhljaa
