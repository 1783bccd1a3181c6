/- reeve: the chain of rulings, walked. -/
import Derived.Test.YtcehmaegnfelhaaRvB
namespace Go.Proofs.Ytcehmaegnfelhaa
open Go.RowKit
attribute [local go_sem ↓] Go.wp_at_zero Go.wp_at_succ

theorem cg_small (l : List Ru) (B N n : Nat) (w : World) (v : Value) (lc : List Rc) (h : ChAt N w B v lc) (hc : cls lc = rcN l n) (i : Nat) (x : Cg) (hx : (allL (rcN l n))[i]? = some x) : x.gs.length ≤ 1000 := by
  obtain ⟨hi, rfl⟩ := allL_at hx
  have hi2 : i ≤ lc.length := by rw [← cls_len, hc]; omega
  have := (conf_of (cfg_mem h hi2).1).1
  rw [← hc, ← cfgAt_cls]
  show (zi (cfgAt lc i).1).length ≤ 1000
  rw [zi_len]; omega
/-- What Chain tells. -/
def ChnPost (l : List Ru) (e : Ending) (W' : World) : Prop :=
  ((∀ i, i < l.length → rBad l i = false) ∧ ∃ u, e = .returned (.tuple #[u, .int .i64 0]) ∧ Cl W' u (allL (rcN l l.length)) ∧ ∀ (i : Nat) (x : Cg), (allL (rcN l l.length))[i]? = some x → x.gs.length ≤ 1000) ∨
  (∃ i : Nat, i < l.length ∧ rBad l i = true ∧ (∀ j, j < i → rBad l j = false) ∧ e = .returned (.tuple #[.slice none 0 0, .int .i64 7]))
set_option maxRecDepth 20000 in
set_option maxHeartbeats 1000000 in
theorem chain_any (l : List Ru) (v : Value) (w : World) (hv : SlF rul 6 w v l) (hl : l.length ≤ 500) : Calls Try.prog 16 #[v] w fun e W' => ChnPost l e W' ∧ Below w.heap.size w W' := by
  obtain ⟨va, vc, rfl⟩ := hv.slice
  have hR := ruled_any l _ w hv hl
  obtain ⟨n, hn⟩ : ∃ n, l.length = n := ⟨_, rfl⟩
  have h1 : ¬ (500 : Int) < (n : Int) := by omega
  obtain ⟨N, hN⟩ : ∃ N, w.heap.size = N := ⟨_, rfl⟩
  have hle := rcN_le l n
  have HP : Hid (∀ e W', ChnPost l e W' ↔ (((∀ i, i < n → rBad l i = false) ∧ ∃ u, e = .returned (.tuple #[u, .int .i64 0]) ∧ Cl W' u (allL (rcN l n)) ∧ ∀ (i : Nat) (x : Cg), (allL (rcN l n))[i]? = some x → x.gs.length ≤ 1000) ∨
    (∃ i : Nat, i < n ∧ rBad l i = true ∧ (∀ j, j < i → rBad l j = false) ∧ e = .returned (.tuple #[.slice none 0 0, .int .i64 7])))) := fun e W' => by rw [ChnPost, hn]
  have hR2 : Calls Try.prog 26 #[.slice va n vc] w fun e W' => ∃ (f : Value) (j : Int), e = .returned (.tuple #[f, .int .i64 j]) ∧ ((∃ B v lc, (∀ i, i < n → rBad l i = false) ∧ f = .func (.func 34) #[.pointer (some ⟨B, 0, none⟩)] #[] ∧ j = -1 ∧ cls lc = rcN l n ∧ ChAt N W' B v lc) ∨ (∃ i : Nat, i < n ∧ rBad l i = true ∧ (∀ j, j < i → rBad l j = false) ∧ j = i)) ∧ Below N w W' := by
    rw [← hn, ← hN]
    refine hR.mono ?_
    rintro e W' ⟨h | h, hB⟩
    · obtain ⟨B, v, lc, h1, rfl, h2, h3⟩ := h
      exact ⟨_, _, rfl, .inl ⟨B, v, lc, h1, rfl, rfl, h2, h3⟩, hB⟩
    · obtain ⟨i, h1, h2, h3, rfl⟩ := h
      exact ⟨_, _, rfl, .inr ⟨i, h1, h2, h3, rfl⟩, hB⟩
  have HLE : Hid ((rcN l n).length ≤ 40 ∧ n ≤ 500) := ⟨hle, by omega⟩
  rw [hn, hN]
  clear hR hN hn hv hl hle
  go_enter Try.func16, Try.ntmps16
  go_upto_region 4 with (first
    | (go_at_call 26; refine hR2.mono ?_; clear hR2; rintro e w1 ⟨f, j, rfl, h, hB⟩)
    | fail)
  rcases h with h | h
  · obtain ⟨B, v, lc, hok, rfl, rfl, hcl, hC⟩ := h
    have hA := all_any B N v lc w1 hC (by rw [← cls_len, hcl]; exact HLE.out.1)
    rw [hcl] at hA
    have HSM : Hid (∀ (i : Nat) (x : Cg), (allL (rcN l n))[i]? = some x → x.gs.length ≤ 1000) := cg_small l B N n w1 v lc hC hcl
    have HF : Hid ((∀ i, i < n → rBad l i = false) ∧ Below N w w1 ∧ N ≤ w1.heap.size) := ⟨hok, hB, by have := hC.lt; have := hC.low; omega⟩
    clear hok hcl hC hB
    go_wp2_with (first
      | (go_at_call 27; refine hA.mono ?_; clear hA; rintro e w2 ⟨u, rfl, hcl, hB2⟩)
      | fail)
    refine bodyPost_ret (v := .tuple #[u, .int .i64 0]) (by simp [results, Try.f16, go_sem]) rfl ⟨(HP.out _ _).2 (.inl ⟨HF.out.1, u, rfl, hcl, HSM.out⟩), HF.out.2.1.trans (hB2.mono HF.out.2.2)⟩
  · obtain ⟨i, hi, hb, hok, rfl⟩ := h
    have hi2 : ¬ ((i : Int) = -1) := by omega
    have HF : Hid (_ ∧ _ ∧ _ ∧ _) := ⟨hi, hb, hok, hB⟩
    clear hi hb hok hB
    go_wp2_with fail
    refine bodyPost_ret (v := .tuple #[.slice none 0 0, .int .i64 7]) (by simp [results, Try.f16, go_sem]) rfl ⟨(HP.out _ _).2 (.inr ⟨i, HF.out.1, HF.out.2.1, HF.out.2.2.1, rfl⟩), HF.out.2.2.2⟩
end Go.Proofs.Ytcehmaegnfelhaa
