/- ReeveMoves: large, configs, walked. -/
import Derived.Test.YtcehmaegnfelhaaRvK
namespace Go.Proofs.Ytcehmaegnfelhaa
open Go.RowKit
attribute [local go_sem ↓] Go.wp_at_zero Go.wp_at_succ

set_option maxRecDepth 20000 in
set_option maxHeartbeats 1000000 in
theorem large_any (l : List Cg) (v : Value) (w : World) (hv : Cl w v l) (hl : l.length ≤ 9223372036854775807) : Calls Try.prog 6 #[v] w fun e W' => (∃ b, e = .returned (.bool b) ∧ (b = false → l.length ≤ 60 ∧ ∀ (i : Nat) x, l[i]? = some x → x.gs.length ≤ 50)) ∧ Below w.heap.size w W' := by
  obtain ⟨va, vc, rfl⟩ := hv.slice
  obtain ⟨N, hN⟩ : ∃ N, w.heap.size = N := ⟨_, rfl⟩
  rw [hN]
  have HN : Hid (w.heap.size = N) := hN
  have HV : Hid (∀ W, Below N w W → Cl W (.slice va l.length vc) l) := fun W hW => hv.on hW (by omega)
  have HL : Hid (l.length ≤ 9223372036854775807) := hl
  clear hv hN hl
  go_enter Try.func6, Try.ntmps6
  go_wp2_with fail
  go_loopg [7] l.length (fun gk j wr => ∃ (n : Nat), n + gk = l.length ∧ j = .int .i64 n ∧ (∀ (i : Nat) x, i < n → l[i]? = some x → x.gs.length ≤ 50) ∧ Below N w wr)
  case atStart => exact ⟨0, by omega, rfl, fun i x hi => by omega, by rw [← HN.out]; exact Below.refl _ _⟩
  case round =>
    obtain ⟨n, hnn, rfl, hok, hB⟩ := hrel
    by_cases hn1 : n = l.length
    · subst hn1
      have HF : Hid (_ ∧ _) := ⟨hok, hB⟩
      clear hok hB
      go_wp2_with fail
      go_ret
      refine ⟨⟨_, rfl, fun h => ⟨?_, fun i x hx => HF.out.1 i x (List.getElem?_eq_some_iff.1 hx).1 hx⟩⟩, HF.out.2⟩
      simp at h; omega
    · have hn2 : n < l.length := by omega
      obtain ⟨x, hx⟩ : ∃ x, l[n]? = some x := ⟨_, List.getElem?_eq_getElem hn2⟩
      obtain ⟨g0, e', gv, hg', hgb, hil, y⟩ := (HV.out _ hB).at hx
      subst hg'
      obtain ⟨pa, pc, rfl⟩ := hil.slice
      obtain ⟨num, gs, o0, o1, o2, o3⟩ := x
      have y0 : wr.cell? ⟨g0, e' + n * 6, none⟩ = some (.int .i64 num) := y 0 _ rfl
      have y1 : wr.cell? ⟨g0, e' + n * 6 + 1, none⟩ = some (.slice pa gs.length pc) := y 1 _ rfl
      have y2 : wr.cell? ⟨g0, e' + n * 6 + 2, none⟩ = some (.int .i64 o0) := y 2 _ rfl
      have y3 : wr.cell? ⟨g0, e' + n * 6 + 3, none⟩ = some (.int .i64 o1) := y 3 _ rfl
      have y4 : wr.cell? ⟨g0, e' + n * 6 + 4, none⟩ = some (.int .i64 o2) := y 4 _ rfl
      have y5 : wr.cell? ⟨g0, e' + n * 6 + 5, none⟩ = some (.int .i64 o3) := y 5 _ rfl
      have d0 : (0 : Int) ≤ (n : Int) := by omega
      have d1 : (n : Int) < (l.length : Int) := by omega
      have hnb : n ≤ 9223372036854775806 := by have := HL.out; omega
      have hbA := (Below.refl wr.heap.size wr).alloc (Nat.le_refl _) (.cells (cf num (.slice pa gs.length pc) o0 o1 o2 o3) 50)
      have hNW : N ≤ wr.heap.size := by have := hB.size; have := HN.out; omega
      have HF : Hid (Below N w (wr.alloc (.cells (cf num (.slice pa gs.length pc) o0 o1 o2 o3) 50)) ∧ n + gk = l.length ∧ n < l.length) := ⟨hB.trans (hbA.mono hNW), hnn, hn2⟩
      have HOK : Hid (∀ (i : Nat) x, i < n → l[i]? = some x → x.gs.length ≤ 50) := hok
      have HX : Hid (l[n]? = some (⟨num, gs, o0, o1, o2, o3⟩ : Cg)) := hx
      clear hnn hn1 hn2 hx hgb hil y hbA hNW hB hok
      by_cases h5 : 50 < gs.length
      · have h6 : (50 : Int) < (gs.length : Int) := by omega
        go_wp2_with fail
        go_ret
        exact ⟨⟨_, rfl, fun h => by cases h⟩, HF.out.1⟩
      · have h6 : ¬ (50 : Int) < (gs.length : Int) := by omega
        go_wp2_with fail
        go_roundg (l.length - (n + 1))
        case measure => have := HF.out; omega
        case rel =>
          have h9 := HF.out
          refine ⟨n + 1, by omega, by go_num, fun i x hi hx => ?_, h9.1⟩
          by_cases hin : i < n
          · exact HOK.out i x hin hx
          · have : i = n := by omega
            subst this
            rw [HX.out] at hx; injection hx with hx; subst hx
            show gs.length ≤ 50
            omega
end Go.Proofs.Ytcehmaegnfelhaa
