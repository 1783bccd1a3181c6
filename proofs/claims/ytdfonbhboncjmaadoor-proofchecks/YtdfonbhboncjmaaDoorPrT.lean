/- The law ProofReplays, walked. -/
import Derived.Test.YtdfonbhboncjmaaDoorPrS
namespace Go.Proofs.YtdfonbhboncjmaaDoor
open Go.RowKit Go.Maps
attribute [local go_sem ↓] Go.wp_at_zero Go.wp_at_succ

theorem acs_len (a : An) : (acs a).length = 2 := rfl
theorem ocs_len (o : Opr) : (ocs o).length = 4 := rfl
set_option maxRecDepth 20000 in
set_option maxHeartbeats 1500000 in
theorem replays_any (l : List Opr) (v : Value) (w : World) (hv : SlF ocs 4 w v l) (hk : ∀ o ∈ l, o.k.length ≤ 140737488351232) (he : EnvK w) : Calls Tryd.prog 4 #[v] w fun e W' => e = .returned (.bool true) ∧ Below w.heap.size w W' := by
  obtain ⟨va, vc, rfl⟩ := hv.slice
  by_cases hlen : 300 < l.length
  · have d1 : (300 : Int) < (l.length : Int) := by omega
    have hR := reads_any w he
    clear hlen hv hk he
    go_enter Tryd.func4, Tryd.ntmps4
    go_wp2_with (go_at_call 7; refine hR.mono ?_; clear hR; rintro e w1 ⟨rfl, hb1⟩)
    go_ret
    exact ⟨rfl, hb1⟩
  have d1 : ¬ (300 : Int) < (l.length : Int) := by omega
  have hl : l.length ≤ 1000000 := by omega
  obtain ⟨N, hN⟩ : ∃ N, w.heap.size = N := ⟨_, rfl⟩
  have h1 := Replay_any l _ w hv hl hk he
  have HO : Hid (∀ W, Below N w W → Calls Tryd.prog 14 #[.slice va l.length vc] W fun e W' => ∃ u, e = .returned u ∧ SlF ocs 4 W' u l ∧ Below W.heap.size W W') := fun W hW => (ops_any l _ W (hv.on hW (by omega)) hl).mono fun e W' hh => by
    obtain ⟨u, h1, h2, h3⟩ := hh
    exact ⟨u, h1, SlF.of_owns ocs_len h2, h3⟩
  have HR : Hid (∀ W u, SlF ocs 4 W u l → Calls Tryd.prog 13 #[u] W fun e W' => ∃ u', e = .returned u' ∧ SlF acs 2 W' u' (repl (fun _ => []) l) ∧ Below W.heap.size W W') := fun W u hu => (rReplay_any l u W hu hl hk).mono fun e W' hh => by
    obtain ⟨u', h1, h2, h3⟩ := hh
    rw [alike_repl alike_nil] at h2
    exact ⟨u', h1, SlF.of_owns acs_len (by rw [repl_len]; exact h2), h3⟩
  have HS : Hid (∀ W, Below N w W → Calls Tryd.prog 7 #[] W fun e W' => e = .returned (.bool true) ∧ Below W.heap.size W W') := fun W hW => reads_any W (he.below hW (by have := he.size; omega))
  have h1' : Calls Tryd.prog 12 #[.slice va l.length vc] w fun e W' => ∃ u, e = .returned u ∧ SlF acs 2 W' u (repl (fun _ => []) l) ∧ Below N w W' := h1.mono fun e W' hh => by
    obtain ⟨u', g1, g2, g3⟩ := hh
    exact ⟨u', g1, SlF.of_owns acs_len (by rw [repl_len]; exact g2), by rw [← hN]; exact g3⟩
  have hAl := repl_len (fun _ => []) l
  obtain ⟨A, hA⟩ : ∃ A, repl (fun _ => []) l = A := ⟨_, rfl⟩
  rw [hA] at h1' HR hAl
  have HAl : Hid (A.length = l.length) := hAl
  have HN : Hid (w.heap.size = N) := hN
  clear hAl h1 hv hk he hA hN hlen
  go_enter Tryd.func4, Tryd.ntmps4
  go_upto_region 4 with (go_at_call 12; refine h1'.mono ?_; clear h1'; rintro e w1 ⟨u1, rfl, hu1, hb1⟩)
  have hs1 : N ≤ w1.heap.size := by have := hb1.size; have := HN.out; omega
  go_upto_region 5 with (first
    | (go_at_call 14; refine (HO.out _ hb1).mono ?_; rintro e w2 ⟨u2, rfl, hu2, hb2⟩)
    | (go_at_call 13; refine (HR.out _ _ hu2).mono ?_; rintro e w3 ⟨u3, rfl, hu3, hb3⟩))
  have hb4 : Below N w w3 := hb1.trans ((hb2.mono hs1).trans (hb3.mono (by have := hb2.size; omega)))
  have hu4 := (hu1.on hb2 (Nat.le_refl _)).on hb3 (Nat.le_refl _)
  obtain ⟨a1, c1, rfl⟩ := hu1.slice
  obtain ⟨a3, c3, rfl⟩ := hu3.slice
  have H3 : Hid (SlF acs 2 w3 (.slice a1 A.length c1) A ∧ SlF acs 2 w3 (.slice a3 A.length c3) A ∧ Below N w w3 ∧ N ≤ w3.heap.size) := ⟨hu4, hu3, hb4, by have := hb4.size; have := HN.out; omega⟩
  clear hu1 hu2 hu3 hu4 hb1 hb2 hb3 hb4 HO HR hs1
  go_wp2_with fail
  go_loopg [22] A.length (fun gk j wr => ∃ n : Nat, n + gk = A.length ∧ j = .int .i64 n ∧ Below w3.heap.size w3 wr)
  case atStart => exact ⟨0, by omega, rfl, Below.refl _ _⟩
  case round =>
    obtain ⟨n, hnn, rfl, hB⟩ := hrel
    by_cases hn1 : n = A.length
    · subst hn1
      have hb := H3.out.2.2.1.trans (hB.mono H3.out.2.2.2)
      have hR := HS.out wr hb
      have HB : Hid (_) := hb
      clear hB H3 hb
      go_wp2_with (go_at_call 7; refine hR.mono ?_; clear hR; rintro e w5 ⟨rfl, hb5⟩)
      go_ret
      exact ⟨rfl, by rw [HN.out]; exact HB.out.trans (hb5.mono (by have := HB.out.size; have := HN.out; omega))⟩
    have hn2 : n < A.length := by omega
    obtain ⟨a, ha⟩ : ∃ a, A[n]? = some a := ⟨_, List.getElem?_eq_getElem hn2⟩
    obtain ⟨g, e', hg', -, y⟩ := (H3.out.1.on hB (Nat.le_refl _)).at ha
    obtain ⟨g2, e2, hg2, -, z⟩ := (H3.out.2.1.on hB (Nat.le_refl _)).at ha
    have hY : ∀ W, Below wr.heap.size wr W → W.cell? ⟨g, e' + n * 2, none⟩ = some (.int .i64 a.2) ∧ W.cell? ⟨g, e' + n * 2 + 1, none⟩ = some (.string (bs a.1)) ∧ W.cell? ⟨g2, e2 + n * 2, none⟩ = some (.int .i64 a.2) ∧ W.cell? ⟨g2, e2 + n * 2 + 1, none⟩ = some (.string (bs a.1)) := fun W hW => by
      obtain ⟨g', e'', hgg, -, y'⟩ := ((H3.out.1.on hB (Nat.le_refl _)).on hW (Nat.le_refl _)).at ha
      obtain ⟨g2', e2'', hgg2, -, z'⟩ := ((H3.out.2.1.on hB (Nat.le_refl _)).on hW (Nat.le_refl _)).at ha
      rw [hg'] at hgg
      rw [hg2] at hgg2
      cases hgg
      cases hgg2
      exact ⟨y' 0 _ rfl, y' 1 _ rfl, z' 0 _ rfl, z' 1 _ rfl⟩
    subst hg'
    subst hg2
    have han := fun W => answer_any a W
    obtain ⟨T, E⟩ := a
    have HA : Hid (∀ W, Below wr.heap.size wr W → Calls Tryd.prog 15 #[.agg #[.int .i64 E, .string (bs T)]] W fun e W' => e = .returned (.agg #[.int .i64 E, .string (bs T)]) ∧ Below wr.heap.size wr W' ∧ W'.cell? ⟨g, e' + n * 2, none⟩ = some (.int .i64 E) ∧ W'.cell? ⟨g, e' + n * 2 + 1, none⟩ = some (.string (bs T)) ∧ W'.cell? ⟨g2, e2 + n * 2, none⟩ = some (.int .i64 E) ∧ W'.cell? ⟨g2, e2 + n * 2 + 1, none⟩ = some (.string (bs T))) := fun W hW => (han W).mono fun e W' hh => by
      have hb := hW.trans (hh.2.mono hW.size)
      exact ⟨hh.1, hb, hY W' hb⟩
    obtain ⟨x0, x1, x2, x3⟩ := hY wr (Below.refl _ _)
    have d2 : (0 : Int) ≤ (n : Int) := by omega
    have d3 : (n : Int) < (A.length : Int) := by omega
    have HB : Hid (_) := hB
    have hl4 : A.length ≤ 1000000 := by have := HAl.out; omega
    clear y z hY han ha hB
    go_upto_region 10 with fail
    go_region_held3 (fun W => W.cell? ⟨g, e' + n * 2, none⟩ = some (.int .i64 E) ∧ W.cell? ⟨g, e' + n * 2 + 1, none⟩ = some (.string (bs T)) ∧ W.cell? ⟨g2, e2 + n * 2, none⟩ = some (.int .i64 E) ∧ W.cell? ⟨g2, e2 + n * 2 + 1, none⟩ = some (.string (bs T))) (go_keep)
      (first | (go_at_call 15; refine (HA.out _ (by first | exact Below.refl _ _ | exact below_drew (Below.refl _ _) | exact below_drewN (Below.refl _ _) _)).mono ?_; rintro e w4 ⟨rfl, hb4, r0, r1, r2, r3⟩))
    all_goals
      have HB2 : Hid (Below w3.heap.size w3 w4) := HB.out.trans (hb4.mono HB.out.size)
      clear r0 r1 r2 r3 x0 x1 x2 x3 HA hb4
      go_wp2
      go_roundg (A.length - (n + 1))
      case measure => omega
      case rel => exact ⟨n + 1, by omega, by go_num, HB2.out⟩
end Go.Proofs.YtdfonbhboncjmaaDoor
