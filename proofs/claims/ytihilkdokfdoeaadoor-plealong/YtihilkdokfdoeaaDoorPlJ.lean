/- The law PleaLong, walked. -/
import Derived.Test.YtihilkdokfdoeaaDoorPlI
import Derived.Test.YtihilkdokfdoeaaDoorPlB
import Derived.Test.YtihilkdokfdoeaaDoorPlC
namespace Go.Proofs.YtihilkdokfdoeaaDoor
open Go.RowKit Go.Maps
attribute [local go_sem ↓] Go.wp_at_zero Go.wp_at_succ

theorem opnF_more (calls : List Cl) : ∀ {n m : Nat}, n ≤ m → ∃ t, opnF calls m = opnF calls n ++ t
  | n, 0, h => ⟨[], by rw [show n = 0 by omega, List.append_nil]⟩
  | n, m + 1, h => by
    by_cases e : n = m + 1
    · subst e; exact ⟨[], by simp⟩
    · obtain ⟨t, ht⟩ := opnF_more calls (show n ≤ m by omega)
      cases hm : calls[m]? with
      | none => exact ⟨t, by rw [opnF, hm, ← ht]; simp⟩
      | some c =>
        by_cases h2 : c.tt = -1
        · exact ⟨t ++ [m], by rw [opnF_yes hm h2, ht, List.append_assoc]⟩
        · exact ⟨t, by rw [opnF_no hm h2, ht]⟩
theorem opnF_here {calls : List Cl} {n : Nat} {c : Cl} (h : calls[n]? = some c) (ht : c.tt = -1) : (opnF calls calls.length)[(opnF calls n).length]? = some n ∧ (opnF calls n).length < (opnF calls calls.length).length := by
  have hn : n < calls.length := (List.getElem?_eq_some_iff.1 h).1
  obtain ⟨t, ht2⟩ := opnF_more calls (show n + 1 ≤ calls.length by omega)
  rw [opnF_yes h ht] at ht2
  rw [ht2]
  simp
set_option maxRecDepth 20000 in
set_option maxHeartbeats 2000000 in
theorem long_any (calls : List Cl) (vc : Value) (now : Int) (w : World) (hc : SlF ccs 10 w vc calls) (hk : ∀ c ∈ calls, c.op.k.length ≤ 140737488351232) (hlb : calls.length ≤ 3000000000000) (he : EnvK w) : Calls Tryd.prog 5 #[vc, .int .i64 now] w fun e W' => e = .returned (.bool true) ∧ Below w.heap.size w W' := by
  have hLg := large_any calls vc none 0 0 w hc hk hlb
  obtain ⟨va, vcap, rfl⟩ := hc.slice
  obtain ⟨N, hN⟩ : ∃ N, w.heap.size = N := ⟨_, rfl⟩
  have HP : Hid (∀ W, Below N w W → Calls Tryd.prog 8 #[] W fun e W' => e = .returned (.bool true) ∧ Below N w W') := fun W hW => (parts_any W (he.below hW (by have := he.size; omega))).mono fun e W' hh => ⟨hh.1, hW.trans (hh.2.mono (by have := hW.size; omega))⟩
  have HN : Hid (w.heap.size = N) := hN
  rw [hN] at hLg
  cases hb : lgB calls 0 with
  | true =>
    rw [hb] at hLg
    clear hc hk he hN hb hlb
    go_enter Tryd.func5, Tryd.ntmps5
    go_upto_region 2 with (go_at_call 7; refine hLg.mono ?_; clear hLg; rintro e w1 ⟨rfl, hb1⟩)
    have hP := HP.out w1 hb1
    clear hb1
    go_wp2_with (go_at_call 8; refine hP.mono ?_; clear hP; rintro e w2 ⟨rfl, hb2⟩)
    go_ret
    exact ⟨rfl, by rw [HN.out]; exact hb2⟩
  | false =>
    rw [hb] at hLg
    have hl := (lgB_no hb).1
    obtain ⟨G, hG⟩ : ∃ G, lgC now calls = G := ⟨_, rfl⟩
    obtain ⟨G1, G2⟩ := G
    obtain ⟨A, hA⟩ : ∃ A, opnF calls calls.length = A := ⟨_, rfl⟩
    have HC : Hid (∀ W, Below N w W → SlF ccs 10 W (.slice va calls.length vcap) calls) := fun W hW => hc.on hW (by omega)
    have H1 : Hid (∀ W, Below N w W → Calls Tryd.prog 17 #[.slice va calls.length vcap, .int .i64 now] W fun e W' => e = .returned (.tuple #[.int .i64 G1, .int .i64 G2]) ∧ Below N w W') := fun W hW => (Longest_any calls _ now W (hc.on hW (by omega)) (by omega)).mono fun e W' hh => by rw [hG] at hh; exact ⟨hh.1, hW.trans (hh.2.mono (by have := hW.size; omega))⟩
    have H2 : Hid (∀ W, Below N w W → Calls Tryd.prog 11 #[.slice va calls.length vcap] W fun e W' => ∃ u, e = .returned u ∧ SlF ccs 10 W' u calls ∧ Below N w W') := fun W hW => (calls_any calls _ W (hc.on hW (by omega)) (by omega)).mono fun e W' hh => by
      obtain ⟨u, h1, h2, h3⟩ := hh
      exact ⟨u, h1, h2, hW.trans (h3.mono (by have := hW.size; omega))⟩
    have H3 : Hid (∀ W u, Below N w W → SlF ccs 10 W u calls → Calls Tryd.prog 18 #[u, .int .i64 now] W fun e W' => e = .returned (.tuple #[.int .i64 G1, .int .i64 G2]) ∧ Below N w W') := fun W u hW hu => (rLongest_any calls _ now W hu (by omega)).mono fun e W' hh => by rw [hG] at hh; exact ⟨hh.1, hW.trans (hh.2.mono (by have := hW.size; omega))⟩
    have H4 : Hid (∀ W, Below N w W → Calls Tryd.prog 19 #[.slice va calls.length vcap] W fun e W' => ∃ a c, e = .returned (.slice a A.length c) ∧ SlF ncs 1 W' (.slice a A.length c) A ∧ Below N w W') := fun W hW => (Open_any calls _ W (hc.on hW (by omega)) (by omega)).mono fun e W' hh => by
      obtain ⟨u, h1, h2, h3⟩ := hh
      rw [hA] at h2
      obtain ⟨a, c, rfl⟩ := h2.slice
      exact ⟨a, c, h1, h2, hW.trans (h3.mono (by have := hW.size; omega))⟩
    have HA : Hid ((∀ n c, calls[n]? = some c → c.tt = -1 → A[(opnF calls n).length]? = some n ∧ (opnF calls n).length < A.length) ∧ (opnF calls calls.length).length = A.length) := ⟨fun n c h1 h2 => by rw [← hA]; exact opnF_here h1 h2, by rw [hA]⟩
    have HLN : Hid (calls.length ≤ 80) := hl
    clear hc hk he hN hb hl hG hA hlb
    go_enter Tryd.func5, Tryd.ntmps5
    go_upto_region 3 with (go_at_call 7; refine hLg.mono ?_; clear hLg; rintro e w1 ⟨rfl, hb1⟩)
    have h1 := H1.out w1 hb1
    go_upto_region 4 with (go_at_call 17; refine h1.mono ?_; clear h1; rintro e w2 ⟨rfl, hb2⟩)
    have h2 := H2.out w2 hb2
    go_upto_region 5 with (first
      | (go_at_call 11; refine h2.mono ?_; clear h2; rintro e w3 ⟨u, rfl, hu, hb3⟩; have h3 := H3.out w3 u hb3 hu)
      | (go_at_call 18; refine h3.mono ?_; clear h3; rintro e w4 ⟨rfl, hb4⟩))
    have h4 := H4.out w4 hb4
    go_upto_region 6 with (go_at_call 19; refine h4.mono ?_; clear h4; rintro e w5 ⟨oa, oc, rfl, ho, hb5⟩)
    have HO : Hid (SlF ncs 1 w5 (.slice oa A.length oc) A ∧ Below N w w5) := ⟨ho, hb5⟩
    clear hb1 hb2 hu hb3 hb4 ho hb5 H1 H2 H3 H4
    go_wp2_with fail
    go_loopg [10, 32] calls.length (fun gk x j wr => ∃ n : Nat, n + gk = calls.length ∧ j = .int .i64 n ∧ x = .int .i64 ((opnF calls n).length : Nat) ∧ wr = w5)
    case atStart => exact ⟨0, by omega, rfl, rfl, rfl⟩
    case round =>
      obtain ⟨n, hnn, rfl, rfl, rfl⟩ := hrel
      by_cases hn1 : n = calls.length
      · subst hn1
        rw [HA.out.2]
        have hP := HP.out wr HO.out.2
        clear HP HA HC HO
        go_wp2_with (go_at_call 8; refine hP.mono ?_; clear hP; rintro e w6 ⟨rfl, hb6⟩)
        go_ret
        exact ⟨rfl, by rw [HN.out]; exact hb6⟩
      · have hn2 : n < calls.length := by omega
        obtain ⟨c, ho⟩ : ∃ c, calls[n]? = some c := ⟨_, List.getElem?_eq_getElem hn2⟩
        have hh1 := HA.out.1 n c ho
        have hno := @opnF_no calls n c ho
        have hye := @opnF_yes calls n c ho
        obtain ⟨g, e', hg', -, y⟩ := (HC.out _ HO.out.2).at ho
        subst hg'
        obtain ⟨cl, no, ⟨kind, k, v, od⟩, fr, tt, T, E⟩ := c
        have y7 : wr.cell? ⟨g, e' + n * 10 + 7, none⟩ = some (.int .i64 tt) := y 7 _ rfl
        have hnb : n ≤ 100000 := by have := HLN.out; omega
        have d0 : (0 : Int) ≤ (n : Int) := by omega
        have d1 : (n : Int) < (calls.length : Int) := by omega
        by_cases h1 : tt = -1
        · obtain ⟨hm1, hm2⟩ := hh1 h1
          have hx : (opnF calls (n + 1)).length = (opnF calls n).length + 1 := by rw [hye h1]; simp
          have hml : (opnF calls n).length ≤ n := opnF_len calls n
          obtain ⟨m, hm⟩ : ∃ m, (opnF calls n).length = m := ⟨_, rfl⟩
          rw [hm] at hm1 hm2 hx hml ⊢
          obtain ⟨og, oe, hog, -, oy⟩ := HO.out.1.at hm1
          subst hog
          have k0 : wr.cell? ⟨og, oe + m * 1, none⟩ = some (.int .i64 (n : Int)) := oy 0 _ rfl
          have k1 : wr.cell? ⟨og, oe + m, none⟩ = some (.int .i64 (n : Int)) := by rw [Nat.mul_one] at k0; exact k0
          have m0 : (0 : Int) ≤ (m : Int) := by omega
          have m1 : (m : Int) < (A.length : Int) := by omega
          have m2 : ¬ (A.length : Int) ≤ (m : Int) := by omega
          have HX : Hid ((opnF calls (n + 1)).length = m + 1) := hx
          have hmk : m ≤ 100000000 := by have := HLN.out; omega
          subst h1
          clear hh1 hno hye y ho hm1 hm2 hx hm oy
          go_wp2
          go_roundg (calls.length - (n + 1))
          case measure => omega
          case rel => exact ⟨n + 1, by omega, by go_num, by rw [HX.out]; go_num, rfl⟩
        · have o1 : (tt == -1) = false := by simpa using h1
          have HX : Hid (opnF calls (n + 1) = opnF calls n) := hno h1
          clear hh1 hno hye y ho h1
          go_wp2
          go_roundg (calls.length - (n + 1))
          case measure => omega
          case rel => exact ⟨n + 1, by omega, by go_num, by rw [HX.out], rfl⟩
end Go.Proofs.YtihilkdokfdoeaaDoor
