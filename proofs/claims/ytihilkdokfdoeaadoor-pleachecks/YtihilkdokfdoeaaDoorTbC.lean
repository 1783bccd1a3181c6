/- The search for a key, walked. -/
import Derived.Test.YtihilkdokfdoeaaDoorTbB
namespace Go.Proofs.YtihilkdokfdoeaaDoor
open Go.RowKit
attribute [local go_sem ↓] Go.wp_at_zero Go.wp_at_succ

theorem before {l : List Rw} (hs : l.Pairwise fun a b => lt a.1 b.1 = true) {k : List UInt8} {i j : Nat} {r q : Rw} (hi : l[i]? = some r) (hj : l[j]? = some q) (hij : i ≤ j) (h : lt q.1 k = true) : lt r.1 k = true := by
  rcases Nat.lt_or_ge i j with h1 | h1
  · obtain ⟨a, e1⟩ := List.getElem?_eq_some_iff.1 hi
    obtain ⟨b, e2⟩ := List.getElem?_eq_some_iff.1 hj
    have := List.pairwise_iff_getElem.1 hs i j a b h1
    rw [e1, e2] at this
    exact lt_trans this h
  · have : i = j := by omega
    subst this
    rw [hi] at hj
    cases hj
    exact h

set_option maxRecDepth 20000 in
set_option maxHeartbeats 2000000 in
theorem Search_any {w : World} {v : Value} {l : List Rw} (h : Rs w v l) (hs : l.Pairwise fun a b => lt a.1 b.1 = true) (hl : l.length ≤ 16) (k : List UInt8) :
    Calls Tryd.prog 87 #[v, .string (bs k), .func (.func 88) #[] #[]] w fun e W' => e = .returned (.tuple #[.int .i64 (plc l k), .bool (val? l k).isSome]) ∧ Below w.heap.size w W' := by
  obtain ⟨a, c, rfl, hc⟩ := h.slice
  have hl' : (l.length : Int) ≤ 16 := by omega
  obtain ⟨P, hP⟩ : ∃ P, plc l k = P := ⟨_, rfl⟩
  obtain ⟨b, hb⟩ : ∃ b, (val? l k).isSome = b := ⟨_, rfl⟩
  have HP : Hid (_) := hP
  have HV : Hid (_) := val_some hs k
  rw [hP, hb] at HV
  rw [hP, hb]
  clear hP hb
  go_enter Tryd.func87, Tryd.ntmps87
  go_wp2
  go_loopw [9, 10] (fun vi vj wr => ∃ i j : Nat, vi = .int .i64 i ∧ vj = .int .i64 j ∧ i ≤ j ∧ j ≤ l.length ∧ (∀ m r, l[m]? = some r → m < i → lt r.1 k = true) ∧ (∀ m r, l[m]? = some r → j ≤ m → lt r.1 k = false) ∧ Below w.heap.size w wr)
    (fun vi vj _ => (intOf vj - intOf vi).toNat)
  case atStart => exact ⟨0, l.length, rfl, rfl, Nat.zero_le _, Nat.le_refl _, fun m r _ hm => by omega, fun m r hm hlt => (by have := (List.getElem?_eq_some_iff.1 hm).1; omega), Below.refl _ _⟩
  case round =>
    obtain ⟨i, j, rfl, rfl, hij, hj, h1, h2, hB⟩ := hrel
    have H1 : Hid (_) := h1
    have H2 : Hid (_) := h2
    clear h1 h2
    have hi16 : (i : Int) ≤ 16 := by omega
    have hj16 : (j : Int) ≤ 16 := by omega
    by_cases hlt : i < j
    · go_upto_region 5 with fail
      obtain ⟨m, hm⟩ : ∃ m : Nat, ((i : Int) + (j : Int)) / 2 = (m : Int) := ⟨(i + j) / 2, by omega⟩
      have him : i ≤ m := by omega
      have hmj : m < j := by omega
      rw [hm]
      clear hm
      obtain ⟨r, hr⟩ : ∃ r, l[m]? = some r := ⟨_, List.getElem?_eq_getElem (by omega)⟩
      have hwB := h.on hB
      obtain ⟨g, rfl, hg, c1, c2⟩ := hwB.at hr
      have hml : m < l.length := by omega
      have hcmp := cmp_neg r.1 k
      have HB : Hid (_) := hB
      have hL := less_any r.1 r.2 k wr
      have HR : Hid (l[m]? = some r) := hr
      clear hwB hB hr
      cases hb : lt r.1 k
      · rw [hb] at hcmp
        go_wp2_with (go_at_call 88; refine hL.mono ?_; rintro e w1 ⟨rfl, hb1⟩)
        go_roundw
        case rel => exact ⟨i, m, rfl, rfl, him, by omega, H1.out, (fun n q hq hn => by
            cases e : lt q.1 k
            · rfl
            · have := before hs HR.out hq hn e
              rw [hb] at this
              cases this), HB.out.trans (hb1.mono HB.out.size)⟩
        case measure => simp [intOf]; omega
      · rw [hb] at hcmp
        go_wp2_with (go_at_call 88; refine hL.mono ?_; rintro e w1 ⟨rfl, hb1⟩)
        go_roundw
        case rel => exact ⟨m + 1, j, by go_num, rfl, by omega, hj, (fun n q hq hn => before hs hq HR.out (by omega) hb), H2.out, HB.out.trans (hb1.mono HB.out.size)⟩
        case measure => simp [intOf]; omega
    · have e : i = j := by omega
      subst e
      have hp : P = i := HP.out.symm.trans (plc_at hj H1.out (fun r hr => H2.out i r hr (Nat.le_refl _)))
      subst hp
      have hv := HV.out
      clear HV HP H1 H2
      by_cases hi : P < l.length
      · obtain ⟨r, hr⟩ : ∃ r, l[P]? = some r := ⟨_, List.getElem?_eq_getElem hi⟩
        rw [hr] at hv
        have hwB := h.on hB
        obtain ⟨g, rfl, hg, c1, c2⟩ := hwB.at hr
        have hcmp := cmp_zero r.1 k
        have HB : Hid (_) := hB
        have hL := less_any r.1 r.2 k wr
        simp only at hv
        rw [← hv] at hcmp
        clear hwB hB hr hv
        cases b
        all_goals
          go_wp2_with (go_at_call 88; refine hL.mono ?_; rintro e w1 ⟨rfl, hb1⟩)
          go_ret2
          exact ⟨rfl, HB.out.trans (hb1.mono HB.out.size)⟩
      · rw [List.getElem?_eq_none (by omega)] at hv
        simp only at hv
        subst hv
        go_wp2
        go_ret2
        exact ⟨rfl, hB⟩
end Go.Proofs.YtihilkdokfdoeaaDoor
