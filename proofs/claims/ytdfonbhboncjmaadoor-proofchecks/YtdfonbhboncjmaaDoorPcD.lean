/- The document's rule 1 is the program's, plain. -/
import Derived.Test.YtdfonbhboncjmaaDoorPcC
namespace Go.Proofs.YtdfonbhboncjmaaDoor
open Go.RowKit Go.Maps

theorem fstB_same {P Q : Nat → Bool} {n : Nat} (h : ∀ i, i < n → (∀ j, j < i → P j = false) → Q i = P i) : fstB Q n = fstB P n := by
  rcases Classical.em (0 ≤ fstB P n) with h0 | h0
  · obtain ⟨i, e, hi, hP⟩ := fstB_some h0
    have hlt : ∀ j, j < i → P j = false := fun j hj => by
      cases ej : P j with
      | false => rfl
      | true =>
        exfalso
        obtain ⟨m, hm, h1, h2⟩ : ∃ m, m ≤ j ∧ P m = true ∧ ∀ k, k < m → P k = false := by
          clear hj e
          induction j using Nat.strongRecOn with
          | ind j ih =>
            by_cases hex : ∃ k, k < j ∧ P k = true
            · obtain ⟨k, hk, hkP⟩ := hex
              obtain ⟨m, hm, r⟩ := ih k hk hkP
              exact ⟨m, by omega, r⟩
            · refine ⟨j, Nat.le_refl _, ej, fun k hk => ?_⟩
              cases ek : P k with
              | false => rfl
              | true => exact absurd ⟨k, hk, ek⟩ hex
        have := fstB_at (n := n) (by omega) h1 h2
        omega
    rw [e]
    exact fstB_at hi (by rw [h i hi hlt]; exact hP) fun j hj => by rw [h j (by omega) fun k hk => hlt k (by omega)]; exact hlt j hj
  · have hn := fstB_neg (P := P) (n := n) (by omega)
    rw [fstB_none hn, fstB_none fun j hj => by rw [h j hj fun k hk => hn k (by omega)]; exact hn j hj]
section
variable {calls : List Cl}
theorem good_at {i : Nat} {c : Cl} (hc : calls[i]? = some c) (h : P1 calls i = false) : okCall c = true ∧ behind c (lastC calls c.cl i) = true := by
  rw [P1_at hc, Bool.or_eq_false_iff, Bool.not_eq_false', Bool.not_eq_false'] at h
  exact h
theorem ok_to {c : Cl} (h : okCall c = true) : 1 ≤ c.no ∧ 0 ≤ c.fr ∧ (c.tt ≠ -1 → c.fr ≤ c.tt) := by
  simp only [okCall, Bool.and_eq_true, decide_eq_true_eq] at h
  obtain ⟨⟨⟨⟨⟨⟨_, _⟩, h3⟩, _⟩, _⟩, h6⟩, h7⟩ := h
  refine ⟨h3, h6, fun ht => ?_⟩
  rw [if_neg ht] at h7
  exact of_decide_eq_true h7
theorem beh_iff {c b : Cl} : behind c b = true ↔ b.no < c.no ∧ b.tt ≠ -1 ∧ b.tt ≤ c.fr := by
  simp only [behind, ansd, Bool.and_eq_true, decide_eq_true_eq, and_assoc]
theorem chain1 : ∀ n, n ≤ calls.length → (∀ j, j < n → P1 calls j = false) → ∀ k x, k < n → calls[k]? = some x → okCall (lastC calls x.cl n) = true ∧ (x = lastC calls x.cl n ∨ (x.no < (lastC calls x.cl n).no ∧ x.tt ≠ -1 ∧ x.tt ≤ (lastC calls x.cl n).fr))
  | 0, _, _, k, x, hk, _ => by omega
  | n + 1, hn, hP, k, x, hk, hx => by
    obtain ⟨y, hy⟩ : ∃ y, calls[n]? = some y := ⟨_, List.getElem?_eq_getElem (by omega)⟩
    obtain ⟨h1, h2⟩ := good_at hy (hP n (by omega))
    rw [lastC_succ hy]
    by_cases e : y.cl = x.cl
    · rw [if_pos e]
      refine ⟨h1, ?_⟩
      by_cases ek : k = n
      · subst ek
        rw [hy] at hx
        injection hx with hx
        exact .inl hx.symm
      · obtain ⟨g1, g2⟩ := chain1 n (by omega) (fun j hj => hP j (by omega)) k x (by omega) hx
        rw [e] at h2
        obtain ⟨b1, b2, b3⟩ := beh_iff.1 h2
        right
        rcases g2 with g2 | ⟨g2, g3, g4⟩
        · rw [← g2] at b1 b2 b3
          exact ⟨b1, b2, b3⟩
        · have := (ok_to g1).2.2 b2
          exact ⟨by omega, g3, by omega⟩
    · rw [if_neg e]
      have ek : k ≠ n := fun ek => by
        subst ek
        rw [hy] at hx
        injection hx with hx
        exact e (by rw [hx])
      exact chain1 n (by omega) (fun j hj => hP j (by omega)) k x (by omega) hx
theorem lastC_from {c : Int} : ∀ {n : Nat}, n ≤ calls.length → lastC calls c n = clZ ∨ ∃ k x, k < n ∧ calls[k]? = some x ∧ x.cl = c ∧ lastC calls c n = x
  | 0, _ => .inl rfl
  | n + 1, hn => by
    obtain ⟨y, hy⟩ : ∃ y, calls[n]? = some y := ⟨_, List.getElem?_eq_getElem (by omega)⟩
    rw [lastC_succ hy]
    by_cases e : y.cl = c
    · rw [if_pos e]
      exact .inr ⟨n, y, by omega, hy, e, rfl⟩
    · rw [if_neg e]
      rcases lastC_from (c := c) (n := n) (by omega) with h | ⟨k, x, h1, h2⟩
      · exact .inl h
      · exact .inr ⟨k, x, by omega, h2⟩
/-- Where no call ahead breaks rule 1, the document's and the program's answers are the same. -/
theorem rOne_P1 (i : Nat) (hi : i < calls.length) (hP : ∀ j, j < i → P1 calls j = false) : (!rOne calls i) = P1 calls i := by
  obtain ⟨c, hc⟩ : ∃ c, calls[i]? = some c := ⟨_, List.getElem?_eq_getElem hi⟩
  rw [rOne_at hc, P1_at hc]
  cases hok : okCall c with
  | false => rfl
  | true =>
    rw [Bool.true_and, Bool.not_true, Bool.false_or]
    congr 1
    obtain ⟨o1, o2, _⟩ := ok_to hok
    by_cases hb : behind c (lastC calls c.cl i) = true
    · rw [hb]
      refine decide_eq_true (fstB_none fun k hk => ?_)
      obtain ⟨x, hx⟩ : ∃ x, calls[k]? = some x := ⟨_, List.getElem?_eq_getElem (by omega)⟩
      rw [badB_at hx]
      by_cases e : x.cl = c.cl
      · obtain ⟨g1, g2⟩ := chain1 i (by omega) hP k x hk hx
        obtain ⟨b1, b2, b3⟩ := beh_iff.1 hb
        rw [e] at g1 g2
        have hh : x.no < c.no ∧ x.tt ≠ -1 ∧ x.tt ≤ c.fr := by
          rcases g2 with g2 | ⟨g2, g3, g4⟩
          · rw [← g2] at b1 b2 b3
            exact ⟨b1, b2, b3⟩
          · have := (ok_to g1).2.2 b2
            exact ⟨by omega, g3, by omega⟩
        rw [decide_eq_true e, decide_eq_false (show ¬ c.no ≤ x.no by omega), decide_eq_false hh.2.1, decide_eq_false (show ¬ c.fr < x.tt by omega)]
        rfl
      · rw [decide_eq_false e]; rfl
    · rw [Bool.not_eq_true] at hb
      rw [hb]
      refine decide_eq_false fun h => ?_
      have hn := fstB_inv h
      rcases lastC_from (calls := calls) (c := c.cl) (n := i) (by omega) with e | ⟨k, x, hk, hx, e1, e2⟩
      · rw [e] at hb
        rw [beh_iff.2 ⟨by show (0 : Int) < c.no; omega, by decide, by show (0 : Int) ≤ c.fr; omega⟩] at hb
        cases hb
      · have := hn k hk
        rw [badB_at hx, decide_eq_true e1, Bool.true_and, Bool.or_eq_false_iff, Bool.or_eq_false_iff] at this
        obtain ⟨⟨t1, t2⟩, t3⟩ := this
        have t1 := of_decide_eq_false t1
        have t2 := of_decide_eq_false t2
        have t3 := of_decide_eq_false t3
        rw [e2, beh_iff.2 ⟨by omega, t2, by omega⟩] at hb
        cases hb
theorem rOne_first : fstB (fun i => !rOne calls i) calls.length = Rl calls [] 0 := fstB_same fun i hi h => rOne_P1 i hi h
end
end Go.Proofs.YtdfonbhboncjmaaDoor
