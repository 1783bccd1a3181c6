/- Rosters: the list of ends says what the program says (plain). -/
import Derived.Test.YtcaofedkbdngdaaRsP
namespace Go.Proofs.Ytcaofedkbdngdaa
open Go.RowKit

/-- The list of ends of a roster, and how long it is. -/
structure RL (f g c : Int) (n G C : Nat) : Prop where
  right : Rt f g c = true
  hn : (n : Int) = 3 * f + 1
  hG : (G : Int) = g + 1
  hC : (C : Int) = c
theorem RL.M {f g c : Int} {n G C : Nat} (h : RL f g c n G C) : ((G * n : Nat) : Int) = (g + 1) * (3 * f + 1) := by
  rw [← h.hn, ← h.hG]; push_cast; rfl
theorem isCl_iff {c pg pn : Int} : isCl c pg pn = true ↔ pg = -1 ∧ 0 ≤ pn ∧ pn ≤ c - 1 := by simp [isCl, wi]
theorem isRe_iff {f g pg pn : Int} : isRe f g pg pn = true ↔ (0 ≤ pg ∧ pg ≤ g) ∧ 0 ≤ pn ∧ pn ≤ 3 * f := by simp [isRe, wi]
/-- A party in the list is at its end. -/
theorem end_at {f g c : Int} {n G C : Nat} (h : RL f g c n G C) {k : Nat} (hk : k < G * n + C) : endV f g c (pa n G k).1 (pa n G k).2 = k ∧ endE f g c (pa n G k).1 (pa n G k).2 = 0 := by
  have hb := Rt_b h.right
  have hM := h.M
  have hn := h.hn
  have hG := h.hG
  have hC := h.hC
  by_cases hlt : k < G * n
  · have hp : pa n G k = (((k / n : Nat) : Int), ((k % n : Nat) : Int)) := by unfold pa; rw [if_pos hlt]
    rw [hp]
    have d1 : k / n < G := Nat.div_lt_of_lt_mul (by rw [Nat.mul_comm]; exact hlt)
    have m1 : k % n < n := Nat.mod_lt _ (by omega)
    have hs : k / n * n + k % n = k := by rw [Nat.mul_comm]; exact Nat.div_add_mod k n
    obtain ⟨D, hD⟩ : ∃ D, k / n = D := ⟨_, rfl⟩
    obtain ⟨m, hm⟩ : ∃ m, k % n = m := ⟨_, rfl⟩
    rw [hD] at d1 hs ⊢
    rw [hm] at m1 hs ⊢
    clear hD hm hp hM
    have c1 : isCl c (D : Int) (m : Int) = false := by
      apply Bool.eq_false_iff.2
      intro h; have := isCl_iff.1 h; omega
    have c2 : isRe f g (D : Int) (m : Int) = true := isRe_iff.2 (by omega)
    constructor
    · show endV f g c (D : Int) (m : Int) = k
      unfold endV
      rw [if_pos h.right, c1, if_neg (by simp), if_pos c2, ← hn]
      exact_mod_cast hs
    · show endE f g c (D : Int) (m : Int) = 0
      unfold endE
      rw [if_pos h.right, c1, if_neg (by simp), if_pos c2]
  · have hp : pa n G k = (-1, ((k - G * n : Nat) : Int)) := by unfold pa; rw [if_neg hlt]
    rw [hp]
    have c1 : isCl c (-1) ((k - G * n : Nat) : Int) = true := isCl_iff.2 (by omega)
    constructor
    · show endV f g c (-1) ((k - G * n : Nat) : Int) = k
      unfold endV
      rw [if_pos h.right, if_pos c1, ← hM]
      omega
    · show endE f g c (-1) ((k - G * n : Nat) : Int) = 0
      unfold endE
      rw [if_pos h.right, if_pos c1]
/-- A party that has an end stands in the list. -/
theorem end_in {f g c : Int} {n G C : Nat} (h : RL f g c n G C) {pg pn : Int} (he : isCl c pg pn = true ∨ isRe f g pg pn = true) : ∃ k, k < G * n + C ∧ pa n G k = (pg, pn) := by
  have hb := Rt_b h.right
  have hn := h.hn
  have hG := h.hG
  have hC := h.hC
  rcases he with he | he
  · obtain ⟨rfl, h1, h2⟩ := isCl_iff.1 he
    obtain ⟨q, rfl⟩ : ∃ q : Nat, (q : Int) = pn := ⟨pn.toNat, by omega⟩
    exact ⟨G * n + q, by omega, pa_cl n G q⟩
  · obtain ⟨⟨h1, h2⟩, h3, h4⟩ := isRe_iff.1 he
    obtain ⟨q, rfl⟩ : ∃ q : Nat, (q : Int) = pn := ⟨pn.toNat, by omega⟩
    obtain ⟨gr, rfl⟩ : ∃ q : Nat, (q : Int) = pg := ⟨pg.toNat, by omega⟩
    have hq : q < n := by omega
    have hg : gr < G := by omega
    refine ⟨gr * n + q, ?_, pa_rep hq hg⟩
    have : (gr + 1) * n ≤ G * n := Nat.mul_le_mul_right n hg
    rw [Nat.add_mul, Nat.one_mul] at this
    omega
theorem rEnd_right {f g c : Int} {n G C : Nat} (h : RL f g c n G C) {pg pn v e : Int} (hr : rEndIs (paL n G (G * n + C)) (pg, pn) v e) : v = endV f g c pg pn ∧ e = endE f g c pg pn := by
  have hb := Rt_b h.right
  have hC := h.hC
  rcases hr with ⟨h0, _⟩ | ⟨_, ⟨k, hk, _, rfl, rfl⟩ | ⟨hN, rfl, rfl⟩⟩
  · have := congrArg List.length h0
    rw [paL_len] at this
    simp at this
    omega
  · have hkl : k < G * n + C := by have := (List.getElem?_eq_some_iff.1 hk).1; rw [paL_len] at this; exact this
    rw [paL_at hkl] at hk
    have hp : pa n G k = (pg, pn) := by injection hk
    have := end_at h hkl
    rw [hp] at this
    exact ⟨this.1.symm, this.2.symm⟩
  · have c1 : isCl c pg pn = false := by
      apply Bool.eq_false_iff.2
      intro h1
      obtain ⟨k, hk, hp⟩ := end_in h (.inl h1)
      exact hN k (by rw [paL_len]; exact hk) (by rw [paL_at hk, hp])
    have c2 : isRe f g pg pn = false := by
      apply Bool.eq_false_iff.2
      intro h1
      obtain ⟨k, hk, hp⟩ := end_in h (.inr h1)
      exact hN k (by rw [paL_len]; exact hk) (by rw [paL_at hk, hp])
    unfold endV endE
    rw [if_pos h.right, if_pos h.right, c1, c2]
    simp
theorem rEnd_wrong {f g c pg pn v e : Int} (h : Rt f g c = false) (hr : rEndIs [] (pg, pn) v e) : v = endV f g c pg pn ∧ e = endE f g c pg pn := by
  rcases hr with ⟨_, rfl, rfl⟩ | ⟨h0, _⟩
  · simp [endV, endE, h]
  · exact absurd rfl h0
theorem rpt_right {f g c : Int} {n G C : Nat} (h : RL f g c n G C) (e : Int) : rpt (paL n G (G * n + C)) e = ((ptG f g c e, ptN f g c e), ptE f g c e) := by
  have hb := Rt_b h.right
  have hM := h.M
  have hn := h.hn
  have hG := h.hG
  have hC := h.hC
  unfold rpt
  rw [paL_len, if_neg (by omega)]
  unfold ptG ptN ptE
  rw [if_pos h.right, if_pos h.right, if_pos h.right, ← hM, ← hn, ← hC]
  by_cases he : e < 0 ∨ ((G * n + C : Nat) : Int) ≤ e
  · have hw : wi e 0 (((G * n : Nat) : Int) + (C : Int) - 1) = false := by
      apply Bool.eq_false_iff.2
      intro h; have := wi_t h; omega
    rw [if_pos he, hw]
    simp
  · have hw : wi e 0 (((G * n : Nat) : Int) + (C : Int) - 1) = true := by simp only [wi, decide_eq_true_eq]; omega
    rw [if_neg he, if_pos hw, if_pos hw, if_pos hw]
    obtain ⟨k, rfl⟩ : ∃ k : Nat, (k : Int) = e := ⟨e.toNat, by omega⟩
    have hk : k < G * n + C := by omega
    rw [Int.toNat_natCast, paL_at hk, Option.getD_some]
    unfold pa
    by_cases hlt : k < G * n
    · rw [if_pos hlt, if_neg (by omega), if_neg (by omega)]
      simp
    · rw [if_neg hlt, if_pos (by omega), if_pos (by omega), show ((k - G * n : Nat) : Int) = (k : Int) - ((G * n : Nat) : Int) by omega]
theorem rpt_wrong {f g c : Int} (h : Rt f g c = false) (e : Int) : rpt [] e = ((ptG f g c e, ptN f g c e), ptE f g c e) := by simp [rpt, ptG, ptN, ptE, h]
/-- The places of a group in the list. -/
theorem rg_mid {n G C gr : Nat} (hn : 0 < n) (hg : gr < G) (but : Int) : rgL (paL n G (G * n + C)) gr but (G * n + C) = ((List.range n).filter fun (i : Nat) => !decide ((i : Int) = but)).map fun (i : Nat) => ((gr * n + i : Nat) : Int) := by
  have hle : (gr + 1) * n ≤ G * n := Nat.mul_le_mul_right n hg
  rw [Nat.add_mul, Nat.one_mul] at hle
  obtain ⟨R, hR⟩ : ∃ R, G * n + C = gr * n + (n + R) := ⟨G * n + C - (gr * n + n), by omega⟩
  have hB : ∀ i, i < G * n + C → rgB (paL n G (G * n + C)) gr but i = (decide ((pa n G i).1 = gr) && !decide ((pa n G i).2 = but)) := by
    intro i hi
    unfold rgB
    rw [paL_at hi]
    simp
  unfold rgL
  rw [hR, List.range_add, List.range_add, List.map_append, List.filter_append, List.filter_append, ← hR]
  have p1 : (List.range (gr * n)).filter (rgB (paL n G (G * n + C)) gr but) = [] := by
    rw [List.filter_eq_nil_iff]
    intro i hi
    have hi2 := List.mem_range.1 hi
    rw [hB i (by omega)]
    have : (pa n G i).1 = ((i / n : Nat) : Int) := by unfold pa; rw [if_pos (by omega)]
    rw [this]
    have hd : i / n < gr := Nat.div_lt_of_lt_mul (by rw [Nat.mul_comm]; exact hi2)
    simp; intro h; omega
  have p3 : (((List.range R).map (fun x => n + x)).map (fun x => gr * n + x)).filter (rgB (paL n G (G * n + C)) gr but) = [] := by
    rw [List.filter_eq_nil_iff]
    intro i hi
    obtain ⟨j, hj, rfl⟩ := List.mem_map.1 hi
    obtain ⟨q, hq, rfl⟩ := List.mem_map.1 hj
    have hq2 := List.mem_range.1 hq
    rw [hB _ (by omega)]
    have : (pa n G (gr * n + (n + q))).1 ≠ gr := by
      unfold pa
      split
      · have h1 : gr + 1 ≤ (gr * n + (n + q)) / n := by
          rw [Nat.le_div_iff_mul_le hn, Nat.add_mul, Nat.one_mul]; omega
        intro h
        have h2 : (((gr * n + (n + q)) / n : Nat) : Int) = gr := h
        omega
      · intro h
        have h2 : (-1 : Int) = gr := h
        omega
    simp [this]
  have p2 : ((List.range n).map (fun x => gr * n + x)).filter (rgB (paL n G (G * n + C)) gr but) = ((List.range n).filter fun (i : Nat) => !decide ((i : Int) = but)).map (fun x => gr * n + x) := by
    rw [List.filter_map]
    congr 1
    apply List.filter_congr
    intro i hi
    have hi2 := List.mem_range.1 hi
    show rgB (paL n G (G * n + C)) gr but (gr * n + i) = _
    rw [hB _ (by omega), pa_rep hi2 hg]
    simp
  rw [p1, p2, p3, List.nil_append, List.append_nil, List.map_map]
  rfl
theorem rg_none {n G C : Nat} {gr : Int} (hg : gr < 0 ∨ (G : Int) ≤ gr) (but : Int) (k : Nat) : rgL (paL n G (G * n + C)) gr but k = [] := by
  unfold rgL
  rw [List.map_eq_nil_iff, List.filter_eq_nil_iff]
  intro i _
  unfold rgB
  cases hp : (paL n G (G * n + C))[i]? with
  | none => simp
  | some a =>
    have hi : i < G * n + C := by have := (List.getElem?_eq_some_iff.1 hp).1; rw [paL_len] at this; exact this
    rw [paL_at hi] at hp
    injection hp with hp
    subst hp
    rcases hg with hg | hg
    · simp; intro _ h; omega
    · have : (pa n G i).1 ≠ gr := by
        unfold pa
        split
        · next hlt =>
          have hd : i / n < G := Nat.div_lt_of_lt_mul (by rw [Nat.mul_comm]; exact hlt)
          intro h
          have h2 : ((i / n : Nat) : Int) = gr := h
          omega
        · intro h
          have h2 : (-1 : Int) = gr := h
          omega
      simp [this]
theorem but_mid {f g c : Int} {n G C gr : Nat} (h : RL f g c n G C) (hg : gr < G) (no : Int) : butL f g c no gr n = ((List.range n).filter fun (i : Nat) => !decide ((i : Int) = no)).map fun (i : Nat) => ((gr * n + i : Nat) : Int) := by
  have hb := Rt_b h.right
  have hn := h.hn
  have hG := h.hG
  have hv : ∀ i, i < n → endV f g c gr i = ((gr * n + i : Nat) : Int) ∧ endE f g c gr i = 0 := by
    intro i hi
    have hk : gr * n + i < G * n + C := by
      have : (gr + 1) * n ≤ G * n := Nat.mul_le_mul_right n hg
      rw [Nat.add_mul, Nat.one_mul] at this
      omega
    have := end_at h hk
    rw [pa_rep hi hg] at this
    exact this
  unfold butL
  rw [List.filter_congr (q := fun (i : Nat) => !decide ((i : Int) = no)) (fun i hi => by
    unfold inB
    rw [(hv i (List.mem_range.1 hi)).2]
    simp)]
  apply List.map_congr_left
  intro i hi
  exact (hv i (List.mem_range.1 (List.mem_filter.1 hi).1)).1
theorem but_none {f g c : Int} {gr no : Int} (hg0 : 1 ≤ g) (hg : gr < -1 ∨ g < gr) (k : Nat) : butL f g c no gr k = [] := by
  unfold butL
  rw [List.map_eq_nil_iff, List.filter_eq_nil_iff]
  intro i _
  have c1 : isCl c gr i = false := by
    apply Bool.eq_false_iff.2
    intro h; have := isCl_iff.1 h
    omega
  have c2 : isRe f g gr i = false := by
    apply Bool.eq_false_iff.2
    intro h; have := isRe_iff.1 h; omega
  unfold inB endE
  rw [c1, c2]
  split <;> simp
theorem grp_right {f g c : Int} {n G C : Nat} (h : RL f g c n G C) (gr : Int) : rgL (paL n G (G * n + C)) gr (-1) (G * n + C) = grpL f g c gr := by
  have hb := Rt_b h.right
  have hn := h.hn
  have hG := h.hG
  have hN : nN f g c = n := by have := nN_right h.right; omega
  unfold grpL
  by_cases h1 : gr = -1
  · rw [if_pos h1, rg_none (by omega)]
  · rw [if_neg h1, hN]
    by_cases h2 : gr < -1 ∨ g < gr
    · rw [but_none (by omega) h2, rg_none (by omega)]
    · obtain ⟨q, rfl⟩ : ∃ q : Nat, (q : Int) = gr := ⟨gr.toNat, by omega⟩
      rw [rg_mid (by omega) (by omega), but_mid h (by omega)]
theorem oth_right {f g c : Int} {n G C : Nat} (h : RL f g c n G C) {pg pn : Int} (he : endE f g c pg pn = 0) : rgL (paL n G (G * n + C)) pg pn (G * n + C) = othL f g c pg pn := by
  have hb := Rt_b h.right
  have hn := h.hn
  have hG := h.hG
  have hN : nN f g c = n := by have := nN_right h.right; omega
  unfold othL
  by_cases h1 : pg = -1
  · rw [if_neg (by simp [h1]), rg_none (by omega)]
  · rw [if_pos ⟨he, h1⟩, hN]
    by_cases h2 : pg < -1 ∨ g < pg
    · rw [but_none (by omega) h2, rg_none (by omega)]
    · obtain ⟨q, rfl⟩ : ∃ q : Nat, (q : Int) = pg := ⟨pg.toNat, by omega⟩
      rw [rg_mid (by omega) (by omega), but_mid h (by omega)]
theorem oth_not {f g c pg pn : Int} (he : endE f g c pg pn ≠ 0) : othL f g c pg pn = [] := by
  unfold othL
  rw [if_neg (fun h => he h.1)]
theorem grp_wrong {f g c : Int} (h : Rt f g c = false) (gr : Int) : grpL f g c gr = [] := by
  unfold grpL
  rw [show nN f g c = 0 by simp [nN, h]]
  simp [butL]
end Go.Proofs.Ytcaofedkbdngdaa
