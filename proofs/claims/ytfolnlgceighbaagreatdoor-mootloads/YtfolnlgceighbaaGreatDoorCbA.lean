/- Chains: Loads; Next of whatever; what is decided of balance. -/
import Derived.Test.YtfolnlgceighbaaGreatDoorChW
namespace Go.Proofs.YtfolnlgceighbaaGreatDoor
open Go.RowKit
attribute [local go_sem ↓] Go.wp_at_zero Go.wp_at_succ

/-- What Next tells of whatever it is given. -/
def NxAll (num : Int) (ns os : List Int) (k g s E : Int) (w : World) (x : Value) (W' : World) : Prop :=
  ∃ (v : Value) (n : Int) (G' O' : List Nat) (p q r t : Nat), x = .agg (cf n v p q r t) ∧ Il W' v (zi G') ∧ O' = [p, q, r, t] ∧ G'.length ≤ 4 ∧ Fr w.heap.size v ∧ (∀ j, v.ownBlock = some j → j < W'.heap.size) ∧ Below w.heap.size w W' ∧
    (E = 0 → ∃ (gs o : List Nat) (K G S : Nat), ns = zi gs ∧ os = zi o ∧ k = K ∧ g = G ∧ s = S ∧ gs ∈ subs0 ∧ o ∈ owners0 gs ∧ okK K G S gs ∧ 0 ≤ num ∧ num < 1099511627776 ∧ n = num + 1 ∧ G' = nG K G gs ∧ O' = nO K G S gs o ∧ G' ∈ subs0 ∧ O' ∈ owners0 G') ∧ (E ≠ 0 → n = 0 ∧ G' = [] ∧ O' = [0, 0, 0, 0])
theorem Next_all (num : Int) (gv : Value) (ns : List Int) (a b c d : Int) (k g s : Int) (w : World) (hu : Il w gv ns) (hl : ns.length ≤ 1000) :
    Calls Tryz.prog 54 #[.agg (cf num gv a b c d), .agg #[.int .i64 k, .int .i64 g, .int .i64 s]] w fun e W' => ∃ x, e = .returned (.tuple #[x, .int .i64 (nxE num ns [a, b, c, d] k g s)]) ∧ NxAll num ns [a, b, c, d] k g s (nxE num ns [a, b, c, d] k g s) w x W' := by
  by_cases hok : okC num ns [a, b, c, d] = true
  · obtain ⟨gs, hg, rfl, o, ho, h4, n0, n1⟩ := okC_all hok
    obtain ⟨a', b', c', d', rfl⟩ := four_of ((conf_of hg).2.2 _ ho).1
    have e4 : a = a' ∧ b = b' ∧ c = c' ∧ d = d' := by simpa [zi] using h4
    obtain ⟨rfl, rfl, rfl, rfl⟩ := e4
    refine (Next_any num n0 n1 gv gs a' b' c' d' k g s w hu hg ho).mono ?_
    rintro e W' ⟨x, rfl, v, n, G', O', p, q, r, t, rfl, j1, j2, j3, j4, j5, j6, j7, j8⟩
    refine ⟨_, rfl, v, n, G', O', p, q, r, t, rfl, j1, j2, j3, j4, j5, j6, fun hE => ?_, j8⟩
    obtain ⟨i1, i2, i3, i4⟩ := j7 hE
    unfold nxE at hE
    rw [if_pos hok] at hE
    by_cases h2 : isCmd k g s = true
    · rw [if_pos h2] at hE
      by_cases h3 : fitsB k g s (zi gs) [(a' : Int), b', c', d'] = true
      · rw [if_pos h3] at hE
        by_cases h5 : num = 1099511627776
        · rw [if_pos h5] at hE; cases hE
        · obtain ⟨K, G, S, rfl, rfl, rfl, hk⟩ := cmd_of h2 h3
          have i5 : G' = nG K G gs ∧ O' = nO K G S gs [a', b', c', d'] := by simpa [nextC] using i2
          exact ⟨gs, [a', b', c', d'], K, G, S, rfl, rfl, rfl, rfl, rfl, hg, ho, hk, n0, by omega, i1, i5.1, i5.2, i3, i4⟩
      · rw [if_neg h3] at hE; cases hE
    · rw [if_neg h2] at hE; cases hE
  · have hE : nxE num ns [a, b, c, d] k g s = 4 := by unfold nxE; rw [if_neg hok]
    rw [hE]
    refine (Next_form num gv ns a b c d k g s w hu hl (by simpa using hok)).mono ?_
    rintro e W' ⟨rfl, hb⟩
    exact ⟨_, rfl, .slice none 0 0, 0, [], [0, 0, 0, 0], 0, 0, 0, 0, rfl, .inl ⟨rfl, none, 0, rfl⟩, rfl, by simp, (by intro k hk; cases hk), (by intro k hk; cases hk), hb, fun h => absurd h (by decide), fun _ => ⟨rfl, rfl, rfl⟩⟩
/-- How many shards each group has. -/
def ldL (gs o : List Nat) : List Nat := gs.map (cnt o)
def balL (L : List Nat) : Bool := L.all (fun a => L.all fun b => decide (a ≤ b + 1)) && L.all (fun a => decide (a ≤ 4)) && L.foldl (· + ·) 0 == 4
def allBal2 : Bool := subs0.all fun gs => (owners0 gs).all fun o => [1, 2, 3, 4].all fun g =>
  if gs.contains g then (if 1 < gs.length then balL (ldL (nG 2 g gs) (nO 2 g 0 gs o)) else true) else balL (ldL (nG 1 g gs) (nO 1 g 0 gs o))
theorem bal_all2 : allBal2 = true := by decide +kernel
theorem bal_of {gs o : List Nat} {k g s : Nat} (hg : gs ∈ subs0) (ho : o ∈ owners0 gs) (hk : okK k g s gs) (h3 : k ≠ 3) : balL (ldL (nG k g gs) (nO k g s gs o)) = true := by
  have h := bal_all2
  unfold allBal2 at h
  rw [List.all_eq_true] at h
  have h := h gs hg
  rw [List.all_eq_true] at h
  have h := h o ho
  rw [List.all_eq_true] at h
  obtain ⟨h1, h4, ⟨rfl, h5, rfl⟩ | ⟨rfl, h5, h6, rfl⟩ | ⟨rfl, h5, h6⟩⟩ := hk
  · have h := h g (by simp; omega)
    rw [if_neg (by rw [h5]; simp)] at h
    exact h
  · have h := h g (by simp; omega)
    rw [if_pos h5, if_pos h6] at h
    exact h
  · exact absurd rfl h3
end Go.Proofs.YtfolnlgceighbaaGreatDoor
