/- Chains: the document's Next as a whole; ref; ChainNext, walked. -/
import Derived.Test.YtfolnlgceighbaaGreatDoorCdH
namespace Go.Proofs.YtfolnlgceighbaaGreatDoor
open Go.RowKit
attribute [local go_sem ↓] Go.wp_at_zero Go.wp_at_succ

theorem nxall_zero (num : Int) (ns os : List Int) (k g s E : Int) (hE : E ≠ 0) {w W' : World} (hb : Below w.heap.size w W') : NxAll num ns os k g s E w (.agg (cf 0 (.slice none 0 0) 0 0 0 0)) W' :=
  ⟨.slice none 0 0, 0, [], [0, 0, 0, 0], 0, 0, 0, 0, rfl, .inl ⟨rfl, none, 0, rfl⟩, rfl, by simp, (by intro k hk; cases hk), (by intro k hk; cases hk), hb, fun h => absurd h hE, fun _ => ⟨rfl, rfl, rfl⟩⟩
theorem own_at {a b c d : Nat} {s : Nat} (h : s < 4) : ∃ t : Nat, [a, b, c, d][s]? = some t ∧ ([(a : Int), b, c, d]).getD s 0 = (t : Int) := by
  rcases s with _ | _ | _ | _ | s
  · exact ⟨a, rfl, rfl⟩
  · exact ⟨b, rfl, rfl⟩
  · exact ⟨c, rfl, rfl⟩
  · exact ⟨d, rfl, rfl⟩
  · omega
set_option maxHeartbeats 1000000 in
theorem rNext_all (num : Int) (gv : Value) (ns : List Int) (a b c d : Int) (k g s : Int) (w : World) (hu : Il w gv ns) (hl : ns.length ≤ 1000) :
    Calls Tryz.prog 67 #[.agg (cf num gv a b c d), .agg #[.int .i64 k, .int .i64 g, .int .i64 s]] w fun e W' => ∃ x, e = .returned (.tuple #[x, .int .i64 (nxE num ns [a, b, c, d] k g s)]) ∧ NxAll num ns [a, b, c, d] k g s (nxE num ns [a, b, c, d] k g s) w x W' := by
  by_cases hok : okC num ns [a, b, c, d] = true
  · by_cases h2 : isCmd k g s = true
    · obtain ⟨gs, hg, rfl, o, ho, h4, n0, n1⟩ := okC_all hok
      obtain ⟨a', b', c', d', rfl⟩ := four_of ((conf_of hg).2.2 _ ho).1
      have e4 : a = a' ∧ b = b' ∧ c = c' ∧ d = d' := by simpa [zi] using h4
      obtain ⟨rfl, rfl, rfl, rfl⟩ := e4
      have hcm := h2
      unfold isCmd at hcm
      simp only [Bool.and_eq_true] at hcm
      obtain ⟨⟨q1, q2⟩, q3⟩ := hcm
      have q1 := wi_t q1
      have q2 := wi_t q2
      have q3 := wi_t q3
      obtain ⟨K, rfl⟩ : ∃ K : Nat, k = K := ⟨k.toNat, by omega⟩
      obtain ⟨G, rfl⟩ : ∃ G : Nat, g = G := ⟨g.toNat, by omega⟩
      obtain ⟨S, rfl⟩ : ∃ S : Nat, s = S := ⟨s.toNat, by omega⟩
      have g1 : 1 ≤ G := by omega
      have g4 : G ≤ 4 := by omega
      have hbad : ∀ {x : World → Prop}, fitsB K G S (zi gs) [(a' : Int), b', c', d'] = false → (Calls Tryz.prog 67 #[.agg (cf num gv a' b' c' d'), .agg #[.int .i64 K, .int .i64 G, .int .i64 S]] w fun e W' => e = .returned (.tuple #[.agg (cf 0 (.slice none 0 0) 0 0 0 0), .int .i64 150]) ∧ Below w.heap.size w W') → Calls Tryz.prog 67 #[.agg (cf num gv a' b' c' d'), .agg #[.int .i64 K, .int .i64 G, .int .i64 S]] w fun e W' => ∃ x, e = .returned (.tuple #[x, .int .i64 (nxE num (zi gs) [(a' : Int), b', c', d'] K G S)]) ∧ NxAll num (zi gs) [(a' : Int), b', c', d'] K G S (nxE num (zi gs) [(a' : Int), b', c', d'] K G S) w x W' := by
        intro _ hf hC
        have hE : nxE num (zi gs) [(a' : Int), b', c', d'] K G S = 150 := by unfold nxE; rw [if_pos hok, if_pos h2, if_neg (by rw [hf]; simp)]
        rw [hE]
        refine hC.mono ?_
        rintro e W' ⟨rfl, hb⟩
        exact ⟨_, rfl, nxall_zero _ _ _ _ _ _ _ (by decide) hb⟩
      have hfit : fitsB K G S (zi gs) [(a' : Int), b', c', d'] = true → okK K G S gs → (num = 1099511627776 → Calls Tryz.prog 67 #[.agg (cf num gv a' b' c' d'), .agg #[.int .i64 K, .int .i64 G, .int .i64 S]] w fun e W' => e = .returned (.tuple #[.agg (cf 0 (.slice none 0 0) 0 0 0 0), .int .i64 151]) ∧ Below w.heap.size w W') → (num ≠ 1099511627776 → Calls Tryz.prog 67 #[.agg (cf num gv a' b' c' d'), .agg #[.int .i64 K, .int .i64 G, .int .i64 S]] w fun e W' => ∃ (v : Value) (p q r t : Nat), e = .returned (.tuple #[.agg (cf (num + 1) v p q r t), .int .i64 0]) ∧ Il W' v (zi (nG K G gs)) ∧ [p, q, r, t] = nO K G S gs [a', b', c', d'] ∧ Fr w.heap.size v ∧ (∀ j, v.ownBlock = some j → j < W'.heap.size) ∧ Below w.heap.size w W') → Calls Tryz.prog 67 #[.agg (cf num gv a' b' c' d'), .agg #[.int .i64 K, .int .i64 G, .int .i64 S]] w fun e W' => ∃ x, e = .returned (.tuple #[x, .int .i64 (nxE num (zi gs) [(a' : Int), b', c', d'] K G S)]) ∧ NxAll num (zi gs) [(a' : Int), b', c', d'] K G S (nxE num (zi gs) [(a' : Int), b', c', d'] K G S) w x W' := by
        intro hf hk hL hO
        by_cases h5 : num = 1099511627776
        · have hE : nxE num (zi gs) [(a' : Int), b', c', d'] K G S = 151 := by unfold nxE; rw [if_pos hok, if_pos h2, if_pos hf, if_pos h5]
          rw [hE]
          refine (hL h5).mono ?_
          rintro e W' ⟨rfl, hb⟩
          exact ⟨_, rfl, nxall_zero _ _ _ _ _ _ _ (by decide) hb⟩
        · have hE : nxE num (zi gs) [(a' : Int), b', c', d'] K G S = 0 := by unfold nxE; rw [if_pos hok, if_pos h2, if_pos hf, if_neg h5]
          rw [hE]
          refine (hO h5).mono ?_
          rintro e W' ⟨v, p, q, r, t, rfl, j1, j2, j3, j4, j5⟩
          obtain ⟨m1, m2, m3⟩ := nx_mem hg ho hk
          exact ⟨_, rfl, v, num + 1, nG K G gs, nO K G S gs [a', b', c', d'], p, q, r, t, rfl, j1, j2.symm, (conf_of m1).1, j3, j4, j5, fun _ => ⟨gs, [a', b', c', d'], K, G, S, rfl, rfl, rfl, rfl, rfl, hg, ho, hk, n0, by omega, rfl, rfl, rfl, m1, m2⟩, fun h => absurd rfl h⟩
      have hisin : isIn (zi gs) (G : Int) = gs.contains G := isIn_zi' gs G
      have hK : K = 1 ∨ K = 2 ∨ K = 3 := by omega
      rcases hK with rfl | rfl | rfl
      · have hS : S = 0 := by rw [if_neg (by decide)] at q3; omega
        subst hS
        cases hc : gs.contains G with
        | true => exact hbad (x := fun _ => True) (by unfold fitsB; rw [if_pos (by decide), hisin, hc]; rfl) (rNext_g1 num n0 n1 gv gs a' b' c' d' G w hu hg ho g1 g4 hc)
        | false => exact hfit (by unfold fitsB; rw [if_pos (by decide), hisin, hc]; rfl) ⟨g1, g4, .inl ⟨rfl, hc, rfl⟩⟩ (fun h5 => rNext_l1 num n0 n1 gv gs a' b' c' d' G w hu hg ho g1 g4 hc h5) (fun h5 => rNext_k1 num n0 n1 gv gs a' b' c' d' G w hu hg ho g1 g4 hc h5)
      · have hS : S = 0 := by rw [if_neg (by decide)] at q3; omega
        subst hS
        cases hc : gs.contains G with
        | false => exact hbad (x := fun _ => True) (by unfold fitsB; rw [if_neg (by decide), if_pos (by decide), hisin, hc]; rfl) (rNext_g2 num n0 n1 gv gs a' b' c' d' G w hu hg ho g1 g4 hc)
        | true =>
          have hpos : 0 < gs.length := List.length_pos_of_mem (show G ∈ gs by simpa using hc)
          by_cases hl1 : gs.length = 1
          · exact hbad (x := fun _ => True) (by unfold fitsB; rw [if_neg (by decide), if_pos (by decide), hisin, hc, zi_len, hl1]; rfl) (rNext_g4 num n0 n1 gv gs a' b' c' d' G w hu hg ho g1 g4 hc hl1)
          · have hl2 : 1 < gs.length := by omega
            exact hfit (by unfold fitsB; rw [if_neg (by decide), if_pos (by decide), hisin, hc, zi_len, decide_eq_true hl2]; rfl) ⟨g1, g4, .inr (.inl ⟨rfl, hc, hl2, rfl⟩)⟩ (fun h5 => rNext_l2 num n0 n1 gv gs a' b' c' d' G w hu hg ho g1 g4 hc hl2 h5) (fun h5 => rNext_k2 num n0 n1 gv gs a' b' c' d' G w hu hg ho g1 g4 hc hl2 h5)
      · have hS : S < 4 := by rw [if_pos (by decide)] at q3; omega
        obtain ⟨t, ht, htD⟩ := own_at (a := a') (b := b') (c := c') (d := d') hS
        cases hc : gs.contains G with
        | false => exact hbad (x := fun _ => True) (by unfold fitsB; rw [if_neg (by decide), if_neg (by decide), hisin, hc]; rfl) (rNext_g3 num n0 n1 gv gs a' b' c' d' G S w hu hg ho g1 g4 hc hS)
        | true =>
          have hgd : ([(a' : Int), b', c', d']).getD (S : Int).toNat 0 = (t : Int) := htD
          by_cases htg : t = G
          · subst htg
            exact hbad (x := fun _ => True) (by unfold fitsB; rw [if_neg (by decide), if_neg (by decide), hisin, hc, hgd]; simp) (rNext_g5 num n0 n1 gv gs a' b' c' d' t S w hu hg ho g1 g4 hc hS ht)
          · have hne : ((t : Int) == (G : Int)) = false := by rw [beq_eq_false_iff_ne]; omega
            exact hfit (by unfold fitsB; rw [if_neg (by decide), if_neg (by decide), hisin, hc, hgd, hne]; rfl) ⟨g1, g4, .inr (.inr ⟨rfl, hc, hS⟩)⟩ (fun h5 => rNext_l3 num n0 n1 gv gs a' b' c' d' G S w hu hg ho g1 g4 hc hS t ht htg h5) (fun h5 => rNext_k3 num n0 n1 gv gs a' b' c' d' G S w hu hg ho g1 g4 hc hS t ht htg h5)
    · have hE : nxE num ns [a, b, c, d] k g s = 1 := by unfold nxE; rw [if_pos hok, if_neg h2]
      rw [hE]
      refine (rNext_arg num gv ns a b c d k g s w hu hl hok (by simpa using h2)).mono ?_
      rintro e W' ⟨rfl, hb⟩
      exact ⟨_, rfl, nxall_zero _ _ _ _ _ _ _ (by decide) hb⟩
  · have hE : nxE num ns [a, b, c, d] k g s = 4 := by unfold nxE; rw [if_neg hok]
    rw [hE]
    refine (rNext_form num gv ns a b c d k g s w hu hl (by simpa using hok)).mono ?_
    rintro e W' ⟨rfl, hb⟩
    exact ⟨_, rfl, nxall_zero _ _ _ _ _ _ _ (by decide) hb⟩
end Go.Proofs.YtfolnlgceighbaaGreatDoor
