/- Moots: what a loaded text says, back again (plain). -/
import Derived.Test.YtfolnlgceighbaaGreatDoorMpR
import Derived.Test.YtfolnlgceighbaaGreatDoorMrB
namespace Go.Proofs.YtfolnlgceighbaaGreatDoor

theorem tk_some : ∀ (l : List C3) (cs : List (List Nat × List Nat)) (T : List C3) (r : List (List Nat × List Nat) × List C3), tkAll cs T l = some r → r = (runC cs l, T ++ l) ∧ (runC cs l).length = cs.length + l.length ∧ ∀ x ∈ l, ok3 x
  | [], cs, T, r, h => by
    have : (cs, T) = r := Option.some.inj h
    subst this
    exact ⟨by rw [List.append_nil]; rfl, rfl, fun x hx => by cases hx⟩
  | x :: l, cs, T, r, h => by
    replace h : (if doE cs x.1 x.2.1 x.2.2 = 0 then tkAll (doC cs x.1 x.2.1 x.2.2) (T ++ [x]) l else none) = some r := h
    by_cases hE : doE cs x.1 x.2.1 x.2.2 = 0
    · rw [if_pos hE] at h
      obtain ⟨a, b, c⟩ := tk_some l _ _ r h
      have hd : (doC cs x.1 x.2.1 x.2.2).length = cs.length + 1 := by unfold doC; rw [if_pos hE, List.length_append]; rfl
      refine ⟨by rw [a, List.append_assoc]; rfl, ?_, fun y hy => ?_⟩
      · show (runC (doC cs x.1 x.2.1 x.2.2) l).length = cs.length + (l.length + 1)
        omega
      · rcases List.mem_cons.1 hy with rfl | hy
        · exact doE_cmd hE
        · exact c y hy
    · rw [if_neg hE] at h; cases h
theorem tk_long {l : List C3} (h : 40 < l.length) : tkAll [] [] l = none := by
  cases ht : tkAll [] [] l with
  | none => rfl
  | some r =>
    obtain ⟨_, b, _⟩ := tk_some l [] [] r ht
    have := runC_len l [] (by simp)
    simp at b
    omega
theorem flat_chunk : ∀ (l : List Int), l.length % 3 = 0 → flatI (chunk3 l) = l
  | [], _ => rfl
  | [_], h => by simp at h
  | [_, _], h => by simp at h
  | a :: b :: c :: r, h => by
    have := flat_chunk r (by simp at h; omega)
    show [a, b, c] ++ flatI (chunk3 r) = _
    rw [this]; rfl
theorem un3_back {s : List UInt8} {l : List C3} (h : un3 s = some l) : packT l = s := by
  unfold un3 at h
  by_cases hc : errOf s = 0 ∧ (texts s).length % 3 = 0
  · rw [if_pos hc] at h
    cases hn : numsOf (texts s) with
    | none => rw [hn] at h; cases h
    | some ns =>
      rw [hn] at h
      have hl : chunk3 ns = l := Option.some.inj h
      subst hl
      obtain ⟨a, b⟩ := numsOf_back _ _ hn
      unfold packT
      rw [flat3_nums, flat_chunk ns (by rw [b]; exact hc.2), a]
      exact pack_texts (good_err.1 hc.1)
  · rw [if_neg hc] at h; cases h
theorem knF_zero : ∀ (n i : Nat), knF i (List.replicate n ((0, 0) : Kn)) = []
  | 0, _ => rfl
  | n + 1, i => by
    rw [List.replicate_succ]
    show (if 0 < 0 then _ else []) ++ knF (i + 1) (List.replicate n ((0, 0) : Kn)) = _
    rw [if_neg (by decide), knF_zero n (i + 1)]
    rfl
theorem okK2_zero (n : Nat) : okK2 (List.replicate n ((0, 0) : Kn)) := fun x hx => by
  obtain rfl := (List.mem_replicate.1 hx).2
  exact ⟨by decide, by decide, by decide⟩
theorem mt_some : ∀ (l : List C3) (pre : List Kn) (n : Nat) (ls : Int) (cl : List Kn), (pre.length : Int) = ls → pre.length + n = 8 → mtAll ls (pre ++ List.replicate n ((0, 0) : Kn)) l = some cl → ∃ r, cl = pre ++ r ∧ r.length = n ∧ knF pre.length r = l ∧ okK2 r
  | [], pre, n, ls, cl, hls, h8, h => by
    have : pre ++ List.replicate n ((0, 0) : Kn) = cl := Option.some.inj h
    subst this
    exact ⟨_, rfl, by simp, knF_zero _ _, okK2_zero n⟩
  | x :: l, pre, n, ls, cl, hls, h8, h => by
    replace h : (if isA x.1 x.2.1 = true ∧ ls ≤ x.1 ∧ wi x.2.2 0 999 = true then mtAll (x.1 + 1) ((pre ++ List.replicate n ((0, 0) : Kn)).set x.1.toNat (x.2.1.toNat, x.2.2)) l else none) = some cl := h
    by_cases hc : isA x.1 x.2.1 = true ∧ ls ≤ x.1 ∧ wi x.2.2 0 999 = true
    · rw [if_pos hc] at h
      obtain ⟨h1, h2, h3⟩ := hc
      obtain ⟨a1, a2, a3, a4⟩ := isA_z h1
      obtain ⟨b1, b2⟩ := wi_t h3
      obtain ⟨d, hd⟩ : ∃ d, x.1.toNat = pre.length + d := ⟨x.1.toNat - pre.length, by omega⟩
      have hdn : d < n := by omega
      have e1 : (pre ++ List.replicate n ((0, 0) : Kn)).set x.1.toNat (x.2.1.toNat, x.2.2) = (pre ++ (List.replicate d ((0, 0) : Kn) ++ [(x.2.1.toNat, x.2.2)])) ++ List.replicate (n - d - 1) ((0, 0) : Kn) := by
        rw [hd, List.set_append_right _ _ (by omega), show pre.length + d - pre.length = d by omega, show List.replicate n ((0, 0) : Kn) = List.replicate d ((0, 0) : Kn) ++ ((0, 0) :: List.replicate (n - d - 1) ((0, 0) : Kn)) by rw [← List.replicate_succ, List.replicate_append_replicate]; congr 1; omega, List.set_append_right _ _ (by simp)]
        simp
      rw [e1] at h
      have hlen : (pre ++ (List.replicate d ((0, 0) : Kn) ++ [(x.2.1.toNat, x.2.2)])).length = pre.length + d + 1 := by simp; omega
      obtain ⟨r, c1, c2, c3, c4⟩ := mt_some l _ (n - d - 1) (x.1 + 1) cl (by rw [hlen]; omega) (by rw [hlen]; omega) h
      refine ⟨List.replicate d ((0, 0) : Kn) ++ ((x.2.1.toNat, x.2.2) :: r), by rw [c1]; simp, by simp; omega, ?_, fun y hy => ?_⟩
      · rw [knF_app, knF_zero, List.length_replicate, List.nil_append]
        show (if 0 < x.2.1.toNat then [(((pre.length + d : Nat) : Int), ((x.2.1.toNat : Nat) : Int), x.2.2)] else []) ++ knF (pre.length + d + 1) r = _
        rw [hlen] at c3
        rw [if_pos (by omega), c3, ← hd, Int.toNat_of_nonneg a1, Int.toNat_of_nonneg (by omega)]
        rfl
      · rcases List.mem_append.1 hy with hy | hy
        · exact okK2_zero d y hy
        · rcases List.mem_cons.1 hy with rfl | hy
          · exact ⟨by show x.2.1.toNat ≤ _; omega, b1, b2⟩
          · exact c4 y hy
    · rw [if_neg hc] at h; cases h
/-- WHAT IS LOADED SAYS THE TEXT AGAIN. -/
theorem load_back {s : List UInt8} {x : List (List Nat × List Nat) × List C3 × List Kn} (h : loadM s = some x) : mootT x.2.1 x.2.2 = s ∧ (∀ y ∈ x.2.1, ok3 y) ∧ okK2 x.2.2 ∧ x.2.2.length = 8 ∧ x.2.1.length ≤ 40 ∧ (knF 0 x.2.2).length ≤ 8 := by
  unfold loadM at h
  obtain ⟨L, hL⟩ : ∃ L, texts s = L := ⟨_, rfl⟩
  have hg : errOf s = 0 := by
    rcases err_cases s with e | e
    · exact e
    · rw [texts_bad (by rw [e]; decide)] at h; cases h
  have hp := pack_texts (good_err.1 hg)
  rw [hL] at h hp
  match L, h with
  | [a, b], h =>
    cases ht : (un3 a).bind (tkAll [] []) with
    | none => simp only [ht] at h; cases h
    | some r =>
      simp only [ht] at h
      cases hm : (un3 b).bind (mtAll 0 zK) with
      | none => rw [hm] at h; cases h
      | some cl =>
        rw [hm] at h
        have hx : (r.1, r.2, cl) = x := Option.some.inj h
        subst hx
        cases ha : un3 a with
        | none => rw [ha] at ht; cases ht
        | some T =>
          rw [ha] at ht
          cases hb : un3 b with
          | none => rw [hb] at hm; cases hm
          | some T2 =>
            rw [hb] at hm
            obtain ⟨e1, e2, e3⟩ := tk_some T [] [] r ht
            obtain ⟨q, f1, f2, f3, f4⟩ := mt_some T2 [] 8 0 cl rfl rfl hm
            rw [List.nil_append] at f1
            subst f1 e1
            have h40 := runC_len T [] (by simp)
            have hk := knF_len cl 0
            refine ⟨?_, fun y hy => e3 y (by simpa using hy), f4, f2, by simp at e2 ⊢; omega, Nat.le_trans hk (Nat.le_of_eq f2)⟩
            show packL [packT ([] ++ T), packT (knF 0 cl)] = s
            rw [List.nil_append, un3_back ha, show knF 0 cl = T2 from f3, un3_back hb]
            exact hp
end Go.Proofs.YtfolnlgceighbaaGreatDoor
