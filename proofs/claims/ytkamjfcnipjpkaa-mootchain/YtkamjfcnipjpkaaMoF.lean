/- Moots: MootOnce: what is known rises; the moot beside the steps that were done. -/
import Derived.Test.YtkamjfcnipjpkaaMoE
namespace Go.Proofs.Ytkamjfcnipjpkaa
open Go.RowKit

theorem isA_t {c n : Int} (h : isA c n = true) : 0 ≤ c ∧ c ≤ 7 ∧ 1 ≤ n ∧ n ≤ 1099511627776 := by
  unfold isA at h
  rw [Bool.and_eq_true] at h
  obtain ⟨a, b⟩ := wi_t h.1
  obtain ⟨c, d⟩ := wi_t h.2
  exact ⟨a, b, c, d⟩
theorem mo_cases (cs : List (List Nat × List Nat)) (cl : List Kn) (c n k g s : Int) :
    (isA c n = false ∧ moR cs cl c n k g s = (0, false, 1) ∧ moN cl c n = false) ∨ (isA c n = true ∧ n < ((kn cl c).1 : Int) ∧ moR cs cl c n k g s = (0, false, 6) ∧ moN cl c n = false) ∨
    (isA c n = true ∧ n = ((kn cl c).1 : Int) ∧ moR cs cl c n k g s = ((kn cl c).2, false, 0) ∧ moN cl c n = false) ∨ (isA c n = true ∧ ((kn cl c).1 : Int) < n ∧ moR cs cl c n k g s = (doE cs k g s, true, 0) ∧ moN cl c n = true) := by
  cases hA : isA c n with
  | false => exact .inl ⟨rfl, by unfold moR; rw [hA]; rfl, by unfold moN; rw [hA]; rfl⟩
  | true =>
    refine .inr ?_
    by_cases h1 : n < ((kn cl c).1 : Int)
    · exact .inl ⟨rfl, h1, by unfold moR; rw [hA, if_pos rfl, if_pos h1], by unfold moN; rw [hA, Bool.true_and, decide_eq_false_iff_not]; omega⟩
    · by_cases h2 : n = ((kn cl c).1 : Int)
      · exact .inr (.inl ⟨rfl, h2, by unfold moR; rw [hA, if_pos rfl, if_neg h1, if_pos h2], by unfold moN; rw [hA, Bool.true_and, decide_eq_false_iff_not]; omega⟩)
      · exact .inr (.inr ⟨rfl, by omega, by unfold moR; rw [hA, if_pos rfl, if_neg h1, if_neg h2], by unfold moN; rw [hA, Bool.true_and, decide_eq_true_iff]; omega⟩)
theorem kn_set (cl : List Kn) (c d : Int) (x : Kn) (hl : c.toNat < cl.length) : kn (cl.set c.toNat x) d = if d.toNat = c.toNat then x else kn cl d := by
  unfold kn
  rw [List.getD_eq_getElem?_getD, List.getD_eq_getElem?_getD, List.getElem?_set]
  by_cases h : c.toNat = d.toNat
  · rw [if_pos h, if_pos hl, if_pos h.symm]; rfl
  · rw [if_neg h, if_neg (fun e => h e.symm)]
/-- What was done is known. -/
def Inv (D : List S5) (cl : List Kn) : Prop := ∀ d ∈ D, isA d.1 d.2.1 = true ∧ d.2.1 ≤ ((kn cl d.1).1 : Int)
theorem mo_rise {cs : List (List Nat × List Nat)} {cl : List Kn} {c n k g s : Int} (hl : cl.length = 8) (d : Int) : ((kn cl d).1 : Int) ≤ ((kn (moC cs cl c n k g s) d).1 : Int) := by
  unfold moC
  cases hN : moN cl c n with
  | false => exact Int.le_refl _
  | true =>
    rw [if_pos rfl]
    have hN2 := hN
    unfold moN at hN2
    rw [Bool.and_eq_true, decide_eq_true_iff] at hN2
    obtain ⟨h1, h2, h3, h4⟩ := isA_t hN2.1
    rw [kn_set cl c d _ (by rw [hl]; omega)]
    by_cases e : d.toNat = c.toNat
    · rw [if_pos e]
      have : kn cl d = kn cl c := by unfold kn; rw [e]
      rw [this]
      show _ ≤ ((n.toNat : Nat) : Int)
      have := hN2.2
      omega
    · rw [if_neg e]; exact Int.le_refl _
theorem Inv.keep {D : List S5} {cl : List Kn} (h : Inv D cl) (hl : cl.length = 8) (cs : List (List Nat × List Nat)) (c n k g s : Int) : Inv D (moC cs cl c n k g s) := fun d hd => by
  obtain ⟨a, b⟩ := h d hd
  have := mo_rise (cs := cs) (c := c) (n := n) (k := k) (g := g) (s := s) hl d.1
  exact ⟨a, by omega⟩
/-- Behind what was done or known: it is known so. -/
theorem mo_again {cs : List (List Nat × List Nat)} {cl : List Kn} {c n k g s a : Int} {b : Bool} (hl : cl.length = 8) (hr : moR cs cl c n k g s = (a, b, 0)) :
    isA c n = true ∧ kn (moC cs cl c n k g s) c = (n.toNat, a) ∧ n = ((kn (moC cs cl c n k g s) c).1 : Int) ∧ ∀ cs' k' g' s', moR cs' (moC cs cl c n k g s) c n k' g' s' = (a, false, 0) ∧ moN (moC cs cl c n k g s) c n = false := by
  have key : isA c n = true → kn (moC cs cl c n k g s) c = (n.toNat, a) → isA c n = true ∧ kn (moC cs cl c n k g s) c = (n.toNat, a) ∧ n = ((kn (moC cs cl c n k g s) c).1 : Int) ∧ ∀ cs' k' g' s', moR cs' (moC cs cl c n k g s) c n k' g' s' = (a, false, 0) ∧ moN (moC cs cl c n k g s) c n = false := by
    intro hA hk
    obtain ⟨h1, h2, h3, h4⟩ := isA_t hA
    have hn : n = ((kn (moC cs cl c n k g s) c).1 : Int) := by rw [hk]; show n = ((n.toNat : Nat) : Int); omega
    refine ⟨hA, hk, hn, fun cs' k' g' s' => ?_⟩
    rcases mo_cases cs' (moC cs cl c n k g s) c n k' g' s' with ⟨q, _⟩ | ⟨_, q, _⟩ | ⟨_, _, q1, q2⟩ | ⟨_, q, _⟩
    · rw [hA] at q; cases q
    · omega
    · rw [hk] at q1; exact ⟨q1, q2⟩
    · omega
  rcases mo_cases cs cl c n k g s with ⟨_, q, _⟩ | ⟨_, _, q, _⟩ | ⟨hA, h1, q, hN⟩ | ⟨hA, h1, q, hN⟩
  · rw [hr] at q; injection q with _ q; injection q with _ q; cases q
  · rw [hr] at q; injection q with _ q; injection q with _ q; cases q
  · rw [hr] at q
    injection q with q1 q2
    refine key hA ?_
    unfold moC
    rw [hN, if_neg (by decide), q1]
    apply Prod.ext
    · show (kn cl c).1 = n.toNat; omega
    · rfl
  · rw [hr] at q
    injection q with q1 q2
    refine key hA ?_
    obtain ⟨h1, h2, h3, h4⟩ := isA_t hA
    unfold moC
    rw [if_pos hN, kn_set cl c c _ (by rw [hl]; omega), if_pos rfl, q1]
/-- What is asked against what was done. -/
theorem mo_done {cs : List (List Nat × List Nat)} {cl : List Kn} {c n k g s a : Int} {b : Bool} {E : Int} (hr : moR cs cl c n k g s = (a, b, E)) (hE : E ≠ 1) {dn : Int} (hd : dn ≤ ((kn cl c).1 : Int)) :
    dn < n ∨ (dn = n ∧ E = 6) ∨ (dn = n ∧ E = 0 ∧ b = false) ∨ (n < dn ∧ E = 6) := by
  rcases mo_cases cs cl c n k g s with ⟨_, q, _⟩ | ⟨_, h1, q, _⟩ | ⟨hA, h1, q, hN⟩ | ⟨hA, h1, q, hN⟩
  · rw [hr] at q; injection q with _ q; injection q with _ q; exact absurd q hE
  · rw [hr] at q; injection q with _ q; injection q with _ q; subst q
    rcases Int.lt_trichotomy dn n with h | h | h
    · exact .inl h
    · exact .inr (.inl ⟨h, rfl⟩)
    · exact .inr (.inr (.inr ⟨h, rfl⟩))
  · rw [hr] at q; injection q with _ q; injection q with q2 q; subst q q2
    rcases Int.lt_trichotomy dn n with h | h | h
    · exact .inl h
    · exact .inr (.inr (.inl ⟨h, rfl, rfl⟩))
    · omega
  · exact .inl (by omega)
/-- The moot beside the steps that were done. -/
structure Ro (w : World) (M B : Nat) (v ut : Value) (L : List Rc) (T : List C3) (cl : List Kn) (u : Value) (D : List S5) (wr : World) : Prop where
  mt : MtAt w.heap.size wr M B v ut L T cl
  bel : Below w.heap.size w wr
  row : wr.ownsRow w.heap.size 33 5 u D.length (scs D)
  ap : ∀ k, u.ownBlock = some k → ¬ MOwn M B v ut L k
theorem Ro.next {w : World} {M B : Nat} {v ut : Value} {L : List Rc} {T : List C3} {cl : List Kn} {u : Value} {D : List S5} {wr w' : World} (h : Ro w M B v ut L T cl u D wr) (hb : Below wr.heap.size wr w') : Ro w M B v ut L T cl u D w' :=
  ⟨h.mt.next hb, h.bel.trans (hb.mono h.bel.size), owns_next h.row hb, h.ap⟩
theorem Ro.did {w : World} {M B : Nat} {v ut : Value} {L : List Rc} {T : List C3} {cl : List Kn} {u : Value} {D : List S5} {wr w' : World} (h : Ro w M B v ut L T cl u D wr) {v' ut' : Value} {L' : List Rc} {T' : List C3} {cl' : List Kn} (hm : MtAt w.heap.size w' M B v' ut' L' T' cl') (hk : MK M B v ut L v' ut' L' wr w') : Ro w M B v' ut' L' T' cl' u D w' :=
  ⟨hm, hk.below h.mt h.bel, owns_kept h.row (fun k e => hk.block k (h.row.lt k e).2 (h.ap k e)), fun k e ho => (hk.new k ho).elim (h.ap k e) (fun q => by have := (h.row.lt k e).2; omega)⟩
theorem Ro.push {w : World} {M B : Nat} {v ut : Value} {L : List Rc} {T : List C3} {cl : List Kn} {u : Value} {D : List S5} {wr w5 : World} (h : Ro w M B v ut L T cl u D wr) {x : S5} {o : Obj} {gb cap : Nat} (h1 : w5.ownsRow w.heap.size 33 5 (.slice (some ⟨gb, 0, none⟩) (D.length + 1) cap) (D.length + 1) (scs D ++ s5s x)) (h2 : (wr.alloc o).grownBy w5 u.ownBlock) (h3 : u.ownBlock = some gb ∨ gb = (wr.alloc o).heap.size) : Ro w M B v ut L T cl (.slice (some ⟨gb, 0, none⟩) (D.length + 1) cap) (D ++ [x]) w5 := by
  have hsA : (wr.alloc o).heap.size = wr.heap.size + 1 := by simp
  have hbN := (Below.refl wr.heap.size wr).alloc (Nat.le_refl _) o
  have hkeep : ∀ jj, jj < wr.heap.size → u.ownBlock ≠ some jj → w5.heap[jj]? = wr.heap[jj]? := fun jj a b => (h2.block jj (by omega) (fun e => b e.symm)).trans (hbN.block jj a)
  have hs5 : wr.heap.size ≤ w5.heap.size := by have := h2.size; omega
  refine ⟨h.mt.kept hs5 (fun k hk => hkeep k (h.mt.own_lt hk).2 (fun e => h.ap k e hk)), (h.bel.alloc h.bel.size o).grown h2 (by have := h.bel.size; omega) (fun q hq => (h.row.lt q hq).1), ?_, fun k hk ho => ?_⟩
  · rw [List.length_append, scs_snoc]; exact h1
  · have hk' : gb = k := by simpa [Value.ownBlock] using hk
    subst hk'
    rcases h3 with h3 | h3
    · exact h.ap gb h3 ho
    · have hge : wr.heap.size + 1 = gb := hsA.symm.trans h3.symm
      have := (h.mt.own_lt ho).2
      omega
end Go.Proofs.Ytkamjfcnipjpkaa
