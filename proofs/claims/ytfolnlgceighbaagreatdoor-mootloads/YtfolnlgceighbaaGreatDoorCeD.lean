/- Chains: ChainRuns: the chain beside the commands. -/
import Derived.Test.YtfolnlgceighbaaGreatDoorCeC
namespace Go.Proofs.YtfolnlgceighbaaGreatDoor
open Go.RowKit
attribute [local go_sem ↓] Go.wp_at_zero Go.wp_at_succ

theorem ChAt.kept {base : Nat} {w w' : World} {B : Nat} {v : Value} {l : List Rc} (h : ChAt base w B v l) (hs : w.heap.size ≤ w'.heap.size) (hB : w'.heap[B]? = w.heap[B]?) (hv : ∀ k, v.ownBlock = some k → w'.heap[k]? = w.heap[k]?)
    (hr : ∀ (i : Nat) r, l[i]? = some r → ∀ k, r.1.ownBlock = some k → w'.heap[k]? = w.heap[k]?) : ChAt base w' B v l :=
  ⟨hB.trans h.blk, owns_kept h.own hv, h.ne, h.low, fun i r hi => by
    obtain ⟨a, b, c, d⟩ := h.ok i r hi
    exact ⟨a, b, Il_blk c (hr i r hi) hs, fun k hk => by
      obtain ⟨e1, e2, e3⟩ := d k hk
      exact ⟨e1, Nat.lt_of_lt_of_le e2 hs, e3⟩⟩⟩
/-- A chain beside the commands that it was given. -/
structure Rl (w : World) (B : Nat) (L : List Rc) (vc u : Value) (cl : List C3) (wr : World) : Prop where
  ch : ChAt w.heap.size wr B vc L
  row : wr.ownsRow w.heap.size 100 3 u cl.length (ccs cl)
  ap : ∀ k, u.ownBlock = some k → k ≠ B ∧ vc.ownBlock ≠ some k ∧ ∀ (i : Nat) r, L[i]? = some r → r.1.ownBlock ≠ some k
  bel : Below w.heap.size w wr
theorem Rl.next {w : World} {B : Nat} {L : List Rc} {vc u : Value} {cl : List C3} {wr w' : World} (h : Rl w B L vc u cl wr) (hb : Below wr.heap.size wr w') : Rl w B L vc u cl w' :=
  ⟨h.ch.next hb, owns_next h.row hb, h.ap, h.bel.trans (hb.mono h.bel.size)⟩
theorem Rl.did {w : World} {B : Nat} {L : List Rc} {vc u : Value} {cl : List C3} {wr w' : World} (h : Rl w B L vc u cl wr) {k g s : Int} (hd : DoPost2 w.heap.size B vc L k g s wr w') : ∃ L2 v2, cls L2 = doC (cls L) k g s ∧ Rl w B L2 v2 u cl w' := by
  obtain ⟨v2, L2, h1, h2, h3, h4, h5⟩ := hd
  refine ⟨L2, v2, h1, h2, owns_kept h.row (fun j hj => ?_), fun j hj => ?_, h3.below h.bel h.bel.size h.ch⟩
  · obtain ⟨a1, a2, _⟩ := h.ap j hj
    exact h3.block j (h.row.lt j hj).2 a1 a2
  · obtain ⟨a1, a2, a3⟩ := h.ap j hj
    have hlt := (h.row.lt j hj).2
    refine ⟨a1, fun e => ?_, fun i r hr e => ?_⟩
    · rcases h4 j e with e | e
      · exact a2 e
      · omega
    · rcases h5 i r hr with hr | hr
      · exact a3 i r hr e
      · have := hr j e; omega
theorem Rl.push {w : World} {B : Nat} {L : List Rc} {vc u : Value} {cl : List C3} {wr w5 : World} (h : Rl w B L vc u cl wr) {x : C3} {o : Obj} {gb cap : Nat} (h1 : w5.ownsRow w.heap.size 100 3 (.slice (some ⟨gb, 0, none⟩) (cl.length + 1) cap) (cl.length + 1) (ccs cl ++ c3s x)) (h2 : (wr.alloc o).grownBy w5 u.ownBlock) (h3 : u.ownBlock = some gb ∨ gb = (wr.alloc o).heap.size) : Rl w B L vc (.slice (some ⟨gb, 0, none⟩) (cl.length + 1) cap) (cl ++ [x]) w5 := by
  have hsA : (wr.alloc o).heap.size = wr.heap.size + 1 := by simp
  have hbN := (Below.refl wr.heap.size wr).alloc (Nat.le_refl _) o
  have hkeep : ∀ jj, jj < wr.heap.size → u.ownBlock ≠ some jj → w5.heap[jj]? = wr.heap[jj]? := fun jj a b => (h2.block jj (by omega) (fun e => b e.symm)).trans (hbN.block jj a)
  have hs5 : wr.heap.size ≤ w5.heap.size := by have := h2.size; omega
  have hBu : u.ownBlock ≠ some B := fun e => (h.ap B e).1 rfl
  refine ⟨h.ch.kept hs5 (hkeep B h.ch.lt hBu) (fun k hk => hkeep k (h.ch.own.lt k hk).2 (fun e => (h.ap k e).2.1 hk)) (fun i r hr k hk => hkeep k ((h.ch.ok i r hr).2.2.2 k hk).2.1 (fun e => (h.ap k e).2.2 i r hr hk)), ?_, fun k hk => ?_, ?_⟩
  · rw [List.length_append, ccs_snoc]; exact h1
  · have hk' : gb = k := by simpa [Value.ownBlock] using hk
    subst hk'
    rcases h3 with h3 | h3
    · exact h.ap gb h3
    · have hge : wr.heap.size + 1 = gb := hsA.symm.trans h3.symm
      refine ⟨by have := h.ch.lt; omega, fun e => by have := (h.ch.own.lt gb e).2; omega, fun i r hr e => by have := ((h.ch.ok i r hr).2.2.2 gb e).2.1; omega⟩
  · exact (h.bel.alloc h.bel.size o).grown h2 (by have := h.bel.size; omega) (fun q hq => (h.row.lt q hq).1)
theorem ccs_at : ∀ (l : List C3) (i : Nat) (x : C3), l[i]? = some x → ∀ j, j < 3 → (ccs l)[i * 3 + j]? = (c3s x)[j]?
  | [], _, _, h, _, _ => by cases h
  | a :: l, 0, x, h, j, hj => by
    have : a = x := by simpa using h
    subst this
    show (c3s a ++ ccs l)[0 * 3 + j]? = _
    rw [List.getElem?_append_left (by simp [c3s]; omega), Nat.zero_mul, Nat.zero_add]
  | a :: l, i + 1, x, h, j, hj => by
    show (c3s a ++ ccs l)[(i + 1) * 3 + j]? = _
    rw [List.getElem?_append_right (by simp [c3s]; omega), show (i + 1) * 3 + j - (c3s a).length = i * 3 + j by simp [c3s]; omega]
    exact ccs_at l i x (by simpa using h) j hj
theorem Cs_owns {w : World} {base : Nat} {u : Value} {l : List C3} (h : w.ownsRow base 100 3 u l.length (ccs l)) : Cs w u l := by
  rcases Nat.eq_zero_or_pos l.length with h0 | h0
  · obtain ⟨a, c, rfl⟩ := owns_slice h
    have := List.length_eq_zero_iff.1 h0
    subst this
    exact .inl ⟨rfl, a, c, rfl⟩
  · obtain ⟨g, cap, rfl, hb, hlt⟩ := h.form h0
    refine .inr ⟨g, 0, cap, rfl, hlt, fun i x hx => ?_⟩
    have hi : i < l.length := (List.getElem?_eq_some_iff.1 hx).1
    refine ⟨?_, ?_, ?_⟩
    · have e := (h.cellAt (i * 3 + 0) (by omega)).trans (ccs_at l i x hx 0 (by omega)); rw [Nat.add_zero] at e; rw [Nat.zero_add]; exact e
    · have e := (h.cellAt (i * 3 + 1) (by omega)).trans (ccs_at l i x hx 1 (by omega)); rw [Nat.zero_add]; exact e
    · have e := (h.cellAt (i * 3 + 2) (by omega)).trans (ccs_at l i x hx 2 (by omega)); rw [Nat.zero_add]; exact e
end Go.Proofs.YtfolnlgceighbaaGreatDoor
