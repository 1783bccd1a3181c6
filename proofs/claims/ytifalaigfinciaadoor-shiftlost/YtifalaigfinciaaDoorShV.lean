/- Changes of one best order each, gathered. -/
import Derived.Test.YtifalaigfinciaaDoorShN
namespace Go.Proofs.YtifalaigfinciaaDoor
open Go.RowKit

/-- A change's one best order, in a block of its own. -/
def OneB (W : World) (c : Cv) : Prop := ∃ B b, c.bv = .slice (some ⟨B, 0, none⟩) 1 1 ∧ c.bl = [b] ∧ W.heap[B]? = some (.cells #[.int .i64 b.n, .int .i64 b.v, .string (bs b.t), .int .i64 b.g, .slice b.ta b.tn b.tc] 55)
theorem OneB.bl {W : World} {c : Cv} (h : OneB W c) : Bl W.heap.size W c.bv c.bl := by
  obtain ⟨B, b, h1, h2, h3⟩ := h
  rw [h1, h2]
  refine .inr ⟨B, 0, 1, rfl, (Array.getElem?_eq_some_iff.1 h3).1, fun i x hx => ?_⟩
  match i, hx with
  | 0, hx =>
    simp at hx; subst hx
    exact ⟨cellB h3 0 _ rfl, cellB h3 1 _ rfl, cellB h3 2 _ rfl, cellB h3 3 _ rfl, cellB h3 4 _ rfl⟩
  | i + 1, hx => simp at hx
theorem OneB.below {W W' : World} {c : Cv} (h : OneB W c) (hb : Below W.heap.size W W') : OneB W' c := by
  obtain ⟨B, b, h1, h2, h3⟩ := h
  exact ⟨B, b, h1, h2, (hb.block B (Array.getElem?_eq_some_iff.1 h3).1).trans h3⟩
theorem OneB.grown {W W' : World} {c : Cv} (h : OneB W c) {base n : Nat} {u : Value} {xs : List Value} (hu : W.ownsRow base 27 6 u n xs) (hg : W.grownBy W' u.ownBlock) : OneB W' c := by
  obtain ⟨B, b, h1, h2, h3⟩ := h
  refine ⟨B, b, h1, h2, (hg.block B (Array.getElem?_eq_some_iff.1 h3).1 ?_).trans h3⟩
  intro e
  rcases hu.2 with ⟨rfl, _⟩ | ⟨g, cap, cur, rfl, _, hgb, _⟩
  · simp [Value.ownBlock] at e
  · obtain rfl : B = g := by simpa [Value.ownBlock] using e
    rw [hgb] at h3
    simp at h3
/-- What has been gathered so far. -/
structure LI (Q0 : Nat) (N V O : Int) (G : List UInt8) (gd : Nat → Prop) (wr : World) (u : Value) (j : Nat) (L : List Cv) : Prop where
  own : wr.ownsRow Q0 27 6 u L.length (ccs L)
  one : ∀ c ∈ L, OneB wr c
  ok : ∀ c ∈ L, c.low = 0 ∧ ∀ b ∈ c.bl, b.n = N ∧ ((b.v = V ∧ b.t = G) ∨ b.v = O)
  len : L.length ≤ j
  has : ∀ i, i < j → gd i → ∃ b ∈ allB L, b.v = V
theorem LI.skip {Q0 : Nat} {N V O : Int} {G : List UInt8} {gd : Nat → Prop} {wr : World} {u : Value} {j : Nat} {L : List Cv} (h : LI Q0 N V O G gd wr u j L) (hn : ¬ gd j) : LI Q0 N V O G gd wr u (j + 1) L := by
  refine ⟨h.own, h.one, h.ok, by have := h.len; omega, fun i hi hg => ?_⟩
  by_cases hij : i = j
  · subst hij; exact absurd hg hn
  · exact h.has i (by omega) hg
theorem LI.step {Q0 : Nat} {N V O : Int} {G : List UInt8} {gd : Nat → Prop} {wr W4 w5 : World} {u u' : Value} {j : Nat} {L : List Cv} (h : LI Q0 N V O G gd wr u j L) (hb : Below wr.heap.size wr W4) {cv : Int} {B : Nat} {x : Bv}
    (hB : W4.heap[B]? = some (.cells #[.int .i64 x.n, .int .i64 x.v, .string (bs x.t), .int .i64 x.g, .slice x.ta x.tn x.tc] 55)) (hx : x.n = N ∧ ((x.v = V ∧ x.t = G) ∨ x.v = O)) (hgd : gd j → x.v = V)
    (hown : w5.ownsRow Q0 27 6 u' (L.length + 1) (ccs L ++ c6 ⟨cv, 0, [], 0, none, 0, 0, .slice (some ⟨B, 0, none⟩) 1 1, [x]⟩)) (hg : W4.grownBy w5 u.ownBlock) :
    LI Q0 N V O G gd w5 u' (j + 1) (L ++ [⟨cv, 0, [], 0, none, 0, 0, .slice (some ⟨B, 0, none⟩) 1 1, [x]⟩]) := by
  have h4 := own_kept h.own hb
  refine ⟨?_, fun c hc => ?_, fun c hc => ?_, by have := h.len; simp; omega, fun i hi hgi => ?_⟩
  · rw [ccs_snoc, List.length_append]; exact hown
  · rcases List.mem_append.1 hc with hc | hc
    · exact ((h.one c hc).below hb).grown h4 hg
    · rw [List.mem_singleton.1 hc]
      exact OneB.grown ⟨B, x, rfl, rfl, hB⟩ h4 hg
  · rcases List.mem_append.1 hc with hc | hc
    · exact h.ok c hc
    · rw [List.mem_singleton.1 hc]
      exact ⟨rfl, fun b hb => by rw [List.mem_singleton.1 hb]; exact hx⟩
  · by_cases hij : i = j
    · subst hij
      exact ⟨x, by simp [allB], hgd hgi⟩
    · obtain ⟨b, h1, h2⟩ := h.has i (by omega) hgi
      exact ⟨b, by simp only [allB, List.flatMap_append, List.mem_append]; exact .inl h1, h2⟩
theorem LI.cl {Q0 : Nat} {N V O : Int} {G : List UInt8} {gd : Nat → Prop} {wr : World} {u : Value} {j : Nat} {L : List Cv} (h : LI Q0 N V O G gd wr u j L) : Cl wr.heap.size wr u L ∧ ∀ c ∈ L, c.bl.length ≤ 1000 :=
  ⟨Cl.of_owns h.own (Nat.le_refl _) fun c hc => (h.one c hc).bl, fun c hc => by obtain ⟨B, b, _, h2, _⟩ := h.one c hc; rw [h2]; simp⟩
theorem LI.plan {Q0 : Nat} {N V O : Int} {G batch : List UInt8} {gd : Nat → Prop} {wr : World} {u : Value} {j : Nat} {L : List Cv} (h : LI Q0 N V O G gd wr u j L) (hN : 1 ≤ N) (hN8 : N ≤ 8) (hO : O < V) (hx : ∃ i, i < j ∧ gd i) (hG : (sreadV G).2.2.2.2 = batch) :
    lowL L = 0 ∧ (fillsL L).length = N.toNat ∧ (fillsL L)[N.toNat - 1]? = some (N, batch) := by
  obtain ⟨i, hi, hg⟩ := hx
  refine lost_plan hN hN8 hO (fun c hc => (h.ok c hc).1) (fun b hb => ?_) (h.has i hi hg) hG
  obtain ⟨c, hc, hbc⟩ := allB_mem.1 hb
  exact (h.ok c hc).2 b hbc
end Go.Proofs.YtifalaigfinciaaDoor
