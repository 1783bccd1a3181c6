/- The document's parts, walked. -/
import Derived.Test.YtihilkdokfdoeaaDoorPlK
import Derived.Test.YtihilkdokfdoeaaDoorPlB
namespace Go.Proofs.YtihilkdokfdoeaaDoor
open Go.RowKit Go.Maps
attribute [local go_sem ↓] Go.wp_at_zero Go.wp_at_succ

def ptC (calls : List Cl) (s n : Nat) : List Cl := (calls.take n).filter fun c => plcK c.op.k == s
def ptP (calls : List Cl) (pts : List Pt) (s n : Nat) : List Pt := (pts.take n).filter fun p => shP calls p == s
theorem ptC_all (calls : List Cl) (s : Nat) : ptC calls s calls.length = partC calls s := by rw [ptC, List.take_length]; rfl
theorem ptP_all (calls : List Cl) (pts : List Pt) (s : Nat) : ptP calls pts s pts.length = partP calls pts s := by rw [ptP, List.take_length]; rfl
theorem ptC_len (calls : List Cl) (s n : Nat) : (ptC calls s n).length ≤ n := Nat.le_trans (List.length_filter_le _ _) (by rw [List.length_take]; omega)
theorem ptP_len (calls : List Cl) (pts : List Pt) (s n : Nat) : (ptP calls pts s n).length ≤ n := Nat.le_trans (List.length_filter_le _ _) (by rw [List.length_take]; omega)
theorem ptC_yes {calls : List Cl} {s n : Nat} {c : Cl} (h : calls[n]? = some c) (hs : plcK c.op.k = s) : ptC calls s (n + 1) = ptC calls s n ++ [c] := by rw [ptC, take_snoc h, List.filter_append]; simp [ptC, hs]
theorem ptC_no {calls : List Cl} {s n : Nat} {c : Cl} (h : calls[n]? = some c) (hs : ¬ plcK c.op.k = s) : ptC calls s (n + 1) = ptC calls s n := by rw [ptC, take_snoc h, List.filter_append]; simp [ptC, hs]
theorem ptP_yes {calls : List Cl} {pts : List Pt} {s n : Nat} {p : Pt} (h : pts[n]? = some p) (hs : shP calls p = s) : ptP calls pts s (n + 1) = ptP calls pts s n ++ [p] := by rw [ptP, take_snoc h, List.filter_append]; simp [ptP, hs]
theorem ptP_no {calls : List Cl} {pts : List Pt} {s n : Nat} {p : Pt} (h : pts[n]? = some p) (hs : ¬ shP calls p = s) : ptP calls pts s (n + 1) = ptP calls pts s n := by rw [ptP, take_snoc h, List.filter_append]; simp [ptP, hs]
/-- A struct's field that is appended to: block M's cell j. -/
structure FB {α : Type} (fl : α → List Value) (sz : Nat) (ty : TypeId) (M base : Nat) (cs : Value → Array Value) (A : List α) (x : Value) (w0 W : World) : Prop where
  box : W.heap[M]? = some (.cells (cs x) 39)
  own : W.ownsRow base ty sz x A.length (A.flatMap fl)
  below : Below M w0 W
  far : ∀ k, k < base → k ≠ M → W.heap[k]? = w0.heap[k]?
  lo : M < base
  hi : base ≤ W.heap.size
theorem FB.on {α : Type} {fl : α → List Value} {sz : Nat} {ty : TypeId} {M base : Nat} {cs : Value → Array Value} {A : List α} {x : Value} {w0 W W' : World} (h : FB fl sz ty M base cs A x w0 W) (hb : Below W.heap.size W W') : FB fl sz ty M base cs A x w0 W' := by
  have hM : M < W.heap.size := (Array.getElem?_eq_some_iff.1 h.box).1
  have := h.hi
  exact ⟨(hb.block M hM).trans h.box, owns_keep h.own fun q e => hb.block q (h.own.lt q e).2, h.below.trans (hb.mono (by omega)), fun k h1 h2 => (hb.block k (by omega)).trans (h.far k h1 h2), h.lo, by have := hb.size; omega⟩
theorem FB.app {α : Type} {fl : α → List Value} {sz : Nat} {ty : TypeId} {M base : Nat} {cs : Value → Array Value} {A : List α} {x : Value} {w0 W W2 W3 : World} (h : FB fl sz ty M base cs A x w0 W) (hb : Below W.heap.size W W2) {a : α} {g cap j : Nat} (h1 : W3.ownsRow base ty sz (.slice (some ⟨g, 0, none⟩) (A.length + 1) cap) (A.length + 1) (A.flatMap fl ++ fl a)) (h2 : W2.grownBy W3 x.ownBlock) (hcs : ∀ v, (cs x).setIfInBounds j v = cs v) :
    FB fl sz ty M base cs (A ++ [a]) (.slice (some ⟨g, 0, none⟩) (A.length + 1) cap) w0 (W3.setCell ⟨M, j, none⟩ (.slice (some ⟨g, 0, none⟩) (A.length + 1) cap)) ∧ W3.heap[M]? = some (.cells (cs x) 39) := by
  have hM : M < W.heap.size := (Array.getElem?_eq_some_iff.1 h.box).1
  have hlo := h.lo
  have hhi := h.hi
  have hs := hb.size
  have hs2 := h2.size
  have hbx : W3.heap[M]? = some (.cells (cs x) 39) := (h2.block M (by omega) (fun e => by have := (h.own.lt M e.symm).1; omega)).trans ((hb.block M hM).trans h.box)
  refine ⟨⟨?_, ?_, ?_, fun k h5 h6 => ?_, h.lo, ?_⟩, hbx⟩
  · have := setB hbx j (.slice (some ⟨g, 0, none⟩) (A.length + 1) cap)
    rw [hcs] at this
    exact this
  · rw [List.length_append, List.flatMap_append]
    have e : ([a] : List α).flatMap fl = fl a := by simp
    rw [e]
    exact owns_keep h1 fun q e => set_far (by have := (h1.lt q e).1; omega) _ _
  · exact ((h.below.trans (hb.mono (by omega))).grown h2 (by omega) (fun z hz => by have := (h.own.lt z hz).1; omega)).setCell (p := ⟨M, j, none⟩) (Nat.le_refl _) _
  · rw [set_far (by omega)]
    exact ((h2.block k (by omega) (fun e => by have := (h.own.lt k e.symm).1; omega)).trans (hb.block k (by omega))).trans (h.far k h5 h6)
  · simp; omega
/-- In the midst of the document's Split. -/
structure RS (calls : List Cl) (pts : List Pt) (N : Nat) (w : World) (x : Value) (U V : Nat → Value) (s : Nat) (W : World) : Prop where
  row : W.ownsRow N 39 2 x s ((List.range s).flatMap fun i => [U i, V i])
  cs : ∀ i, i < s → SlF ccs 10 W (U i) (partC calls i)
  ps : ∀ i, i < s → SlF pks 5 W (V i) (partP calls pts i)
  ap : ∀ i, i < s → ∀ q, (U i).ownBlock = some q ∨ (V i).ownBlock = some q → q < W.heap.size ∧ x.ownBlock ≠ some q
  below : Below N w W
theorem RS.on {calls : List Cl} {pts : List Pt} {N : Nat} {w : World} {x : Value} {U V : Nat → Value} {s : Nat} {W W' : World} (h : RS calls pts N w x U V s W) (hb : Below W.heap.size W W') (hN : N ≤ W.heap.size) : RS calls pts N w x U V s W' :=
  ⟨owns_keep h.row fun q e => hb.block q (h.row.lt q e).2, fun i hi => (h.cs i hi).on hb (Nat.le_refl _), fun i hi => (h.ps i hi).on hb (Nat.le_refl _), fun i hi q hq => ⟨Nat.lt_of_lt_of_le (h.ap i hi q hq).1 hb.size, (h.ap i hi q hq).2⟩, h.below.trans (hb.mono hN)⟩
theorem RS.app {calls : List Cl} {pts : List Pt} {N : Nat} {w : World} {x : Value} {U V : Nat → Value} {s : Nat} {W W2 W3 : World} (h : RS calls pts N w x U V s W) (hb : Below W.heap.size W W2) (hN : N ≤ W.heap.size) {X Y : Value} {g cap : Nat}
    (h1 : W3.ownsRow N 39 2 (.slice (some ⟨g, 0, none⟩) (s + 1) cap) (s + 1) (((List.range s).flatMap fun i => [U i, V i]) ++ [X, Y])) (h2 : W2.grownBy W3 x.ownBlock) (h3 : x.ownBlock = some g ∨ g = W2.heap.size)
    (hX : SlF ccs 10 W2 X (partC calls s)) (hY : SlF pks 5 W2 Y (partP calls pts s)) (hq : ∀ q, X.ownBlock = some q ∨ Y.ownBlock = some q → q < W2.heap.size ∧ W.heap.size ≤ q) :
    RS calls pts N w (.slice (some ⟨g, 0, none⟩) (s + 1) cap) (updF U s X) (updF V s Y) (s + 1) W3 := by
  have hs := hb.size
  have hs2 := h2.size
  have hxl : ∀ q, x.ownBlock = some q → q < W.heap.size := fun q e => (h.row.lt q e).2
  have hg : ∀ q, q < W2.heap.size → x.ownBlock ≠ some q → ¬ g = q := fun q hq1 hq2 e => by
    subst e
    rcases h3 with h3 | h3
    · exact hq2 h3
    · omega
  refine ⟨?_, fun i hi => ?_, fun i hi => ?_, fun i hi q hqq => ?_, ?_⟩
  · have e : ((List.range (s + 1)).flatMap fun i => [updF U s X i, updF V s Y i]) = ((List.range s).flatMap fun i => [U i, V i]) ++ [X, Y] := by
      rw [List.range_succ, List.flatMap_append]
      congr 1
      · rw [List.flatMap_def, List.flatMap_def]
        congr 1
        refine List.map_congr_left fun i hi => ?_
        have : i < s := List.mem_range.1 hi
        unfold updF
        rw [if_neg (by omega), if_neg (by omega)]
      · simp [updF]
    rw [e]
    exact h1
  · unfold updF
    by_cases e : i = s
    · subst e
      rw [if_pos rfl]
      exact hX.keep hs2 fun q hq1 hq2 => h2.block q hq2 (fun e => by have := hxl q e.symm; have := (hq q (.inl hq1)).2; omega)
    · rw [if_neg e]
      refine (h.cs i (by omega)).keep (by omega) fun q hq1 hq2 => ?_
      exact (h2.block q (by omega) (fun e => (h.ap i (by omega) q (.inl hq1)).2 e.symm)).trans (hb.block q hq2)
  · unfold updF
    by_cases e : i = s
    · subst e
      rw [if_pos rfl]
      exact hY.keep hs2 fun q hq1 hq2 => h2.block q hq2 (fun e => by have := hxl q e.symm; have := (hq q (.inr hq1)).2; omega)
    · rw [if_neg e]
      refine (h.ps i (by omega)).keep (by omega) fun q hq1 hq2 => ?_
      exact (h2.block q (by omega) (fun e => (h.ap i (by omega) q (.inr hq1)).2 e.symm)).trans (hb.block q hq2)
  · unfold updF at hqq
    by_cases e : i = s
    · subst e
      rw [if_pos rfl, if_pos rfl] at hqq
      have h4 := hq q hqq
      refine ⟨by omega, fun e => hg q h4.1 (fun e2 => by have := hxl q e2; omega) (by simpa [Value.ownBlock] using e)⟩
    · rw [if_neg e, if_neg e] at hqq
      have h4 := h.ap i (by omega) q hqq
      refine ⟨by omega, fun e => hg q (by omega) h4.2 (by simpa [Value.ownBlock] using e)⟩
  · exact (h.below.trans (hb.mono hN)).grown h2 (by omega) (fun z hz => (h.row.lt z hz).1)
theorem Tryd.info39 : (Tryd.prog.info? 39).map (fun i => (i.zero, i.size, i.bytes)) = some (some (.agg #[.slice none 0 0, .slice none 0 0]), 2, 48) := by kernel_rfl
end Go.Proofs.YtihilkdokfdoeaaDoor
