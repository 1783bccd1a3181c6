/- Shards: what a client's last one being turned leaves. -/
import Derived.Test.YtgmobjdjojffgaaDoorSdF
namespace Go.Proofs.YtgmobjdjojffgaaDoor
open Go.RowKit

/-- The clients, one of them anew. -/
def updC (c : Nat → La) (n : Nat) (x : La) : Nat → La := fun i => if i = n then x else c i
theorem ccs_cell (c : Nat → La) {i r : Nat} (hi : i < 8) (hr : r < 3) : (ccs c)[i * 3 + r]? = [Value.int .i64 (c i).1, .int .i64 (c i).2.1, .string (bs (c i).2.2)][r]? := by
  obtain ⟨a, b, d⟩ := ccs_at c i hi
  match r, hr with
  | 0, _ => exact a
  | 1, _ => exact b
  | 2, _ => exact d
theorem ccs_old (c : Nat → La) {n : Nat} (x : La) {j : Nat} (hj : j < 24) (h : j < n * 3 ∨ n * 3 + 3 ≤ j) : (ccs (updC c n x))[j]? = (ccs c)[j]? := by
  have e : j = (j / 3) * 3 + j % 3 := by omega
  have hi : j / 3 < 8 := by omega
  have hr : j % 3 < 3 := by omega
  have hne : j / 3 ≠ n := by omega
  rw [e, ccs_cell _ hi hr, ccs_cell _ hi hr, updC, if_neg hne]
theorem ccs_new (c : Nat → La) {n : Nat} (hn : n < 8) (x : La) {r : Nat} (hr : r < 3) : (ccs (updC c n x))[n * 3 + r]? = [Value.int .i64 x.1, .int .i64 x.2.1, .string (bs x.2.2)][r]? := by
  rw [ccs_cell _ hn hr, updC, if_pos rfl]
/-- Only these two blocks are not as they were. -/
structure Mv2 (B T : Nat) (w w' : World) : Prop where
  os : w'.os = w.os
  tape : w'.tape = w.tape
  output : w'.output = w.output
  size : w.heap.size ≤ w'.heap.size
  block : ∀ k, k < w.heap.size → k ≠ B → k ≠ T → w'.heap[k]? = w.heap[k]?
theorem Mv2.of_mv {B : Nat} {w w' : World} (h : Mv B w w') (T : Nat) : Mv2 B T w w' := ⟨h.os, h.tape, h.output, h.size, fun k hk h1 _ => h.block k hk h1⟩
theorem Mv2.of_below {w w' : World} (h : Below w.heap.size w w') (B T : Nat) : Mv2 B T w w' := ⟨h.os, h.tape, h.output, h.size, fun k hk _ _ => h.block k hk⟩
theorem Mv2.trans {B T : Nat} {w w1 w2 : World} (h : Mv2 B T w w1) (k : Mv2 B T w1 w2) : Mv2 B T w w2 :=
  ⟨k.os.trans h.os, k.tape.trans h.tape, k.output.trans h.output, Nat.le_trans h.size k.size, fun i hi h1 h2 => (k.block i (Nat.lt_of_lt_of_le hi h.size) h1 h2).trans (h.block i hi h1 h2)⟩
theorem Mv2.below {B T b : Nat} {w w' : World} (h : Mv2 B T w w') (hB : b ≤ B) (hT : b ≤ T) (hb : b ≤ w.heap.size) : Below b w w' :=
  ⟨h.os, h.tape, h.output, h.size, fun k hk => h.block k (by omega) (by omega) (by omega)⟩
/-- Behind Do of a new number. -/
def ShPost (w : World) (B T : Nat) (v : Value) (s' : Sh) (W' : World) : Prop := ∃ v', ShAt W' B s' T v' ∧ (∀ q, v'.ownBlock = some q → v.ownBlock = some q ∨ w.heap.size ≤ q) ∧ Mv2 B T w W'
theorem do_end {w w0 w1 : World} {B T Q n : Nat} {s : Sh} {v : Value} (hs : ShAt w B s T v) (h1 : s.st = 1) (hn : n < 8) (hb : Below w.heap.size w w0) {l' : List Rw} (hD : DoPost w0 T v l' w1) (hQ : w.heap.size ≤ Q) (hQ0 : Q < w0.heap.size) (x : La) :
    ShPost w B T v ⟨1, l', updC s.c n x⟩ ((w1.setCells B (2 + n * 3) [.int .i64 x.1, .int .i64 x.2.1, .string (bs x.2.2)]).setCells Q 0 [.int .i64 x.2.1, .string (bs x.2.2)]) := by
  obtain ⟨v', ht, ho, hm⟩ := hD
  have hc1 : hasC s.st = true := by rw [h1]; rfl
  have hQT : ∀ q, v'.ownBlock = some q → q ≠ Q := fun q e => by
    rcases ho q e with h | h
    · have := (hs.tab hc1).1.rows.lt q h
      omega
    · omega
  have hs0 := hs.on hb
  obtain ⟨t0, tB, tk⟩ := hs0.tab hc1
  have hlt := hs.lt
  have hblk : w1.heap[B]? = w0.heap[B]? := hm.block B hs0.lt (fun e => tB e.symm)
  have hQB : Q ≠ B := by omega
  have hTl := (hs.tab hc1).1.lt
  have hcell : ∀ j, w1.cell? ⟨B, j, none⟩ = w0.cell? ⟨B, j, none⟩ := fun j => World.cell?_of_block (w := w0) (a := ⟨B, j, none⟩) hblk
  have hfrz : ∀ j, w1.frozen? ⟨B, j, none⟩ = w0.frozen? ⟨B, j, none⟩ := fun j => World.frozen?_of_block (w := w0) (a := ⟨B, j, none⟩) hblk
  have hch : ∀ j y, (hcs s T)[j]? = some y → w1.cell? ⟨B, 1 + j, none⟩ = some y := fun j y hy => (hcell _).trans (hs0.ch j y hy)
  have hthere : w1.there B (2 + n * 3) 3 := fun j hj => by
    refine ⟨?_, (hfrz _).trans (hs0.fz _)⟩
    obtain ⟨y, hy⟩ : ∃ y, (hcs s T)[1 + n * 3 + j]? = some y := ⟨_, List.getElem?_eq_getElem (by rw [hcs_len]; omega)⟩
    have := hch _ y hy
    rw [show 1 + (1 + n * 3 + j) = 2 + n * 3 + j by omega] at this
    rw [this]
    rfl
  obtain ⟨a1, a2, a3, a4⟩ := setCells_more B [Value.int .i64 x.1, .int .i64 x.2.1, .string (bs x.2.2)] (2 + n * 3) w1
  obtain ⟨b1, b2, b3, b4⟩ := setCells_more Q [Value.int .i64 x.2.1, .string (bs x.2.2)] 0 (w1.setCells B (2 + n * 3) [Value.int .i64 x.1, .int .i64 x.2.1, .string (bs x.2.2)])
  have hfar : ∀ k, k ≠ B → k ≠ Q → ((w1.setCells B (2 + n * 3) [.int .i64 x.1, .int .i64 x.2.1, .string (bs x.2.2)]).setCells Q 0 [.int .i64 x.2.1, .string (bs x.2.2)]).heap[k]? = w1.heap[k]? := fun k h2 h3 => (setCells_heap Q _ 0 _ k h3).trans (setCells_heap B _ _ w1 k h2)
  have hnear : ∀ j, ((w1.setCells B (2 + n * 3) [.int .i64 x.1, .int .i64 x.2.1, .string (bs x.2.2)]).setCells Q 0 [.int .i64 x.2.1, .string (bs x.2.2)]).cell? ⟨B, j, none⟩ = (w1.setCells B (2 + n * 3) [.int .i64 x.1, .int .i64 x.2.1, .string (bs x.2.2)]).cell? ⟨B, j, none⟩ := fun j => World.cell?_of_block (setCells_heap Q _ 0 _ B (fun e => hQB e.symm))
  refine ⟨v', ⟨?_, ?_, fun j y hy => ?_, fun j => ?_, fun _ => ⟨ht.keep (hfar T tB (by omega)) (fun k e _ => hfar k ?_ (hQT k e)), tB, fun k e => ?_⟩, fun e => by cases e⟩, fun q e => ?_, ?_, ?_, ?_, ?_, ?_⟩
  · rw [b1, a1]
    exact Nat.lt_of_lt_of_le (Nat.lt_of_lt_of_le hlt hb.size) hm.size
  · rw [hnear, World.cell?_setCells_out B _ (2 + n * 3) w1 ⟨B, 0, none⟩ (fun _ _ => .inl (by simp; omega)), hcell, hs0.c0, h1]
  · rw [hnear]
    match j with
    | 0 =>
      rw [World.cell?_setCells_out B _ (2 + n * 3) w1 ⟨B, 1 + 0, none⟩ (fun _ _ => .inl (by simp; omega))]
      refine hch 0 y ?_
      rw [← hy, hcs, hcs, hc1]
      rfl
    | j + 1 =>
      have hj : j < 24 := by have := (List.getElem?_eq_some_iff.1 hy).1; rw [hcs_len] at this; omega
      have hy' : (ccs (updC s.c n x))[j]? = some y := by simpa [hcs] using hy
      by_cases hr : j < n * 3 ∨ n * 3 + 3 ≤ j
      · rw [World.cell?_setCells_out B _ (2 + n * 3) w1 ⟨B, 1 + (j + 1), none⟩ (fun _ _ => by simp; omega)]
        refine hch (j + 1) y ?_
        rw [ccs_old s.c x hj hr] at hy'
        simpa [hcs] using hy'
      · have e : j = n * 3 + (j - n * 3) := by omega
        rw [e, ccs_new s.c hn x (by omega)] at hy'
        have := World.rangeAt_setCells_same w1 B (2 + n * 3) [.int .i64 x.1, .int .i64 x.2.1, .string (bs x.2.2)] hthere (j - n * 3) y hy'
        rw [show 1 + (j + 1) = 2 + n * 3 + (j - n * 3) by omega]
        exact this
  · rw [World.frozen?_setCells, World.frozen?_setCells]
    exact (hfrz j).trans (hs0.fz j)
  · intro e2
    subst e2
    rcases ho k e with h | h
    · exact tk k h rfl
    · have := hs0.lt; omega
  · rcases ho k e with h | h
    · exact tk k h
    · have := hs0.lt; omega
  · rcases ho q e with h | h
    · exact .inl h
    · exact .inr (Nat.le_trans hb.size h)
  · exact (b2.trans a2).trans (hm.os.trans hb.os)
  · exact (b3.trans a3).trans (hm.tape.trans hb.tape)
  · exact (b4.trans a4).trans (hm.output.trans hb.output)
  · rw [b1, a1]
    exact Nat.le_trans hb.size hm.size
  · intro k hk k1 k2
    exact (hfar k k1 (by omega)).trans ((hm.block k (Nat.lt_of_lt_of_le hk hb.size) k2).trans (hb.block k hk))
end Go.Proofs.YtgmobjdjojffgaaDoor
