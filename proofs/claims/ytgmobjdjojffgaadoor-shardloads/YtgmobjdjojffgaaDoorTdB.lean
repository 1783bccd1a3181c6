/- The document's table in memory; at, walked. -/
import Derived.Test.YtgmobjdjojffgaaDoorTbH
import Derived.Test.YtgmobjdjojffgaaDoorTbQ
namespace Go.Proofs.YtgmobjdjojffgaaDoor
open Go.RowKit
attribute [local go_sem ↓] Go.wp_at_zero Go.wp_at_succ

/-- The document's table, as it stands somewhere. -/
structure RfAt (w : World) (B o : Nat) (L : List Rw) (u : Value) : Prop where
  cell : w.cell? ⟨B, o, none⟩ = some u
  fz : w.frozen? ⟨B, o, none⟩ = false
  rows : w.ownsRow 0 120 2 u L.length (rcs L)
  own : ∀ k, u.ownBlock = some k → k ≠ B
  len : L.length ≤ 16
  val : ∀ r ∈ L, r.2.length ≤ 64
theorem RfAt.lt {w : World} {B o : Nat} {L : List Rw} {u : Value} (h : RfAt w B o L u) : B < w.heap.size := World.block_lt_of_cell? w _ h.cell
theorem RfAt.keep {w w' : World} {B o : Nat} {L : List Rw} {u : Value} (h : RfAt w B o L u) (h1 : w'.heap[B]? = w.heap[B]?) (h2 : ∀ k, u.ownBlock = some k → k < w.heap.size → w'.heap[k]? = w.heap[k]?) : RfAt w' B o L u := by
  refine ⟨(World.cell?_of_block (w := w) (a := ⟨B, o, none⟩) h1).trans h.cell, (World.frozen?_of_block (w := w) (a := ⟨B, o, none⟩) h1).trans h.fz, ?_, h.own, h.len, h.val⟩
  obtain ⟨hl, hr⟩ := h.rows
  rcases hr with hr | ⟨g, cap, cur, rfl, hb, hh, hrest⟩
  · exact ⟨hl, .inl hr⟩
  · exact ⟨hl, .inr ⟨g, cap, cur, rfl, hb, (h2 g rfl (Array.getElem?_eq_some_iff.1 hh).1).trans hh, hrest⟩⟩
theorem RfAt.on {w w' : World} {B o : Nat} {L : List Rw} {u : Value} (h : RfAt w B o L u) (hb : Below w.heap.size w w') : RfAt w' B o L u := h.keep (hb.block B h.lt) fun k _ hk => hb.block k hk
theorem RfAt.rs {w : World} {B o : Nat} {L : List Rw} {u : Value} (h : RfAt w B o L u) : Rs w u L := Rs.of_owns h.rows

/-- Where a key's row stands. -/
def atI (L : List Rw) (k : List UInt8) : Int := match L.findIdx? (fun r => r.1 == k) with
  | some i => i
  | none => -1
theorem atI_some {L : List Rw} {k : List UInt8} {i : Nat} {r : Rw} (hr : L[i]? = some r) (he : r.1 = k) (hb : ∀ (j : Nat) (q : Rw), L[j]? = some q → j < i → q.1 ≠ k) : atI L k = i := by
  have : L.findIdx? (fun r => r.1 == k) = some i := by
    rw [List.findIdx?_eq_some_iff_getElem]
    obtain ⟨hi, e⟩ := List.getElem?_eq_some_iff.1 hr
    refine ⟨hi, by rw [e]; simpa using he, fun j hj => ?_⟩
    simpa using hb j _ (List.getElem?_eq_getElem (by omega)) hj
  rw [atI, this]
theorem atI_none {L : List Rw} {k : List UInt8} (hb : ∀ (j : Nat) (q : Rw), L[j]? = some q → q.1 ≠ k) : atI L k = -1 := by
  have : L.findIdx? (fun r => r.1 == k) = none := by
    rw [List.findIdx?_eq_none_iff]
    intro x hx
    obtain ⟨j, hj⟩ := List.mem_iff_getElem?.1 hx
    simpa using hb j x hj
  rw [atI, this]
end Go.Proofs.YtgmobjdjojffgaaDoor
