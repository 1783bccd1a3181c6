/- What the document's table does: plain. -/
import Derived.Test.YtihilkdokfdoeaaDoorTdB
namespace Go.Proofs.YtihilkdokfdoeaaDoor
open Go.RowKit

def rPut (L : List Rw) (k v : List UInt8) : List Rw := match L.findIdx? (fun r => r.1 == k) with
  | some i => L.set i (k, v)
  | none => L ++ [(k, v)]
def rDel (L : List Rw) (k : List UInt8) : List Rw := L.filter fun r => !(r.1 == k)
/-- What the document's table tells, and its rows behind it. -/
def rdoL (L : List Rw) (kind : Int) (k v o : List UInt8) : List UInt8 × Int × List Rw :=
  if chk kind k v o ≠ 0 then ([], chk kind k v o, L)
  else
    let t := tells (val? L k) L.length kind v o
    (t.1, t.2, if t.2 ≠ 0 ∨ kind = 1 then L else if kind = 4 then rDel L k else rPut L k (now (val? L k) kind v))
theorem at_cases (L : List Rw) (k : List UInt8) : (atI L k = -1 ∧ val? L k = none ∧ ∀ v, rPut L k v = L ++ [(k, v)]) ∨ ∃ (i : Nat) (u : List UInt8), atI L k = i ∧ L[i]? = some (k, u) ∧ val? L k = some u ∧ ∀ v, rPut L k v = L.set i (k, v) := by
  cases h : L.findIdx? (fun r => r.1 == k) with
  | none =>
    left
    refine ⟨by rw [atI, h], ?_, fun v => by rw [rPut, h]⟩
    rw [List.findIdx?_eq_none_iff] at h
    exact val_out fun r hr => by simpa using h r hr
  | some i =>
    right
    have h' := h
    rw [List.findIdx?_eq_some_iff_getElem] at h
    obtain ⟨hi, h1, h2⟩ := h
    have hk : (L[i]).1 = k := by simpa using h1
    refine ⟨i, (L[i]).2, by rw [atI, h'], by rw [List.getElem?_eq_getElem hi, ← hk], ?_, fun v => by rw [rPut, h']⟩
    rw [val?]
    have : (L.find? fun r => r.1 == k) = some L[i] := by
      rw [List.find?_eq_some_iff_getElem]
      exact ⟨h1, i, hi, rfl, fun j hj => by simpa using h2 j hj⟩
    rw [this]
    rfl
theorem rcs_set {L : List Rw} {i : Nat} {k u : List UInt8} (h : L[i]? = some (k, u)) (v : List UInt8) : rcs (L.set i (k, v)) = (rcs L).set (i * 2 + 1) (.string (bs v)) := by
  induction L generalizing i with
  | nil => simp at h
  | cons r L ih =>
    cases i with
    | zero =>
      simp at h
      subst h
      simp [rcs]
    | succ i =>
      have := ih (i := i) (by simpa using h)
      rw [List.set_cons_succ]
      rw [show rcs (r :: L.set i (k, v)) = [.string (bs r.1), .string (bs r.2)] ++ rcs (L.set i (k, v)) from rfl, this, show rcs (r :: L) = [.string (bs r.1), .string (bs r.2)] ++ rcs L from rfl]
      rw [List.set_append_right _ _ (by simp; omega)]
      congr 2
      simp
      omega

/-- What a call on the document's table leaves. -/
structure Mr (B o : Nat) (u : Value) (w w' : World) : Prop where
  os : w'.os = w.os
  tape : w'.tape = w.tape
  output : w'.output = w.output
  size : w.heap.size ≤ w'.heap.size
  block : ∀ k, k < w.heap.size → k ≠ B → u.ownBlock ≠ some k → w'.heap[k]? = w.heap[k]?
  cells : ∀ j, j ≠ o → w'.cell? ⟨B, j, none⟩ = w.cell? ⟨B, j, none⟩
  fz : ∀ j, w'.frozen? ⟨B, j, none⟩ = w.frozen? ⟨B, j, none⟩
theorem Mr.of_below {w w' : World} (h : Below w.heap.size w w') (B o : Nat) (hB : B < w.heap.size) (u : Value) : Mr B o u w w' :=
  ⟨h.os, h.tape, h.output, h.size, fun k hk _ _ => h.block k hk, fun j _ => h.cell (p := ⟨B, j, none⟩) hB, fun j => h.frozen (p := ⟨B, j, none⟩) hB⟩
theorem Mr.after {B o : Nat} {u : Value} {w w1 w2 : World} (h : Below w.heap.size w w1) (hB : B < w.heap.size) (k : Mr B o u w1 w2) : Mr B o u w w2 :=
  ⟨k.os.trans h.os, k.tape.trans h.tape, k.output.trans h.output, Nat.le_trans h.size k.size, fun i hi h1 h2 => (k.block i (Nat.lt_of_lt_of_le hi h.size) h1 h2).trans (h.block i hi), fun j hj => (k.cells j hj).trans (h.cell (p := ⟨B, j, none⟩) hB), fun j => (k.fz j).trans (h.frozen (p := ⟨B, j, none⟩) hB)⟩
theorem Mr.below {B o b : Nat} {u : Value} {w w' : World} (h : Mr B o u w w') (hB : b ≤ B) (hb : b ≤ w.heap.size) (hu : ∀ k, u.ownBlock = some k → b ≤ k) : Below b w w' :=
  ⟨h.os, h.tape, h.output, h.size, fun k hk => h.block k (by omega) (by omega) fun e => (by have := hu k e; omega)⟩
/-- What Do leaves. -/
def RefPost (w : World) (B o : Nat) (u : Value) (L' : List Rw) (W' : World) : Prop :=
  ∃ u', RfAt W' B o L' u' ∧ (∀ q, u'.ownBlock = some q → u.ownBlock = some q ∨ w.heap.size ≤ q) ∧ Mr B o u w W'
theorem RefPost.same {w W' : World} {B o : Nat} {u : Value} {L : List Rw} (h : RfAt w B o L u) (hb : Below w.heap.size w W') : RefPost w B o u L W' := ⟨u, h.on hb, fun _ hq => .inl hq, Mr.of_below hb B o h.lt u⟩
theorem cell_set (w : World) (B o : Nat) (v x : Value) (hc : w.cell? ⟨B, o, none⟩ = some x) : (w.setCell ⟨B, o, none⟩ v).cell? ⟨B, o, none⟩ = some v := by
  unfold World.cell? at hc
  cases hb : w.heap[B]? with
  | none => simp [hb] at hc
  | some ob =>
    cases ob with
    | cells cs t fr =>
      simp only [hb] at hc
      refine cellB (setB hb o v) o v ?_
      obtain ⟨hlt, _⟩ := Array.getElem?_eq_some_iff.1 hc
      simp [hlt]
    | _ => simp [hb] at hc
theorem cell_set_ne (w : World) (B o j : Nat) (v : Value) (hj : j ≠ o) : (w.setCell ⟨B, o, none⟩ v).cell? ⟨B, j, none⟩ = w.cell? ⟨B, j, none⟩ := by
  cases hb : w.heap[B]? with
  | none =>
    have : (w.setCell ⟨B, o, none⟩ v).heap[B]? = none := by
      unfold World.setCell
      simp [Array.getElem?_modify, hb]
    simp [World.cell?, this, hb]
  | some ob =>
    cases ob with
    | cells cs t fr =>
      have := setB hb o v
      simp only [World.cell?, this, hb]
      rw [Array.getElem?_setIfInBounds_ne (Ne.symm hj)]
    | _ =>
      have : (w.setCell ⟨B, o, none⟩ v).heap[B]? = w.heap[B]? := by
        unfold World.setCell
        simp [Array.getElem?_modify, hb]
      simp [World.cell?, this, hb]
theorem fz_set (w : World) (B o j : Nat) (v : Value) : (w.setCell ⟨B, o, none⟩ v).frozen? ⟨B, j, none⟩ = w.frozen? ⟨B, j, none⟩ := by
  cases hb : w.heap[B]? with
  | none =>
    have : (w.setCell ⟨B, o, none⟩ v).heap[B]? = none := by
      unfold World.setCell
      simp [Array.getElem?_modify, hb]
    simp [World.frozen?, this, hb]
  | some ob =>
    cases ob with
    | cells cs t fr =>
      have := setB hb o v
      simp [World.frozen?, this, hb]
    | _ =>
      have : (w.setCell ⟨B, o, none⟩ v).heap[B]? = w.heap[B]? := by
        unfold World.setCell
        simp [Array.getElem?_modify, hb]
      simp [World.frozen?, this, hb]
/-- A new list is put into its place. -/
theorem ref_end {w W : World} {B o : Nat} {u u' : Value} {L L' : List Rw} (h : RfAt w B o L u) (hg : w.heap.size ≤ W.heap.size ∧ W.os = w.os ∧ W.tape = w.tape ∧ W.output = w.output) (hblk : ∀ k, k < w.heap.size → u.ownBlock ≠ some k → W.heap[k]? = w.heap[k]?) (hr : W.ownsRow 0 117 2 u' L'.length (rcs L')) (ho : ∀ q, u'.ownBlock = some q → u.ownBlock = some q ∨ w.heap.size ≤ q) (hl : L'.length ≤ 16) (hv : ∀ r ∈ L', r.2.length ≤ 64) :
    RefPost w B o u L' (W.setCell ⟨B, o, none⟩ u') := by
  have hB := h.lt
  have hBu : u.ownBlock ≠ some B := fun e => h.own B e rfl
  have hBk := hblk B hB hBu
  have hne : ∀ q, u'.ownBlock = some q → q ≠ B := fun q hq => by
    rcases ho q hq with e | e
    · exact h.own q e
    · omega
  have hc := (World.cell?_of_block (w := w) (a := ⟨B, o, none⟩) hBk).trans h.cell
  refine ⟨u', ⟨cell_set W B o u' u hc, (fz_set W B o o u').trans ((World.frozen?_of_block (w := w) (a := ⟨B, o, none⟩) hBk).trans h.fz), ?_, hne, hl, hv⟩, ho, hg.2.1, hg.2.2.1, hg.2.2.2, by simpa using hg.1, fun k hk hkB hku => (set_far hkB o u').trans (hblk k hk hku), fun j hj => (cell_set_ne W B o j u' hj).trans (World.cell?_of_block (w := w) (a := ⟨B, j, none⟩) hBk), fun j => (fz_set W B o j u').trans (World.frozen?_of_block (w := w) (a := ⟨B, j, none⟩) hBk)⟩
  obtain ⟨h1, h2⟩ := hr
  rcases h2 with h2 | ⟨g, cap, cur, rfl, hb, hh, hrest⟩
  · exact ⟨h1, .inl h2⟩
  · exact ⟨h1, .inr ⟨g, cap, cur, rfl, hb, (set_far (hne g rfl) o _).trans hh, hrest⟩⟩
end Go.Proofs.YtihilkdokfdoeaaDoor
