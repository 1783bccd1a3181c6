/- Votes of one number in one view: what a slot is in memory, and what a call leaves as it was. -/
import Derived.Test.YtobojfkoffhljaaProg
import Derived.WalkKit
import Derived.WalkSpells
import Derived.WalkLawsBesides
import Derived.BigRegion
import Derived.BigQuiet
import Derived.Deep.RegionHeld3
import Derived.Deep.DrawnRows
import Derived.Deep.DeepCutAuto
import Derived.Deep.AppendLies
import Derived.Deep.RegionLaw
import Derived.Deep.LoopGhost
import Derived.Deep.CutBlock
import Derived.OwnWalk
namespace Go.Proofs.Ytobojfkoffhljaa
open Go.RowKit
attribute [local go_sem ↓] Go.wp_at_zero Go.wp_at_succ

/-- A text's bytes as a string. -/
def bs (l : List UInt8) : ByteArray := ⟨l.toArray⟩
theorem bs_data (s : ByteArray) : bs s.data.toList = s := by cases s; rfl
theorem bs_size (l : List UInt8) : (bs l).size = l.length := by show l.toArray.size = _; simp
theorem bs_inj {a b : List UInt8} (h : bs a = bs b) : a = b := by
  have := congrArg (fun s : ByteArray => s.data.toList) h
  simpa [bs] using this
theorem cellB {w : World} {B : Nat} {cs : Array Value} {t : TypeId} {fr : Nat × Nat} (h : w.heap[B]? = some (.cells cs t fr)) (j : Nat) (u : Value) (hu : cs[j]? = some u) : w.cell? ⟨B, j, none⟩ = some u := by
  unfold World.cell?; simp only [h]; exact hu
theorem frozenB {w : World} {B : Nat} {cs : Array Value} {t : TypeId} (h : w.heap[B]? = some (.cells cs t)) (j : Nat) : w.frozen? ⟨B, j, none⟩ = false := by
  unfold World.frozen?; simp [h]
theorem setB {w : World} {B : Nat} {cs : Array Value} {t : TypeId} {fr : Nat × Nat} (h : w.heap[B]? = some (.cells cs t fr)) (j : Nat) (a : Value) :
    (w.setCell ⟨B, j, none⟩ a).heap[B]? = some (.cells (cs.setIfInBounds j a) t fr) := by
  unfold World.setCell
  simp only [Array.getElem?_modify, if_true, h, Option.map_some]
  rfl
theorem set_far {w : World} {B k : Nat} (h : k ≠ B) (j : Nat) (u : Value) : (w.setCell ⟨B, j, none⟩ u).heap[k]? = w.heap[k]? := Below.heap_setCell _ _ _ _ h
theorem below_drew {n : Nat} {w w' : World} (h : Below n w w') : Below n w w'.drew := ⟨h.os, h.tape, h.output, h.size, h.block⟩
theorem below_drewN {n : Nat} {w w' : World} (h : Below n w w') (k : Nat) : Below n w (w'.drewN k) := ⟨h.os, h.tape, h.output, h.size, h.block⟩
theorem owns_slice {w : World} {base n : Nat} {e : TypeId} {s : Nat} {v : Value} {xs : List Value} (h : w.ownsRow base e s v n xs) : ∃ a cap, v = .slice a n cap := by
  rcases h.2 with ⟨rfl, rfl⟩ | ⟨g, cap, cur, rfl, _⟩
  · exact ⟨none, 0, rfl⟩
  · exact ⟨_, cap, rfl⟩
theorem info_parts {P : Program} {E : TypeId} {z : Value} {s b : Nat} (h : (P.info? E).map (fun i => (i.zero, i.size, i.bytes)) = some (some z, s, b)) :
    ∃ i, P.info? E = some i ∧ i.zero = some z ∧ i.size = s ∧ i.bytes = b := by
  cases hi : P.info? E with
  | none => rw [hi] at h; cases h
  | some i => rw [hi] at h; simp at h; exact ⟨i, rfl, h.1, h.2.1, h.2.2⟩
theorem owns_kept {w w' : World} {base n : Nat} {e : TypeId} {s : Nat} {v : Value} {xs : List Value} (h : w.ownsRow base e s v n xs) (hk : ∀ k, v.ownBlock = some k → w'.heap[k]? = w.heap[k]?) : w'.ownsRow base e s v n xs := by
  obtain ⟨hl, h | ⟨g, cap, cur, rfl, h2, h3, h4⟩⟩ := h
  · exact ⟨hl, .inl h⟩
  · exact ⟨hl, .inr ⟨g, cap, cur, rfl, h2, (hk g rfl).trans h3, h4⟩⟩
theorem owns_next {w w' : World} {base n : Nat} {e : TypeId} {s : Nat} {v : Value} {xs : List Value} (h : w.ownsRow base e s v n xs) (hb : Below w.heap.size w w') : w'.ownsRow base e s v n xs := owns_kept h (fun k hk => hb.block k (h.lt k hk).2)
theorem owns_base {w : World} {base base' n : Nat} {e : TypeId} {s : Nat} {v : Value} {xs : List Value} (h : w.ownsRow base e s v n xs) (hb : base' ≤ base) : w.ownsRow base' e s v n xs := by
  obtain ⟨hl, h | ⟨g, cap, cur, rfl, h2, h3⟩⟩ := h
  · exact ⟨hl, .inl h⟩
  · exact ⟨hl, .inr ⟨g, cap, cur, rfl, Nat.le_trans hb h2, h3⟩⟩

theorem bs_list (a : List UInt8) : (bs a).toList = a := ByteArray.toList_eq _
theorem str_same (a : List UInt8) : ((bs a).toList == (bs a).toList) = true := by simp
theorem str_other {a b : List UInt8} (h : a ≠ b) : ((bs a).toList == (bs b).toList) = false := by
  rw [bs_list, bs_list]; simpa using h
theorem cell_alloc {w : World} {p : Addr} {v : Value} (o : Obj) (h : w.cell? p = some v) : (w.alloc o).cell? p = some v := by
  have hlt : p.block < w.heap.size := by
    rcases Nat.lt_or_ge p.block w.heap.size with h' | h'
    · exact h'
    · simp [World.cell?, Array.getElem?_eq_none h'] at h
  rw [← h]
  simp only [World.cell?, World.alloc, Array.getElem?_push, Nat.ne_of_lt hlt, if_false]
/-- A world behind W0: all that stood there stands there. -/
structure Cw (W0 : World) where
  w : World
  h : Below W0.heap.size W0 w
theorem wp_region_grow {P : Program} {id : Nat} {Q : Exit → Act → World → Prop} {a : Act} {w W0 : World} {l : List Oper} (hm : P.follows .mixedOrders = true) (hB : Region.lexB .any l.toArray = true) (hw : Below W0.heap.size W0 w)
    (h : wpQuiet P l.toArray (fun w' => ∃ x : Cw W0, w' = x.w) (fun a' => ∀ w', (∃ x : Cw W0, w' = x.w) → Q .normal a' w') l a) : (Code.region id l.toArray true).wp P Q a w :=
  wp_region_quiet (C := fun w' => ∃ x : Cw W0, w' = x.w) hm hB ⟨⟨_, below_drew hw⟩, rfl⟩ (by simpa using h)
theorem growC {k : Nat} {args : Array Value} {v : Value} (hC : ∀ W, Calls Try.prog k args W fun e W' => e = .returned v ∧ Below W.heap.size W W') (W0 : World) (x : Cw W0) :
    Calls Try.prog k args x.w fun e w'' => e = .returned v ∧ ∃ y : Cw W0, w'' = y.w := by
  refine (hC x.w).mono ?_
  rintro e W' ⟨rfl, hb⟩
  exact ⟨rfl, ⟨W', x.h.trans (hb.mono x.h.size)⟩, rfl⟩
theorem sameC {k : Nat} {args : Array Value} {v : Value} (hC : ∀ W, Calls Try.prog k args W fun e W' => e = .returned v ∧ W' = W) (W0 : World) (x : Cw W0) :
    Calls Try.prog k args x.w fun e w'' => e = .returned v ∧ ∃ y : Cw W0, w'' = y.w := by
  refine (hC x.w).mono ?_
  rintro e W' ⟨rfl, hb⟩
  exact ⟨rfl, x, hb⟩
/-- What a call leaves, beside what is held at all worlds behind W0. -/
theorem keepC {k : Nat} {args : Array Value} {v : Value} (hC : ∀ W, Calls Try.prog k args W fun e W' => e = .returned v ∧ Below W.heap.size W W') {W0 : World} {Z : World → Prop} (hZ : ∀ W', Below W0.heap.size W0 W' → Z W') :
    ∀ W, Below W0.heap.size W0 W → Calls Try.prog k args W fun e W' => e = .returned v ∧ Below W0.heap.size W0 W' ∧ Z W' := by
  intro W hW
  refine (hC W).mono ?_
  rintro e W' ⟨rfl, hb⟩
  have h2 := hW.trans (hb.mono hW.size)
  exact ⟨rfl, h2, hZ W' h2⟩
theorem sameB {k : Nat} {args : Array Value} {v : Value} (hC : ∀ W, Calls Try.prog k args W fun e W' => e = .returned v ∧ W' = W) (W : World) : Calls Try.prog k args W fun e W' => e = .returned v ∧ Below W.heap.size W W' :=
  (hC W).mono fun _ _ h => ⟨h.1, by rw [h.2]; exact Below.refl _ _⟩

/-- What a call on one object leaves: all blocks but the object's own are as they were. -/
structure Mv (B : Nat) (w w' : World) : Prop where
  os : w'.os = w.os
  tape : w'.tape = w.tape
  output : w'.output = w.output
  size : w.heap.size ≤ w'.heap.size
  block : ∀ k, k < w.heap.size → k ≠ B → w'.heap[k]? = w.heap[k]?
theorem Mv.refl (B : Nat) (w : World) : Mv B w w := ⟨rfl, rfl, rfl, Nat.le_refl _, fun _ _ _ => rfl⟩
theorem Mv.of_below {w w' : World} (h : Below w.heap.size w w') (B : Nat) : Mv B w w' := ⟨h.os, h.tape, h.output, h.size, fun k hk _ => h.block k hk⟩
theorem Mv.trans {B : Nat} {w w1 w2 : World} (h : Mv B w w1) (k : Mv B w1 w2) : Mv B w w2 :=
  ⟨k.os.trans h.os, k.tape.trans h.tape, k.output.trans h.output, Nat.le_trans h.size k.size, fun i hi h1 => (k.block i (Nat.lt_of_lt_of_le hi h.size) h1).trans (h.block i hi h1)⟩
theorem Mv.below {B b : Nat} {w w' : World} (h : Mv B w w') (hB : b ≤ B) (hb : b ≤ w.heap.size) : Below b w w' :=
  ⟨h.os, h.tape, h.output, h.size, fun k hk => h.block k (by omega) (by omega)⟩
theorem Mv.far {B k : Nat} {w w' : World} (hm : Mv B w w') (hk : k < w.heap.size) (h1 : k ≠ B) {o : Obj} (ho : w.heap[k]? = some o) : w'.heap[k]? = some o := (hm.block k hk h1).trans ho

/-- A vote: its text, its tag; without a tag it is none. -/
abbrev Vt := List UInt8 × List UInt8
/-- Votes, by the kind (0: Order, 1: Settle) and the replica. -/
abbrev Vs := Nat → Nat → Vt
def isV (g : List UInt8) : Bool := decide (g ≠ [])
/-- The votes' cells. -/
def VCells (cs : Array Value) (V : Vs) : Prop := ∀ k i, k < 2 → i < 10 → cs[3 + k * 20 + i * 2]? = some (.string (bs (V k i).1)) ∧ cs[3 + k * 20 + i * 2 + 1]? = some (.string (bs (V k i).2))
/-- A slot of these votes. -/
structure SlotAt (w : World) (B : Nat) (g : Int) (f p : Nat) (V : Vs) : Prop where
  blk : ∃ cs : Array Value, w.heap[B]? = some (.cells cs 89) ∧ cs[0]? = some (.int .i64 g) ∧ cs[1]? = some (.int .i64 f) ∧ cs[2]? = some (.int .i64 p) ∧ VCells cs V
  f3 : f ≤ 3
  pf : p ≤ 3 * f
theorem SlotAt.lt {w : World} {B : Nat} {g : Int} {f p : Nat} {V : Vs} (h : SlotAt w B g f p V) : B < w.heap.size := by
  obtain ⟨cs, h1, _⟩ := h.blk
  exact (Array.getElem?_eq_some_iff.1 h1).1
theorem SlotAt.keep {w w' : World} {B : Nat} {g : Int} {f p : Nat} {V : Vs} (h : SlotAt w B g f p V) (hB : w'.heap[B]? = w.heap[B]?) : SlotAt w' B g f p V := by
  obtain ⟨cs, h1, h2⟩ := h.blk
  exact ⟨⟨cs, hB.trans h1, h2⟩, h.f3, h.pf⟩
theorem SlotAt.next {w w' : World} {B : Nat} {g : Int} {f p : Nat} {V : Vs} (h : SlotAt w B g f p V) {b : Nat} (hb : Below b w w') (hB : B < b) : SlotAt w' B g f p V := h.keep (hb.block B hB)
theorem SlotAt.on {w w' : World} {B : Nat} {g : Int} {f p : Nat} {V : Vs} (h : SlotAt w B g f p V) (hb : Below w.heap.size w w') : SlotAt w' B g f p V := h.next hb h.lt
theorem SlotAt.c0 {w : World} {B : Nat} {g : Int} {f p : Nat} {V : Vs} (h : SlotAt w B g f p V) : w.cell? ⟨B, 0, none⟩ = some (.int .i64 g) ∧ w.cell? ⟨B, 1, none⟩ = some (.int .i64 f) ∧ w.cell? ⟨B, 2, none⟩ = some (.int .i64 p) := by
  obtain ⟨cs, h1, h2, h3, h4, _⟩ := h.blk
  exact ⟨cellB h1 0 _ h2, cellB h1 1 _ h3, cellB h1 2 _ h4⟩
theorem SlotAt.cv {w : World} {B : Nat} {g : Int} {f p : Nat} {V : Vs} (h : SlotAt w B g f p V) {k i : Nat} (hk : k < 2) (hi : i < 10) : w.cell? ⟨B, 3 + k * 20 + i * 2, none⟩ = some (.string (bs (V k i).1)) ∧ w.cell? ⟨B, 3 + k * 20 + i * 2 + 1, none⟩ = some (.string (bs (V k i).2)) ∧ w.frozen? ⟨B, 3 + k * 20 + i * 2, none⟩ = false ∧ w.frozen? ⟨B, 3 + k * 20 + i * 2 + 1, none⟩ = false := by
  obtain ⟨cs, h1, _, _, _, h2⟩ := h.blk
  obtain ⟨a, b⟩ := h2 k i hk hi
  exact ⟨cellB h1 _ _ a, cellB h1 _ _ b, frozenB h1 _, frozenB h1 _⟩
/-- A vote more. -/
def updV (V : Vs) (k i : Nat) (t : Vt) : Vs := fun a b => if a = k ∧ b = i then t else V a b
theorem VCells.put {cs : Array Value} {V : Vs} (h : VCells cs V) {k i : Nat} (hk : k < 2) (hi : i < 10) (t : Vt) : VCells ((cs.setIfInBounds (3 + k * 20 + i * 2) (.string (bs t.1))).setIfInBounds (3 + k * 20 + i * 2 + 1) (.string (bs t.2))) (updV V k i t) := by
  intro a b ha hb
  obtain ⟨x, y⟩ := h a b ha hb
  obtain ⟨x0, y0⟩ := h k i hk hi
  have l0 : 3 + k * 20 + i * 2 < cs.size := (Array.getElem?_eq_some_iff.1 x0).1
  have l1 : 3 + k * 20 + i * 2 + 1 < cs.size := (Array.getElem?_eq_some_iff.1 y0).1
  unfold updV
  by_cases e : a = k ∧ b = i
  · obtain ⟨rfl, rfl⟩ := e
    rw [if_pos ⟨rfl, rfl⟩]
    constructor
    · rw [Array.getElem?_setIfInBounds_ne (by omega), Array.getElem?_setIfInBounds_self]
      simp [l0]
    · rw [Array.getElem?_setIfInBounds_self]
      simp [l1]
  · rw [if_neg e]
    constructor
    · rw [Array.getElem?_setIfInBounds_ne (by omega), Array.getElem?_setIfInBounds_ne (by omega)]; exact x
    · rw [Array.getElem?_setIfInBounds_ne (by omega), Array.getElem?_setIfInBounds_ne (by omega)]; exact y
theorem SlotAt.put {w : World} {B : Nat} {g : Int} {f p : Nat} {V : Vs} (h : SlotAt w B g f p V) {k i : Nat} (hk : k < 2) (hi : i < 10) (t : Vt) : SlotAt ((w.setCell ⟨B, 3 + k * 20 + i * 2, none⟩ (.string (bs t.1))).setCell ⟨B, 3 + k * 20 + i * 2 + 1, none⟩ (.string (bs t.2))) B g f p (updV V k i t) := by
  obtain ⟨cs, h1, h2, h3, h4, h5⟩ := h.blk
  refine ⟨⟨_, setB (setB h1 _ _) _ _, ?_, ?_, ?_, h5.put hk hi t⟩, h.f3, h.pf⟩
  · rw [Array.getElem?_setIfInBounds_ne (by omega), Array.getElem?_setIfInBounds_ne (by omega)]; exact h2
  · rw [Array.getElem?_setIfInBounds_ne (by omega), Array.getElem?_setIfInBounds_ne (by omega)]; exact h3
  · rw [Array.getElem?_setIfInBounds_ne (by omega), Array.getElem?_setIfInBounds_ne (by omega)]; exact h4
theorem Mv.set2 (w : World) (B i j : Nat) (u v : Value) : Mv B w ((w.setCell ⟨B, i, none⟩ u).setCell ⟨B, j, none⟩ v) :=
  ⟨rfl, rfl, rfl, by simp [World.setCell], fun k _ h1 => (set_far (w := w.setCell ⟨B, i, none⟩ u) h1 _ _).trans (set_far h1 _ _)⟩
end Go.Proofs.Ytobojfkoffhljaa
