/- Texts on their way: what a bag is in memory, and what a call leaves as it was. -/
import Derived.Test.YtemmnojcickcpaaProg
import Derived.WalkKit
import Derived.WalkSpells
import Derived.WalkLawsBesides
import Derived.BigRegion
import Derived.BigQuiet
import Derived.Deep.RegionHeld3
import Derived.Deep.DrawnRows
import Derived.Deep.DeepCutAuto
import Derived.Deep.AppendLies
import Derived.Deep.RegionLaw
import Derived.Deep.LoopGhost
import Derived.OwnWalk
namespace Go.Proofs.Ytemmnojcickcpaa
open Go.RowKit
attribute [local go_sem ↓] Go.wp_at_zero Go.wp_at_succ

/-- A text's bytes as a string. -/
def bs (l : List UInt8) : ByteArray := ⟨l.toArray⟩
theorem bs_data (s : ByteArray) : bs s.data.toList = s := by cases s; rfl
theorem bs_size (l : List UInt8) : (bs l).size = l.length := by show l.toArray.size = _; simp
theorem bs_inj {a b : List UInt8} (h : bs a = bs b) : a = b := by
  have := congrArg (fun s : ByteArray => s.data.toList) h
  simpa [bs] using this
theorem str_ne {a b : ByteArray} (h : ¬ a = b) : (a.toList == b.toList) = false := by
  rw [ByteArray.toList_eq, ByteArray.toList_eq]
  apply Bool.eq_false_iff.2
  intro hh
  apply h
  have := eq_of_beq hh
  cases a; cases b
  simp at this
  simp [this]
theorem cellB {w : World} {B : Nat} {cs : Array Value} {t : TypeId} {fr : Nat × Nat} (h : w.heap[B]? = some (.cells cs t fr)) (j : Nat) (u : Value) (hu : cs[j]? = some u) : w.cell? ⟨B, j, none⟩ = some u := by
  unfold World.cell?; simp only [h]; exact hu
theorem frozenB {w : World} {B : Nat} {cs : Array Value} {t : TypeId} (h : w.heap[B]? = some (.cells cs t)) (j : Nat) : w.frozen? ⟨B, j, none⟩ = false := by
  unfold World.frozen?; simp [h]
theorem setB {w : World} {B : Nat} {cs : Array Value} {t : TypeId} {fr : Nat × Nat} (h : w.heap[B]? = some (.cells cs t fr)) (j : Nat) (a : Value) :
    (w.setCell ⟨B, j, none⟩ a).heap[B]? = some (.cells (cs.setIfInBounds j a) t fr) := by
  unfold World.setCell
  simp only [Array.getElem?_modify, if_true, h, Option.map_some]
  rfl
theorem set_far {w : World} {B k : Nat} (h : k ≠ B) (j : Nat) (u : Value) : (w.setCell ⟨B, j, none⟩ u).heap[k]? = w.heap[k]? := Below.heap_setCell _ _ _ _ h
theorem below_drew {n : Nat} {w w' : World} (h : Below n w w') : Below n w w'.drew := ⟨h.os, h.tape, h.output, h.size, h.block⟩
theorem owns_slice {w : World} {base n : Nat} {e : TypeId} {s : Nat} {v : Value} {xs : List Value} (h : w.ownsRow base e s v n xs) : ∃ a cap, v = .slice a n cap := by
  rcases h.2 with ⟨rfl, rfl⟩ | ⟨g, cap, cur, rfl, _⟩
  · exact ⟨none, 0, rfl⟩
  · exact ⟨_, cap, rfl⟩
theorem info_parts {P : Program} {E : TypeId} {z : Value} {s b : Nat} (h : (P.info? E).map (fun i => (i.zero, i.size, i.bytes)) = some (some z, s, b)) :
    ∃ i, P.info? E = some i ∧ i.zero = some z ∧ i.size = s ∧ i.bytes = b := by
  cases hi : P.info? E with
  | none => rw [hi] at h; cases h
  | some i => rw [hi] at h; simp at h; exact ⟨i, rfl, h.1, h.2.1, h.2.2⟩

/-- A text on its way: from, to, since, its bytes. -/
abbrev It := Int × Int × Int × List UInt8
/-- It as a value. -/
def itV (a : It) : Value := .agg #[.int .i64 a.1, .int .i64 a.2.1, .int .i64 a.2.2.1, .string (bs a.2.2.2)]
/-- Items as cells. -/
def ics (l : List It) : List Value := l.flatMap fun a => [.int .i64 a.1, .int .i64 a.2.1, .int .i64 a.2.2.1, .string (bs a.2.2.2)]
theorem ics_cons (a : It) (l : List It) : ics (a :: l) = .int .i64 a.1 :: .int .i64 a.2.1 :: .int .i64 a.2.2.1 :: .string (bs a.2.2.2) :: ics l := rfl
theorem ics_len (l : List It) : (ics l).length = l.length * 4 := by
  induction l with
  | nil => rfl
  | cons t r ih => rw [ics_cons]; simp only [List.length_cons, ih]; omega
theorem ics_append (a b : List It) : ics (a ++ b) = ics a ++ ics b := by simp [ics]
theorem ics_at (l : List It) (i : Nat) (t : It) (h : l[i]? = some t) : (ics l)[i * 4]? = some (.int .i64 t.1) ∧ (ics l)[i * 4 + 1]? = some (.int .i64 t.2.1) ∧ (ics l)[i * 4 + 2]? = some (.int .i64 t.2.2.1) ∧ (ics l)[i * 4 + 3]? = some (.string (bs t.2.2.2)) := by
  induction l generalizing i with
  | nil => cases h
  | cons a r ih =>
    rw [ics_cons]
    cases i with
    | zero => simp at h; subst h; exact ⟨rfl, rfl, rfl, rfl⟩
    | succ i =>
      have := ih i (by simpa using h)
      rw [show (i + 1) * 4 = i * 4 + 1 + 1 + 1 + 1 from by omega]
      simpa using this
theorem ics_take (l : List It) (k : Nat) : (ics l).take (k * 4) = ics (l.take k) := by
  induction l generalizing k with
  | nil => simp [ics]
  | cons a r ih =>
    cases k with
    | zero => simp [ics]
    | succ k =>
      rw [ics_cons, List.take_succ_cons, ics_cons, show (k + 1) * 4 = k * 4 + 1 + 1 + 1 + 1 from by omega]
      simp only [List.take_succ_cons, ih]
theorem ics_drop (l : List It) (k : Nat) : (ics l).drop (k * 4) = ics (l.drop k) := by
  induction l generalizing k with
  | nil => simp [ics]
  | cons a r ih =>
    cases k with
    | zero => simp
    | succ k =>
      rw [ics_cons, List.drop_succ_cons, show (k + 1) * 4 = k * 4 + 1 + 1 + 1 + 1 from by omega]
      simp only [List.drop_succ_cons, ih]
theorem ics_one (l : List It) : ∀ u ∈ ics l, u.oneCell' = true := by
  intro u hu
  obtain ⟨a, _, h⟩ := List.mem_flatMap.1 hu
  simp at h
  rcases h with rfl | rfl | rfl | rfl <;> rfl

/-- What a call on one object leaves: all blocks but the object's own two are as they were. -/
structure Moved (B : Nat) (v v' : Value) (w w' : World) : Prop where
  os : w'.os = w.os
  tape : w'.tape = w.tape
  output : w'.output = w.output
  size : w.heap.size ≤ w'.heap.size
  block : ∀ k, k < w.heap.size → k ≠ B → v.ownBlock ≠ some k → w'.heap[k]? = w.heap[k]?
  own : ∀ k, v'.ownBlock = some k → v.ownBlock = some k ∨ w.heap.size ≤ k
theorem Moved.refl (B : Nat) (v : Value) (w : World) : Moved B v v w w := ⟨rfl, rfl, rfl, Nat.le_refl _, fun _ _ _ _ => rfl, fun _ h => .inl h⟩
theorem Moved.of_below {w w' : World} (h : Below w.heap.size w w') (B : Nat) (v : Value) : Moved B v v w w' := ⟨h.os, h.tape, h.output, h.size, fun k hk _ _ => h.block k hk, fun _ h => .inl h⟩
theorem Moved.trans {B : Nat} {v v1 v2 : Value} {w w1 w2 : World} (h : Moved B v v1 w w1) (k : Moved B v1 v2 w1 w2) : Moved B v v2 w w2 :=
  ⟨k.os.trans h.os, k.tape.trans h.tape, k.output.trans h.output, Nat.le_trans h.size k.size,
    fun i hi h1 h2 => (k.block i (Nat.lt_of_lt_of_le hi h.size) h1 (fun e => by rcases h.own i e with e | e; exact h2 e; omega)).trans (h.block i hi h1 h2),
    fun i hi => by
      rcases k.own i hi with e | e
      · exact h.own i e
      · exact .inr (Nat.le_trans h.size e)⟩
theorem Moved.below {B b : Nat} {v v' : Value} {w w' : World} (h : Moved B v v' w w') (hB : b ≤ B) (hv : ∀ k, v.ownBlock = some k → b ≤ k) (hb : b ≤ w.heap.size) : Below b w w' :=
  ⟨h.os, h.tape, h.output, h.size, fun k hk => h.block k (by omega) (by omega) (fun e => by have := hv k e; omega)⟩

/-- A bag of these items, so many dropped: T its type, E its items'. -/
structure BagAt (T E : TypeId) (base : Nat) (w : World) (B : Nat) (v : Value) (l : List It) (d : Int) : Prop where
  blk : w.heap[B]? = some (.cells #[v, .int .i64 d] T)
  own : w.ownsRow base E 4 v l.length (ics l)
  ne : v.ownBlock ≠ some B
  base : base ≤ B
theorem BagAt.lt {T E : TypeId} {base : Nat} {w : World} {B : Nat} {v : Value} {l : List It} {d : Int} (h : BagAt T E base w B v l d) : B < w.heap.size := (Array.getElem?_eq_some_iff.1 h.blk).1
theorem owns_kept {w w' : World} {base n : Nat} {e : TypeId} {s : Nat} {v : Value} {xs : List Value} (h : w.ownsRow base e s v n xs) (hk : ∀ k, v.ownBlock = some k → w'.heap[k]? = w.heap[k]?) : w'.ownsRow base e s v n xs := by
  obtain ⟨hl, h | ⟨g, cap, cur, rfl, h2, h3, h4⟩⟩ := h
  · exact ⟨hl, .inl h⟩
  · exact ⟨hl, .inr ⟨g, cap, cur, rfl, h2, (hk g rfl).trans h3, h4⟩⟩
theorem BagAt.keep {T E : TypeId} {base : Nat} {w w' : World} {B : Nat} {v : Value} {l : List It} {d : Int} (h : BagAt T E base w B v l d) (hB : w'.heap[B]? = w.heap[B]?) (hk : ∀ k, v.ownBlock = some k → w'.heap[k]? = w.heap[k]?) : BagAt T E base w' B v l d :=
  ⟨hB.trans h.blk, owns_kept h.own hk, h.ne, h.base⟩
theorem BagAt.next {T E : TypeId} {base : Nat} {w w' : World} {B : Nat} {v : Value} {l : List It} {d : Int} (h : BagAt T E base w B v l d) (hb : Below w.heap.size w w') : BagAt T E base w' B v l d :=
  h.keep (hb.block B h.lt) (fun k hk => hb.block k (h.own.lt k hk).2)
/-- Two objects that have no block in common. -/
structure Apart (B : Nat) (v : Value) (B2 : Nat) (v2 : Value) : Prop where
  a : B ≠ B2
  b : v.ownBlock ≠ some B2
  c : v2.ownBlock ≠ some B
  d : ∀ k, v.ownBlock = some k → v2.ownBlock ≠ some k
theorem Apart.symm {B B2 : Nat} {v v2 : Value} (h : Apart B v B2 v2) : Apart B2 v2 B v := ⟨h.a.symm, h.c, h.b, fun k h1 h2 => h.d k h2 h1⟩
theorem BagAt.other {T E : TypeId} {base : Nat} {w w' : World} {B B2 : Nat} {v v' v2 : Value} {l : List It} {d : Int} (h : BagAt T E base w B2 v2 l d) (hm : Moved B v v' w w') (ha : Apart B v B2 v2) : BagAt T E base w' B2 v2 l d :=
  h.keep (hm.block B2 h.lt ha.a.symm ha.b) (fun k hk => hm.block k (h.own.lt k hk).2 (fun e => ha.c (by rw [← e]; exact hk)) (fun e => ha.d k e hk))
theorem Apart.moved {w w' : World} {B B2 : Nat} {v v' v2 : Value} (ha : Apart B v B2 v2) (hm : Moved B v v' w w') (h2 : B2 < w.heap.size) (h3 : ∀ k, v2.ownBlock = some k → k < w.heap.size) : Apart B v' B2 v2 :=
  ⟨ha.a, fun e => by rcases hm.own _ e with e | e; exact ha.b e; omega, ha.c, fun k h1 e => by
    rcases hm.own k h1 with h | h
    · exact ha.d k h e
    · have := h3 k e; omega⟩
/-- The cells of the i'th item. -/
theorem BagAt.at {T E : TypeId} {base : Nat} {w : World} {B : Nat} {v : Value} {l : List It} {d : Int} (h : BagAt T E base w B v l d) (hl : 0 < l.length) : ∃ g cap, v = .slice (some ⟨g, 0, none⟩) l.length cap ∧ base ≤ g ∧ g < w.heap.size ∧ g ≠ B ∧ l.length ≤ cap ∧
    ∀ (i : Nat) t, l[i]? = some t → w.cell? ⟨g, i * 4, none⟩ = some (.int .i64 t.1) ∧ w.cell? ⟨g, i * 4 + 1, none⟩ = some (.int .i64 t.2.1) ∧ w.cell? ⟨g, i * 4 + 2, none⟩ = some (.int .i64 t.2.2.1) ∧ w.cell? ⟨g, i * 4 + 3, none⟩ = some (.string (bs t.2.2.2)) := by
  obtain ⟨g, cap, rfl, hb, hlt⟩ := h.own.form hl
  refine ⟨g, cap, rfl, hb, hlt, fun e => h.ne (by rw [← e]; rfl), ?_, fun i t ht => ?_⟩
  · rcases h.own.2 with ⟨hn, _⟩ | ⟨g', cap', cur, hv, _, _, hc, _⟩
    · cases hn
    · injection hv with _ _ hv; rw [hv]; exact hc
  · have hi : i < l.length := (List.getElem?_eq_some_iff.1 ht).1
    obtain ⟨e0, e1, e2, e3⟩ := ics_at l i t ht
    rw [← e0, ← e1, ← e2, ← e3]
    exact ⟨h.own.cellAt _ (by omega), h.own.cellAt _ (by omega), h.own.cellAt _ (by omega), h.own.cellAt _ (by omega)⟩
theorem BagAt.slice {T E : TypeId} {base : Nat} {w : World} {B : Nat} {v : Value} {l : List It} {d : Int} (h : BagAt T E base w B v l d) : ∃ a cap, v = .slice a l.length cap := owns_slice h.own
end Go.Proofs.Ytemmnojcickcpaa
