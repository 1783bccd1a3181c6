/- Requests that wait: what a pool is in memory, and what a call leaves as it was. -/
import Derived.Test.YtngoodidajbhcaaDoorProg
import Derived.WalkKit
import Derived.WalkSpells
import Derived.WalkLawsBesides
import Derived.BigRegion
import Derived.BigQuiet
import Derived.Deep.RegionHeld3
import Derived.Deep.DrawnRows
import Derived.Deep.DeepCutAuto
import Derived.Deep.AppendLies
import Derived.Deep.RegionLaw
import Derived.Deep.LoopGhost
import Derived.OwnWalk
namespace Go.Proofs.YtngoodidajbhcaaDoor.Bat
open Go.RowKit
attribute [local go_sem ↓] Go.wp_at_zero Go.wp_at_succ

/-- A text's bytes as a string. -/
def bs (l : List UInt8) : ByteArray := ⟨l.toArray⟩
theorem bs_data (s : ByteArray) : bs s.data.toList = s := by cases s; rfl
theorem bs_size (l : List UInt8) : (bs l).size = l.length := by show l.toArray.size = _; simp
theorem bs_inj {a b : List UInt8} (h : bs a = bs b) : a = b := by
  have := congrArg (fun s : ByteArray => s.data.toList) h
  simpa [bs] using this
theorem cellB {w : World} {B : Nat} {cs : Array Value} {t : TypeId} {fr : Nat × Nat} (h : w.heap[B]? = some (.cells cs t fr)) (j : Nat) (u : Value) (hu : cs[j]? = some u) : w.cell? ⟨B, j, none⟩ = some u := by
  unfold World.cell?; simp only [h]; exact hu
theorem frozenB {w : World} {B : Nat} {cs : Array Value} {t : TypeId} (h : w.heap[B]? = some (.cells cs t)) (j : Nat) : w.frozen? ⟨B, j, none⟩ = false := by
  unfold World.frozen?; simp [h]
theorem setB {w : World} {B : Nat} {cs : Array Value} {t : TypeId} {fr : Nat × Nat} (h : w.heap[B]? = some (.cells cs t fr)) (j : Nat) (a : Value) :
    (w.setCell ⟨B, j, none⟩ a).heap[B]? = some (.cells (cs.setIfInBounds j a) t fr) := by
  unfold World.setCell
  simp only [Array.getElem?_modify, if_true, h, Option.map_some]
  rfl
theorem set_far {w : World} {B k : Nat} (h : k ≠ B) (j : Nat) (u : Value) : (w.setCell ⟨B, j, none⟩ u).heap[k]? = w.heap[k]? := Below.heap_setCell _ _ _ _ h
theorem below_drew {n : Nat} {w w' : World} (h : Below n w w') : Below n w w'.drew := ⟨h.os, h.tape, h.output, h.size, h.block⟩
theorem below_drewN {n : Nat} {w w' : World} (h : Below n w w') (k : Nat) : Below n w (w'.drewN k) := ⟨h.os, h.tape, h.output, h.size, h.block⟩
theorem owns_slice {w : World} {base n : Nat} {e : TypeId} {s : Nat} {v : Value} {xs : List Value} (h : w.ownsRow base e s v n xs) : ∃ a cap, v = .slice a n cap := by
  rcases h.2 with ⟨rfl, rfl⟩ | ⟨g, cap, cur, rfl, _⟩
  · exact ⟨none, 0, rfl⟩
  · exact ⟨_, cap, rfl⟩
theorem info_parts {P : Program} {E : TypeId} {z : Value} {s b : Nat} (h : (P.info? E).map (fun i => (i.zero, i.size, i.bytes)) = some (some z, s, b)) :
    ∃ i, P.info? E = some i ∧ i.zero = some z ∧ i.size = s ∧ i.bytes = b := by
  cases hi : P.info? E with
  | none => rw [hi] at h; cases h
  | some i => rw [hi] at h; simp at h; exact ⟨i, rfl, h.1, h.2.1, h.2.2⟩
theorem owns_kept {w w' : World} {base n : Nat} {e : TypeId} {s : Nat} {v : Value} {xs : List Value} (h : w.ownsRow base e s v n xs) (hk : ∀ k, v.ownBlock = some k → w'.heap[k]? = w.heap[k]?) : w'.ownsRow base e s v n xs := by
  obtain ⟨hl, h | ⟨g, cap, cur, rfl, h2, h3, h4⟩⟩ := h
  · exact ⟨hl, .inl h⟩
  · exact ⟨hl, .inr ⟨g, cap, cur, rfl, h2, (hk g rfl).trans h3, h4⟩⟩
theorem owns_next {w w' : World} {base n : Nat} {e : TypeId} {s : Nat} {v : Value} {xs : List Value} (h : w.ownsRow base e s v n xs) (hb : Below w.heap.size w w') : w'.ownsRow base e s v n xs := owns_kept h (fun k hk => hb.block k (h.lt k hk).2)
theorem owns_base {w : World} {base base' n : Nat} {e : TypeId} {s : Nat} {v : Value} {xs : List Value} (h : w.ownsRow base e s v n xs) (hb : base' ≤ base) : w.ownsRow base' e s v n xs := by
  obtain ⟨hl, h | ⟨g, cap, cur, rfl, h2, h3⟩⟩ := h
  · exact ⟨hl, .inl h⟩
  · exact ⟨hl, .inr ⟨g, cap, cur, rfl, Nat.le_trans hb h2, h3⟩⟩

/-- A request: caller, number, text. -/
abbrev Rq := Int × Int × List UInt8
/-- Requests as cells. -/
def rcs (l : List Rq) : List Value := l.flatMap fun a => [.int .i64 a.1, .int .i64 a.2.1, .string (bs a.2.2)]
theorem rcs_cons (a : Rq) (l : List Rq) : rcs (a :: l) = .int .i64 a.1 :: .int .i64 a.2.1 :: .string (bs a.2.2) :: rcs l := rfl
theorem rcs_len (l : List Rq) : (rcs l).length = l.length * 3 := by
  induction l with
  | nil => rfl
  | cons t r ih => rw [rcs_cons]; simp only [List.length_cons, ih]; omega
theorem rcs_append (a b : List Rq) : rcs (a ++ b) = rcs a ++ rcs b := by simp [rcs]
theorem rcs_at (l : List Rq) (i : Nat) (t : Rq) (h : l[i]? = some t) : (rcs l)[i * 3]? = some (.int .i64 t.1) ∧ (rcs l)[i * 3 + 1]? = some (.int .i64 t.2.1) ∧ (rcs l)[i * 3 + 2]? = some (.string (bs t.2.2)) := by
  induction l generalizing i with
  | nil => cases h
  | cons a r ih =>
    rw [rcs_cons]
    cases i with
    | zero => simp at h; subst h; exact ⟨rfl, rfl, rfl⟩
    | succ i =>
      have := ih i (by simpa using h)
      rw [show (i + 1) * 3 = i * 3 + 1 + 1 + 1 from by omega]
      simpa using this
theorem rcs_take (l : List Rq) (k : Nat) : (rcs l).take (k * 3) = rcs (l.take k) := by
  induction l generalizing k with
  | nil => simp [rcs]
  | cons a r ih =>
    cases k with
    | zero => simp [rcs]
    | succ k =>
      rw [rcs_cons, List.take_succ_cons, rcs_cons, show (k + 1) * 3 = k * 3 + 1 + 1 + 1 from by omega]
      simp only [List.take_succ_cons, ih]
theorem rcs_drop (l : List Rq) (k : Nat) : (rcs l).drop (k * 3) = rcs (l.drop k) := by
  induction l generalizing k with
  | nil => simp [rcs]
  | cons a r ih =>
    cases k with
    | zero => simp
    | succ k =>
      rw [rcs_cons, List.drop_succ_cons, show (k + 1) * 3 = k * 3 + 1 + 1 + 1 from by omega]
      simp only [List.drop_succ_cons, ih]
theorem rcs_one (l : List Rq) : ∀ u ∈ rcs l, u.oneCell' = true := by
  intro u hu
  obtain ⟨a, _, h⟩ := List.mem_flatMap.1 hu
  simp at h
  rcases h with rfl | rfl | rfl <;> rfl
/-- The cells of the i'th request of a row. -/
theorem row_at {w : World} {base : Nat} {E : TypeId} {v : Value} {l : List Rq} (h : w.ownsRow base E 3 v l.length (rcs l)) {i : Nat} {t : Rq} (hi : l[i]? = some t) :
    ∃ g cap, v = .slice (some ⟨g, 0, none⟩) l.length cap ∧ base ≤ g ∧ g < w.heap.size ∧ w.cell? ⟨g, i * 3, none⟩ = some (.int .i64 t.1) ∧ w.cell? ⟨g, i * 3 + 1, none⟩ = some (.int .i64 t.2.1) ∧ w.cell? ⟨g, i * 3 + 2, none⟩ = some (.string (bs t.2.2)) := by
  have hil : i < l.length := (List.getElem?_eq_some_iff.1 hi).1
  obtain ⟨g, cap, rfl, hb, hlt⟩ := h.form (by omega)
  obtain ⟨e0, e1, e2⟩ := rcs_at l i t hi
  refine ⟨g, cap, rfl, hb, hlt, ?_, ?_, ?_⟩
  · rw [← e0]; exact h.cellAt _ (by omega)
  · rw [← e1]; exact h.cellAt _ (by omega)
  · rw [← e2]; exact h.cellAt _ (by omega)

/-- What a call on one object leaves: all blocks but the object's own two are as they were. -/
structure Moved (B : Nat) (v v' : Value) (w w' : World) : Prop where
  os : w'.os = w.os
  tape : w'.tape = w.tape
  output : w'.output = w.output
  size : w.heap.size ≤ w'.heap.size
  block : ∀ k, k < w.heap.size → k ≠ B → v.ownBlock ≠ some k → w'.heap[k]? = w.heap[k]?
  own : ∀ k, v'.ownBlock = some k → v.ownBlock = some k ∨ w.heap.size ≤ k
theorem Moved.refl (B : Nat) (v : Value) (w : World) : Moved B v v w w := ⟨rfl, rfl, rfl, Nat.le_refl _, fun _ _ _ _ => rfl, fun _ h => .inl h⟩
theorem Moved.of_below {w w' : World} (h : Below w.heap.size w w') (B : Nat) (v : Value) : Moved B v v w w' := ⟨h.os, h.tape, h.output, h.size, fun k hk _ _ => h.block k hk, fun _ h => .inl h⟩
theorem Moved.trans {B : Nat} {v v1 v2 : Value} {w w1 w2 : World} (h : Moved B v v1 w w1) (k : Moved B v1 v2 w1 w2) : Moved B v v2 w w2 :=
  ⟨k.os.trans h.os, k.tape.trans h.tape, k.output.trans h.output, Nat.le_trans h.size k.size,
    fun i hi h1 h2 => (k.block i (Nat.lt_of_lt_of_le hi h.size) h1 (fun e => by rcases h.own i e with e | e; exact h2 e; omega)).trans (h.block i hi h1 h2),
    fun i hi => by
      rcases k.own i hi with e | e
      · exact h.own i e
      · exact .inr (Nat.le_trans h.size e)⟩
theorem Moved.below {B b : Nat} {v v' : Value} {w w' : World} (h : Moved B v v' w w') (hB : b ≤ B) (hv : ∀ k, v.ownBlock = some k → b ≤ k) (hb : b ≤ w.heap.size) : Below b w w' :=
  ⟨h.os, h.tape, h.output, h.size, fun k hk => h.block k (by omega) (by omega) (fun e => by have := hv k e; omega)⟩
theorem Moved.far {B k : Nat} {v v' : Value} {w w' : World} (hm : Moved B v v' w w') (hk : k < w.heap.size) (h1 : k ≠ B) (h2 : v.ownBlock ≠ some k) {o : Obj} (ho : w.heap[k]? = some o) : w'.heap[k]? = some o := (hm.block k hk h1 h2).trans ho

/-- A pool of these requests, and what is done of each caller. -/
structure PoolAt (base : Nat) (w : World) (B : Nat) (v : Value) (l : List Rq) (D : Nat → Int) : Prop where
  blk : ∃ cs : Array Value, w.heap[B]? = some (.cells cs 47) ∧ cs[0]? = some v ∧ ∀ c, c < 64 → cs[c + 1]? = some (.int .i64 (D c))
  own : w.ownsRow base 26 3 v l.length (rcs l)
  ne : v.ownBlock ≠ some B
  base : base ≤ B
theorem PoolAt.lt {base : Nat} {w : World} {B : Nat} {v : Value} {l : List Rq} {D : Nat → Int} (h : PoolAt base w B v l D) : B < w.heap.size := by
  obtain ⟨cs, h1, _⟩ := h.blk
  exact (Array.getElem?_eq_some_iff.1 h1).1
theorem PoolAt.le {base : Nat} {w : World} {B : Nat} {v : Value} {l : List Rq} {D : Nat → Int} (h : PoolAt base w B v l D) : base ≤ w.heap.size := Nat.le_trans h.base (Nat.le_of_lt h.lt)
theorem PoolAt.keep {base : Nat} {w w' : World} {B : Nat} {v : Value} {l : List Rq} {D : Nat → Int} (h : PoolAt base w B v l D) (hB : w'.heap[B]? = w.heap[B]?) (hk : ∀ k, v.ownBlock = some k → w'.heap[k]? = w.heap[k]?) : PoolAt base w' B v l D := by
  obtain ⟨cs, h1, h2⟩ := h.blk
  exact ⟨⟨cs, hB.trans h1, h2⟩, owns_kept h.own hk, h.ne, h.base⟩
theorem PoolAt.next {base : Nat} {w w' : World} {B : Nat} {v : Value} {l : List Rq} {D : Nat → Int} (h : PoolAt base w B v l D) (hb : Below w.heap.size w w') : PoolAt base w' B v l D :=
  h.keep (hb.block B h.lt) (fun k hk => hb.block k (h.own.lt k hk).2)
/-- Below a heap's size, by an object above it. -/
theorem PoolAt.bel {b base : Nat} {w w' : World} {B : Nat} {v v' : Value} {l : List Rq} {D : Nat → Int} (h : PoolAt base w B v l D) (hm : Moved B v v' w w') (hb : b ≤ base) : Below b w w' :=
  hm.below (Nat.le_trans hb h.base) (fun k hk => Nat.le_trans hb (h.own.lt k hk).1) (Nat.le_trans hb h.le)
theorem PoolAt.slice {base : Nat} {w : World} {B : Nat} {v : Value} {l : List Rq} {D : Nat → Int} (h : PoolAt base w B v l D) : ∃ a cap, v = .slice a l.length cap := owns_slice h.own
theorem PoolAt.c0 {base : Nat} {w : World} {B : Nat} {v : Value} {l : List Rq} {D : Nat → Int} (h : PoolAt base w B v l D) : w.cell? ⟨B, 0, none⟩ = some v ∧ w.frozen? ⟨B, 0, none⟩ = false := by
  obtain ⟨cs, h1, h2, h3⟩ := h.blk
  exact ⟨cellB h1 0 _ h2, frozenB h1 0⟩
theorem PoolAt.cd {base : Nat} {w : World} {B : Nat} {v : Value} {l : List Rq} {D : Nat → Int} (h : PoolAt base w B v l D) {c : Nat} (hc : c < 64) : w.cell? ⟨B, c + 1, none⟩ = some (.int .i64 (D c)) ∧ w.frozen? ⟨B, c + 1, none⟩ = false := by
  obtain ⟨cs, h1, h2, h3⟩ := h.blk
  exact ⟨cellB h1 _ _ (h3 c hc), frozenB h1 _⟩
/-- The waiting ones are written anew. -/
theorem blk_set0 {w : World} {B : Nat} {v : Value} {D : Nat → Int} (h : ∃ cs : Array Value, w.heap[B]? = some (.cells cs 47) ∧ cs[0]? = some v ∧ ∀ c, c < 64 → cs[c + 1]? = some (.int .i64 (D c))) (v' : Value) : ∃ cs : Array Value, (w.setCell ⟨B, 0, none⟩ v').heap[B]? = some (.cells cs 47) ∧ cs[0]? = some v' ∧ ∀ c, c < 64 → cs[c + 1]? = some (.int .i64 (D c)) := by
  obtain ⟨cs, h1, h2, h3⟩ := h
  refine ⟨_, setB h1 0 v', ?_, fun c hc => ?_⟩
  · rw [Array.getElem?_setIfInBounds_self]
    have : 0 < cs.size := (Array.getElem?_eq_some_iff.1 h2).1
    simp [this]
  · rw [Array.getElem?_setIfInBounds_ne (by omega)]
    exact h3 c hc
/-- What is done is written anew. -/
def upd (D : Nat → Int) (c : Nat) (n : Int) : Nat → Int := fun q => if q = c then n else D q
theorem blk_setd {w : World} {B : Nat} {v : Value} {D : Nat → Int} (h : ∃ cs : Array Value, w.heap[B]? = some (.cells cs 47) ∧ cs[0]? = some v ∧ ∀ c, c < 64 → cs[c + 1]? = some (.int .i64 (D c))) {c : Nat} (hc : c < 64) (n : Int) : ∃ cs : Array Value, (w.setCell ⟨B, c + 1, none⟩ (.int .i64 n)).heap[B]? = some (.cells cs 47) ∧ cs[0]? = some v ∧ ∀ q, q < 64 → cs[q + 1]? = some (.int .i64 (upd D c n q)) := by
  obtain ⟨cs, h1, h2, h3⟩ := h
  refine ⟨_, setB h1 (c + 1) _, ?_, fun q hq => ?_⟩
  · rw [Array.getElem?_setIfInBounds_ne (by omega)]; exact h2
  · unfold upd
    by_cases e : q = c
    · subst e
      rw [if_pos rfl, Array.getElem?_setIfInBounds_self]
      have : q + 1 < cs.size := (Array.getElem?_eq_some_iff.1 (h3 q hq)).1
      simp [this]
    · rw [if_neg e, Array.getElem?_setIfInBounds_ne (by omega)]; exact h3 q hq
end Go.Proofs.YtngoodidajbhcaaDoor.Bat
