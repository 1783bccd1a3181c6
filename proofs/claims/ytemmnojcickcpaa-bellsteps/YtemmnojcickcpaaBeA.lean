/- A node's timers: what a bell is in memory. -/
import Derived.Test.YtemmnojcickcpaaProg
import Derived.WalkKit
import Derived.WalkSpells
import Derived.WalkLawsBesides
import Derived.BigRegion
import Derived.BigQuiet
import Derived.Deep.RegionHeld3
import Derived.Deep.DrawnRows
import Derived.Deep.DeepCutAuto
import Derived.Deep.AppendLies
import Derived.Deep.RegionLaw
import Derived.Deep.LoopGhost
import Derived.OwnWalk
namespace Go.Proofs.Ytemmnojcickcpaa
open Go.RowKit
attribute [local go_sem ↓] Go.wp_at_zero Go.wp_at_succ

theorem cellB {w : World} {B : Nat} {cs : Array Value} {t : TypeId} {fr : Nat × Nat} (h : w.heap[B]? = some (.cells cs t fr)) (j : Nat) (u : Value) (hu : cs[j]? = some u) : w.cell? ⟨B, j, none⟩ = some u := by
  unfold World.cell?; simp only [h]; exact hu
theorem frozenB {w : World} {B : Nat} {cs : Array Value} {t : TypeId} (h : w.heap[B]? = some (.cells cs t)) (j : Nat) : w.frozen? ⟨B, j, none⟩ = false := by
  unfold World.frozen?; simp [h]
theorem setB {w : World} {B : Nat} {cs : Array Value} {t : TypeId} {fr : Nat × Nat} (h : w.heap[B]? = some (.cells cs t fr)) (j : Nat) (a : Value) :
    (w.setCell ⟨B, j, none⟩ a).heap[B]? = some (.cells (cs.setIfInBounds j a) t fr) := by
  unfold World.setCell
  simp only [Array.getElem?_modify, if_true, h, Option.map_some]
  rfl
theorem set_far {w : World} {B k : Nat} (h : k ≠ B) (j : Nat) (u : Value) : (w.setCell ⟨B, j, none⟩ u).heap[k]? = w.heap[k]? := Below.heap_setCell _ _ _ _ h
theorem below_drew {n : Nat} {w w' : World} (h : Below n w w') : Below n w w'.drew := ⟨h.os, h.tape, h.output, h.size, h.block⟩
theorem owns_slice {w : World} {base n : Nat} {e : TypeId} {s : Nat} {v : Value} {xs : List Value} (h : w.ownsRow base e s v n xs) : ∃ a cap, v = .slice a n cap := by
  rcases h.2 with ⟨rfl, rfl⟩ | ⟨g, cap, cur, rfl, _⟩
  · exact ⟨none, 0, rfl⟩
  · exact ⟨_, cap, rfl⟩
theorem info_parts {P : Program} {E : TypeId} {z : Value} {s b : Nat} (h : (P.info? E).map (fun i => (i.zero, i.size, i.bytes)) = some (some z, s, b)) :
    ∃ i, P.info? E = some i ∧ i.zero = some z ∧ i.size = s ∧ i.bytes = b := by
  cases hi : P.info? E with
  | none => rw [hi] at h; cases h
  | some i => rw [hi] at h; simp at h; exact ⟨i, rfl, h.1, h.2.1, h.2.2⟩

/-- What a call on one object leaves: all blocks but the object's own two are as they were. -/
structure Moved (B : Nat) (v v' : Value) (w w' : World) : Prop where
  os : w'.os = w.os
  tape : w'.tape = w.tape
  output : w'.output = w.output
  size : w.heap.size ≤ w'.heap.size
  block : ∀ k, k < w.heap.size → k ≠ B → v.ownBlock ≠ some k → w'.heap[k]? = w.heap[k]?
  own : ∀ k, v'.ownBlock = some k → v.ownBlock = some k ∨ w.heap.size ≤ k
theorem Moved.refl (B : Nat) (v : Value) (w : World) : Moved B v v w w := ⟨rfl, rfl, rfl, Nat.le_refl _, fun _ _ _ _ => rfl, fun _ h => .inl h⟩
theorem Moved.of_below {w w' : World} (h : Below w.heap.size w w') (B : Nat) (v : Value) : Moved B v v w w' := ⟨h.os, h.tape, h.output, h.size, fun k hk _ _ => h.block k hk, fun _ h => .inl h⟩
theorem Moved.trans {B : Nat} {v v1 v2 : Value} {w w1 w2 : World} (h : Moved B v v1 w w1) (k : Moved B v1 v2 w1 w2) : Moved B v v2 w w2 :=
  ⟨k.os.trans h.os, k.tape.trans h.tape, k.output.trans h.output, Nat.le_trans h.size k.size,
    fun i hi h1 h2 => (k.block i (Nat.lt_of_lt_of_le hi h.size) h1 (fun e => by rcases h.own i e with e | e; exact h2 e; omega)).trans (h.block i hi h1 h2),
    fun i hi => by
      rcases k.own i hi with e | e
      · exact h.own i e
      · exact .inr (Nat.le_trans h.size e)⟩
theorem Moved.below {B b : Nat} {v v' : Value} {w w' : World} (h : Moved B v v' w w') (hB : b ≤ B) (hv : ∀ k, v.ownBlock = some k → b ≤ k) (hb : b ≤ w.heap.size) : Below b w w' :=
  ⟨h.os, h.tape, h.output, h.size, fun k hk => h.block k (by omega) (by omega) (fun e => by have := hv k e; omega)⟩

theorem owns_kept {w w' : World} {base n : Nat} {e : TypeId} {s : Nat} {v : Value} {xs : List Value} (h : w.ownsRow base e s v n xs) (hk : ∀ k, v.ownBlock = some k → w'.heap[k]? = w.heap[k]?) : w'.ownsRow base e s v n xs := by
  obtain ⟨hl, h | ⟨g, cap, cur, rfl, h2, h3, h4⟩⟩ := h
  · exact ⟨hl, .inl h⟩
  · exact ⟨hl, .inr ⟨g, cap, cur, rfl, h2, (hk g rfl).trans h3, h4⟩⟩

/-- A timer: its name, when it is due, its span. -/
abbrev Tm := Int × Int × Int
/-- Timers as cells. -/
def tcs (l : List Tm) : List Value := l.flatMap fun a => [.int .i64 a.1, .int .i64 a.2.1, .int .i64 a.2.2]
theorem tcs_cons (a : Tm) (l : List Tm) : tcs (a :: l) = .int .i64 a.1 :: .int .i64 a.2.1 :: .int .i64 a.2.2 :: tcs l := rfl
theorem tcs_len (l : List Tm) : (tcs l).length = l.length * 3 := by
  induction l with
  | nil => rfl
  | cons t r ih => rw [tcs_cons]; simp only [List.length_cons, ih]; omega
theorem tcs_append (a b : List Tm) : tcs (a ++ b) = tcs a ++ tcs b := by simp [tcs]
theorem tcs_at (l : List Tm) (i : Nat) (t : Tm) (h : l[i]? = some t) : (tcs l)[i * 3]? = some (.int .i64 t.1) ∧ (tcs l)[i * 3 + 1]? = some (.int .i64 t.2.1) ∧ (tcs l)[i * 3 + 2]? = some (.int .i64 t.2.2) := by
  induction l generalizing i with
  | nil => cases h
  | cons a r ih =>
    rw [tcs_cons]
    cases i with
    | zero => simp at h; subst h; exact ⟨rfl, rfl, rfl⟩
    | succ i =>
      have := ih i (by simpa using h)
      rw [show (i + 1) * 3 = i * 3 + 1 + 1 + 1 from by omega]
      simpa using this
theorem tcs_take (l : List Tm) (k : Nat) : (tcs l).take (k * 3) = tcs (l.take k) := by
  induction l generalizing k with
  | nil => simp [tcs]
  | cons a r ih =>
    cases k with
    | zero => simp [tcs]
    | succ k =>
      rw [tcs_cons, List.take_succ_cons, tcs_cons, show (k + 1) * 3 = k * 3 + 1 + 1 + 1 from by omega]
      simp only [List.take_succ_cons, ih]
theorem tcs_set (l : List Tm) (k : Nat) (t : Tm) (h : k < l.length) : (((tcs l).set (k * 3) (.int .i64 t.1)).set (k * 3 + 1) (.int .i64 t.2.1)).set (k * 3 + 2) (.int .i64 t.2.2) = tcs (l.set k t) := by
  induction l generalizing k with
  | nil => simp at h
  | cons a r ih =>
    cases k with
    | zero => simp [tcs_cons]
    | succ k =>
      rw [tcs_cons, List.set_cons_succ, tcs_cons, show (k + 1) * 3 = k * 3 + 1 + 1 + 1 from by omega, show k * 3 + 1 + 1 + 1 + 2 = k * 3 + 2 + 1 + 1 + 1 from by omega, show k * 3 + 1 + 1 + 1 + 1 = k * 3 + 1 + 1 + 1 + 1 from rfl]
      have := ih k (by simpa using h)
      simp only [List.set_cons_succ, this]
/-- A bell with these timers, in this order in its heap, at this moment. -/
structure BellAt (base : Nat) (w : World) (B : Nat) (v : Value) (l : List Tm) (now : Int) : Prop where
  blk : w.heap[B]? = some (.cells #[v, .int .i64 now] 75)
  own : w.ownsRow base 92 3 v l.length (tcs l)
  ne : v.ownBlock ≠ some B
  base : base ≤ B
theorem BellAt.lt {base : Nat} {w : World} {B : Nat} {v : Value} {l : List Tm} {now : Int} (h : BellAt base w B v l now) : B < w.heap.size := (Array.getElem?_eq_some_iff.1 h.blk).1
theorem BellAt.keep {base : Nat} {w w' : World} {B : Nat} {v : Value} {l : List Tm} {now : Int} (h : BellAt base w B v l now) (hB : w'.heap[B]? = w.heap[B]?) (hk : ∀ k, v.ownBlock = some k → w'.heap[k]? = w.heap[k]?) : BellAt base w' B v l now :=
  ⟨hB.trans h.blk, owns_kept h.own hk, h.ne, h.base⟩
theorem BellAt.next {base : Nat} {w w' : World} {B : Nat} {v : Value} {l : List Tm} {now : Int} (h : BellAt base w B v l now) (hb : Below w.heap.size w w') : BellAt base w' B v l now :=
  h.keep (hb.block B h.lt) (fun k hk => hb.block k (h.own.lt k hk).2)
theorem BellAt.slice {base : Nat} {w : World} {B : Nat} {v : Value} {l : List Tm} {now : Int} (h : BellAt base w B v l now) : ∃ a cap, v = .slice a l.length cap := owns_slice h.own
/-- The cells of the i'th timer. -/
theorem BellAt.at {base : Nat} {w : World} {B : Nat} {v : Value} {l : List Tm} {now : Int} (h : BellAt base w B v l now) (hl : 0 < l.length) : ∃ g cap, v = .slice (some ⟨g, 0, none⟩) l.length cap ∧ base ≤ g ∧ g < w.heap.size ∧ g ≠ B ∧ l.length ≤ cap ∧
    ∀ (i : Nat) t, l[i]? = some t → w.cell? ⟨g, i * 3, none⟩ = some (.int .i64 t.1) ∧ w.cell? ⟨g, i * 3 + 1, none⟩ = some (.int .i64 t.2.1) ∧ w.cell? ⟨g, i * 3 + 2, none⟩ = some (.int .i64 t.2.2) := by
  obtain ⟨g, cap, rfl, hb, hlt⟩ := h.own.form hl
  refine ⟨g, cap, rfl, hb, hlt, fun e => h.ne (by rw [← e]; rfl), ?_, fun i t ht => ?_⟩
  · rcases h.own.2 with ⟨hn, _⟩ | ⟨g', cap', cur, hv, _, _, hc, _⟩
    · cases hn
    · injection hv with _ _ hv; rw [hv]; exact hc
  · have hi : i < l.length := (List.getElem?_eq_some_iff.1 ht).1
    obtain ⟨e0, e1, e2⟩ := tcs_at l i t ht
    rw [← e0, ← e1, ← e2]
    exact ⟨h.own.cellAt _ (by omega), h.own.cellAt _ (by omega), h.own.cellAt _ (by omega)⟩
theorem BellAt.bel {b base : Nat} {w w' : World} {B : Nat} {v v' : Value} {l : List Tm} {d : Int} (h : BellAt base w B v l d) (hm : Moved B v v' w w') (hb : b ≤ base) : Below b w w' :=
  hm.below (Nat.le_trans hb h.base) (fun k hk => Nat.le_trans hb (h.own.lt k hk).1) (Nat.le_trans hb (Nat.le_trans h.base (Nat.le_of_lt h.lt)))
theorem Moved.far {B k : Nat} {v v' : Value} {w w' : World} (hm : Moved B v v' w w') (hk : k < w.heap.size) (h1 : k ≠ B) (h2 : v.ownBlock ≠ some k) {o : Obj} (ho : w.heap[k]? = some o) : w'.heap[k]? = some o := (hm.block k hk h1 h2).trans ho

/-! How a method of the heap's interface is reached. -/
theorem nilChk (a : Addr) (s name : String) (w : World) : (Builtin.ssaWrapNilChk_ #[94] 94 #[.pointer (some a), strVal s, strVal name]).run Try.prog w = .ok (.pointer (some a)) w := rfl
theorem mLen : (Try.prog.info? 94).map (fun i => (i.methods.find? (·.name == "Len")).map (fun m => (m.path.toList, m.func))) = some (some ([], some (71, false))) := by kernel_rfl
theorem mLess : (Try.prog.info? 94).map (fun i => (i.methods.find? (·.name == "Less")).map (fun m => (m.path.toList, m.func))) = some (some ([], some (72, false))) := by kernel_rfl
theorem mSwap : (Try.prog.info? 94).map (fun i => (i.methods.find? (·.name == "Swap")).map (fun m => (m.path.toList, m.func))) = some (some ([], some (73, false))) := by kernel_rfl
theorem meth_of {name : String} {f : Nat} (hh : (Try.prog.info? 94).map (fun i => (i.methods.find? (·.name == name)).map (fun m => (m.path.toList, m.func))) = some (some ([], some (f, false)))) (B : Nat) (a : Option Addr) (n c : Nat) (w : World) (h : w.cell? ⟨B, 0, none⟩ = some (.slice a n c)) :
    (method 223 94 (.pointer (some ⟨B, 0, none⟩)) name).run Try.prog w = .ok (f, .slice a n c) w := by
  obtain ⟨i, hi, h2⟩ := Option.map_eq_some_iff.1 hh
  obtain ⟨m, hm, h3⟩ := Option.map_eq_some_iff.1 h2
  have hp : m.path.toList = [] := congrArg (·.1) h3
  have hq : m.path = #[] := by rw [← Array.toArray_toList (xs := m.path), hp]
  have hf : m.func = some (f, false) := congrArg (·.2) h3
  unfold method
  simp [typeInfo, hi, hm, hq, hf, follow, receiverAt, run_underlying Try.underlying94, Place.get, nilChk, go_sem, h]
theorem meth_push (a : Addr) (w : World) : (method 223 94 (.pointer (some a)) "Push").run Try.prog w = .ok (75, .pointer (some a)) w := by kernel_rfl
theorem meth_pop (a : Addr) (w : World) : (method 223 94 (.pointer (some a)) "Pop").run Try.prog w = .ok (74, .pointer (some a)) w := by kernel_rfl
end Go.Proofs.Ytemmnojcickcpaa
