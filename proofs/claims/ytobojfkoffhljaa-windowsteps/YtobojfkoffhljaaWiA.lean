/- Maps whose elements are held as they are; the two keys; a window in memory. -/
import Derived.Test.YtobojfkoffhljaaSoG
import Derived.Maps.OwnSet
import Derived.Maps.RangeWalk
import Derived.Maps.Ext
import Derived.DeepKeys4
namespace Go.Proofs.Ytobojfkoffhljaa
open Go.RowKit Go.Maps Go.WideShapes
attribute [local go_sem ↓] Go.wp_at_zero Go.wp_at_succ

/-- An element is held as it is. -/
def heldE (v : Value) : Option (DataW Value × List MemPlace) := some (.held v, [])
/-- The entries as they are read. -/
def ent (p : Lit × Value) : Lit × DataW Value := (p.1, .held p.2)
/-- D has just these entries. -/
def Rep (D : DataW Value) (l : List (Lit × Value)) : Prop := ∃ es, D = .map es ∧ es.Perm (l.map ent) ∧ l.Pairwise (fun p q => p.1 ≠ q.1) ∧ ∀ p ∈ l, WideAt.IsKeyLit p.1
theorem Rep.nil : Rep (.map []) [] := ⟨[], rfl, List.Perm.refl _, List.Pairwise.nil, by simp⟩
theorem Rep.size {D : DataW Value} {l : List (Lit × Value)} (h : Rep D l) : Maps.size D = l.length := by
  obtain ⟨es, rfl, hp, _⟩ := h
  show es.length = _
  rw [hp.length_eq, List.length_map]
theorem Rep.apart {D : DataW Value} {l : List (Lit × Value)} (h : Rep D l) : ∃ es, D = .map es ∧ es.Pairwise (fun p q => p.1 ≠ q.1) ∧ ∀ p, p ∈ es ↔ p ∈ l.map ent := by
  obtain ⟨es, rfl, hp, ha, _⟩ := h
  refine ⟨es, rfl, (hp.pairwise_iff (fun {a b} (h : a.1 ≠ b.1) => h.symm)).2 ?_, fun p => hp.mem_iff⟩
  rw [List.pairwise_map]
  exact ha
theorem Rep.at {D : DataW Value} {l : List (Lit × Value)} (h : Rep D l) {k : Lit} {v : Value} (hm : (k, v) ∈ l) (z : DataW Value) : D.atKey k z = .held v ∧ Maps.has D k = true := by
  have hk : WideAt.IsKeyLit k := by obtain ⟨_, _, _, _, h4⟩ := h; exact h4 _ hm
  obtain ⟨es, rfl, ha, he⟩ := h.apart
  have hme : (k, .held v) ∈ es := (he _).2 (List.mem_map.2 ⟨_, hm, rfl⟩)
  exact ⟨WideAt.atKey_mem z hk ha hme, List.any_eq_true.2 ⟨_, hme, WideAt.sameKey_self hk⟩⟩
theorem Rep.none {D : DataW Value} {l : List (Lit × Value)} (h : Rep D l) {k : Lit} (hm : ∀ p ∈ l, p.1 ≠ k) (z : DataW Value) : D.atKey k z = z ∧ Maps.has D k = false := by
  have hh : Maps.has D k = false := by
    obtain ⟨es, rfl, ha, he⟩ := h.apart
    show es.any (fun p => p.1.sameKey k) = false
    rw [List.any_eq_false]
    intro p hp
    obtain ⟨q, hq, rfl⟩ := List.mem_map.1 ((he p).1 hp)
    rw [show (ent q).1 = q.1 from rfl, Maps.sameKey_ne (hm q hq)]
    decide
  exact ⟨Maps.atKey_of_not_has hh z, hh⟩
theorem filter_ent (k : Lit) (l : List (Lit × Value)) : (l.map ent).filter (fun p => !p.1.sameKey k) = (l.filter (fun p => !p.1.sameKey k)).map ent := by
  rw [List.filter_map]; rfl
theorem Rep.del {D : DataW Value} {l : List (Lit × Value)} (h : Rep D l) (k : Lit) : Rep (D.del k) (l.filter (fun p => !p.1.sameKey k)) := by
  obtain ⟨es, rfl, hp, ha, hk⟩ := h
  refine ⟨es.filter (fun p => !p.1.sameKey k), rfl, ?_, ha.filter _, fun p hp => hk p (List.mem_filter.1 hp).1⟩
  rw [← filter_ent]
  exact hp.filter _
theorem Rep.put {D : DataW Value} {l : List (Lit × Value)} (h : Rep D l) {k : Lit} (hkl : WideAt.IsKeyLit k) (v : Value) : Rep (D.put k (.held v)) (l.filter (fun p => !p.1.sameKey k) ++ [(k, v)]) := by
  obtain ⟨es, rfl, hp, ha, hk⟩ := h
  refine ⟨DataW.insert (k, .held v) (es.filter (fun p => !p.1.sameKey k)), rfl, ?_, ?_, ?_⟩
  · refine (insert_perm _ _).trans ?_
    rw [List.map_append, ← filter_ent]
    refine ((hp.filter _).cons _).trans ?_
    exact (List.perm_append_singleton _ _).symm
  · rw [List.pairwise_append]
    refine ⟨ha.filter _, by simp, fun a hain b hb => ?_⟩
    simp at hb
    subst hb
    intro e
    have := (List.mem_filter.1 hain).2
    rw [e, WideAt.sameKey_self hkl] at this
    cases this
  · intro p hp
    rcases List.mem_append.1 hp with h1 | h1
    · exact hk p (List.mem_filter.1 h1).1
    · simp at h1; subst h1; exact hkl
theorem Rep.perm {D : DataW Value} {l l' : List (Lit × Value)} (h : Rep D l) (hl : l.Perm l') : Rep D l' := by
  obtain ⟨es, rfl, hp, ha, hk⟩ := h
  exact ⟨es, rfl, hp.trans (hl.map _), (hl.pairwise_iff (fun {a b} (h : a.1 ≠ b.1) => h.symm)).1 ha, fun p hp => hk p (hl.mem_iff.2 hp)⟩

/-- The key of a view and a number. -/
def pk (v n : Int) : Lit := .string (keyBytes [.int .i64 v, .int .i64 n])
theorem Try.laidOut : laidOutB Try.prog = true := by kernel_rfl
theorem Try.row76 : (76 : TypeId) < Try.prog.types.size := of_decide_eq_true (by kernel_rfl)
theorem Try.wide76 : (match Try.prog.underlying 76 with | some (.array _ _) | some (.struct _) => true | _ => false) = true := by rw [Try.underlying76]
theorem law76 : Keyed Try.prog 76 := Keyed.of_law (deep_law_laid Try.laidOut (m := 2) (by omega) Try.row76 (by kernel_rfl) Try.wide76)
theorem law3 : Keyed Try.prog 3 := int_keyed Try.underlying3
theorem Try.cells76 : Try.prog.cellsOf 76 = 2 := by kernel_rfl
theorem Try.cells3 : Try.prog.cellsOf 3 = 1 := by kernel_rfl
theorem Try.key76 : Try.prog.keyType 76 = true := by kernel_rfl
theorem Try.tsize : ∃ m, Try.prog.types.size = m + 1 := by
  have h : (76 : Nat) < Try.prog.types.size := Try.row76
  exact ⟨Try.prog.types.size - 1, by omega⟩
theorem keyOf_place {v n : Int} (hv : (Lit.int .i64 v).wf = true) (hn : (Lit.int .i64 n).wf = true) : keyOf Try.prog 76 (.agg #[.int .i64 v, .int .i64 n]) = some (pk v n) := by
  obtain ⟨m, hm⟩ := Try.tsize
  unfold keyOf
  rw [hm]
  simp [Try.underlying76, Try.key76, Value.formed, Try.cells76, Program.keyLits, Try.underlying3, Try.cells3, Value.cells, hv, hn, pk]
theorem pk_inj {v n v' n' : Int} (hv : (Lit.int .i64 v).wf = true) (hn : (Lit.int .i64 n).wf = true) (hv' : (Lit.int .i64 v').wf = true) (hn' : (Lit.int .i64 n').wf = true) (h : pk v n = pk v' n') : v = v' ∧ n = n' := by
  have e := law76.inj (keyOf_place hv hn) (h ▸ keyOf_place hv' hn')
  injection e with e
  injection e with e
  injection e with e1 e2
  injection e2 with e2
  injection e1 with _ e1
  injection e2 with _ e2
  exact ⟨e1, e2⟩
theorem wf64 {a : Int} (h1 : -9223372036854775808 ≤ a) (h2 : a ≤ 9223372036854775807) : (Lit.int .i64 a).wf = true := WalkArith.wf_i64 ⟨h1, h2⟩
/-- The slots of a window: view, number, the slot's block. -/
abbrev Sk := Int × Int × Nat
def okS (a : Sk) : Prop := 0 ≤ a.1 ∧ a.1 ≤ 1099511627776 ∧ 0 ≤ a.2.1 ∧ a.2.1 ≤ 1099511627776
def sent (a : Sk) : Lit × Value := (pk a.1 a.2.1, .pointer (some ⟨a.2.2, 0, none⟩))
/-- The best ones: number, view, text, group. -/
abbrev Bt := Int × Int × List UInt8 × Int
def bestV (a : Bt) : Value := .agg #[.int .i64 a.2.1, .string (bs a.2.2.1), .int .i64 a.2.2.2, .slice none 0 0]
def bent (a : Bt) : Lit × Value := (.int .i64 a.1, bestV a)
/-- A map, which may be nil, that has just these entries. -/
def MapAt (w : World) (K : TypeId) (m : Option Nat) (l : List (Lit × Value)) : Prop :=
  (m = none ∧ l = []) ∨ ∃ b D, m = some b ∧ w.ownsMap Try.prog K heldE b l.length D ∧ Rep D l
theorem MapAt.keep {w w' : World} {K : TypeId} {m : Option Nat} {l : List (Lit × Value)} (h : MapAt w K m l) (hb : ∀ b, m = some b → w'.heap[b]? = w.heap[b]?) : MapAt w' K m l := by
  rcases h with h | ⟨b, D, rfl, ⟨es, clock, h1, h2⟩, hr⟩
  · exact .inl h
  · exact .inr ⟨b, D, rfl, ⟨es, clock, (hb b rfl).trans h1, h2⟩, hr⟩
theorem MapAt.lt {w : World} {K : TypeId} {m : Option Nat} {l : List (Lit × Value)} (h : MapAt w K m l) {b : Nat} (hb : m = some b) : b < w.heap.size := by
  rcases h with ⟨rfl, _⟩ | ⟨b', D, rfl, ho, _⟩
  · cases hb
  · injection hb with hb; subst hb; exact ho.lt
/-- A window. -/
structure WinAt (base : Nat) (w : World) (B : Nat) (ms mb : Option Nat) (g : Int) (f : Nat) (low : Int) (S : List Sk) (T : List Bt) : Prop where
  blk : w.heap[B]? = some (.cells #[.int .i64 g, .int .i64 f, .int .i64 low, .map ms, .map mb] 65)
  slots : MapAt w 76 ms (S.map sent)
  bests : MapAt w 3 mb (T.map bent)
  up : base ≤ B
  sb : ∀ b, ms = some b → base ≤ b ∧ b ≠ B
  bb : ∀ b, mb = some b → base ≤ b ∧ b ≠ B
  ne : ∀ b, ms = some b → mb ≠ some b
  f3 : f ≤ 3
  g4 : inB g 4 = true
  low0 : 0 ≤ low
  low1 : low ≤ 1099511627768
  okS : ∀ a ∈ S, okS a
  okT : ∀ a ∈ T, 0 ≤ a.1 ∧ a.1 ≤ 1099511627776
  few : S.length ≤ 1000 ∧ T.length ≤ 1000
theorem WinAt.lt {base : Nat} {w : World} {B : Nat} {ms mb : Option Nat} {g : Int} {f : Nat} {low : Int} {S : List Sk} {T : List Bt} (h : WinAt base w B ms mb g f low S T) : B < w.heap.size := (Array.getElem?_eq_some_iff.1 h.blk).1
theorem WinAt.c {base : Nat} {w : World} {B : Nat} {ms mb : Option Nat} {g : Int} {f : Nat} {low : Int} {S : List Sk} {T : List Bt} (h : WinAt base w B ms mb g f low S T) : w.cell? ⟨B, 0, none⟩ = some (.int .i64 g) ∧ w.cell? ⟨B, 1, none⟩ = some (.int .i64 f) ∧ w.cell? ⟨B, 2, none⟩ = some (.int .i64 low) ∧ w.cell? ⟨B, 3, none⟩ = some (.map ms) ∧ w.cell? ⟨B, 4, none⟩ = some (.map mb) :=
  ⟨cellB h.blk 0 _ rfl, cellB h.blk 1 _ rfl, cellB h.blk 2 _ rfl, cellB h.blk 3 _ rfl, cellB h.blk 4 _ rfl⟩
theorem WinAt.fz {base : Nat} {w : World} {B : Nat} {ms mb : Option Nat} {g : Int} {f : Nat} {low : Int} {S : List Sk} {T : List Bt} (h : WinAt base w B ms mb g f low S T) (j : Nat) : w.frozen? ⟨B, j, none⟩ = false := frozenB h.blk j
theorem WinAt.on {base : Nat} {w w' : World} {B : Nat} {ms mb : Option Nat} {g : Int} {f : Nat} {low : Int} {S : List Sk} {T : List Bt} (h : WinAt base w B ms mb g f low S T) (hb : Below w.heap.size w w') : WinAt base w' B ms mb g f low S T :=
  ⟨(hb.block B h.lt).trans h.blk, h.slots.keep (fun b e => hb.block b (h.slots.lt e)), h.bests.keep (fun b e => hb.block b (h.bests.lt e)), h.up, h.sb, h.bb, h.ne, h.f3, h.g4, h.low0, h.low1, h.okS, h.okT, h.few⟩
/-- What a call on a window leaves: all blocks but the window's and its maps'. -/
structure Wv (B : Nat) (ms mb ms' mb' : Option Nat) (w w' : World) : Prop where
  os : w'.os = w.os
  tape : w'.tape = w.tape
  output : w'.output = w.output
  size : w.heap.size ≤ w'.heap.size
  block : ∀ k, k < w.heap.size → k ≠ B → ms ≠ some k → mb ≠ some k → w'.heap[k]? = w.heap[k]?
  own : ∀ k, (ms' = some k → ms = some k ∨ w.heap.size ≤ k) ∧ (mb' = some k → mb = some k ∨ w.heap.size ≤ k)
theorem Wv.refl (B : Nat) (ms mb : Option Nat) (w : World) : Wv B ms mb ms mb w w := ⟨rfl, rfl, rfl, Nat.le_refl _, fun _ _ _ _ _ => rfl, fun _ => ⟨.inl, .inl⟩⟩
theorem Wv.of_below {w w' : World} (h : Below w.heap.size w w') (B : Nat) (ms mb : Option Nat) : Wv B ms mb ms mb w w' := ⟨h.os, h.tape, h.output, h.size, fun k hk _ _ _ => h.block k hk, fun _ => ⟨.inl, .inl⟩⟩
theorem Wv.trans {B : Nat} {ms mb m1 b1 m2 b2 : Option Nat} {w w1 w2 : World} (h : Wv B ms mb m1 b1 w w1) (k : Wv B m1 b1 m2 b2 w1 w2) : Wv B ms mb m2 b2 w w2 :=
  ⟨k.os.trans h.os, k.tape.trans h.tape, k.output.trans h.output, Nat.le_trans h.size k.size,
    fun i hi h1 h2 h3 => (k.block i (Nat.lt_of_lt_of_le hi h.size) h1 (fun e => by rcases (h.own i).1 e with e | e; exact h2 e; omega) (fun e => by rcases (h.own i).2 e with e | e; exact h3 e; omega)).trans (h.block i hi h1 h2 h3),
    fun i => ⟨fun e => by
      rcases (k.own i).1 e with e | e
      · exact (h.own i).1 e
      · exact .inr (Nat.le_trans h.size e), fun e => by
      rcases (k.own i).2 e with e | e
      · exact (h.own i).2 e
      · exact .inr (Nat.le_trans h.size e)⟩⟩
theorem WinAt.bel {b base : Nat} {w w' : World} {B : Nat} {ms mb ms' mb' : Option Nat} {g : Int} {f : Nat} {low : Int} {S : List Sk} {T : List Bt} (h : WinAt base w B ms mb g f low S T) (hm : Wv B ms mb ms' mb' w w') (hb : b ≤ base) : Below b w w' :=
  ⟨hm.os, hm.tape, hm.output, hm.size, fun k hk => hm.block k (by have := h.lt; have := h.up; omega) (by have := h.up; omega) (fun e => by have := (h.sb k e).1; omega) (fun e => by have := (h.bb k e).1; omega)⟩
theorem Wv.far {B k : Nat} {ms mb ms' mb' : Option Nat} {w w' : World} (hm : Wv B ms mb ms' mb' w w') (hk : k < w.heap.size) (h1 : k ≠ B) (h2 : ms ≠ some k) (h3 : mb ≠ some k) {o : Obj} (ho : w.heap[k]? = some o) : w'.heap[k]? = some o := (hm.block k hk h1 h2 h3).trans ho
end Go.Proofs.Ytobojfkoffhljaa
