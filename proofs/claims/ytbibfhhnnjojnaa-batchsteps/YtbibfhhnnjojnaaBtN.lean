/- The pool beside two lists of requests; what is added and what is done (plain). -/
import Derived.Test.YtbibfhhnnjojnaaBtK
namespace Go.Proofs.Ytbibfhhnnjojnaa
open Go.RowKit

theorem str_ne {a b : ByteArray} (h : ¬ a = b) : (a.toList == b.toList) = false := by
  rw [ByteArray.toList_eq, ByteArray.toList_eq]
  apply Bool.eq_false_iff.2
  intro hh
  apply h
  have := eq_of_beq hh
  cases a; cases b
  simp at this
  simp [this]
/-- A list of requests beside a pool. -/
structure Side (w wr : World) (B : Nat) (v vs : Value) (A : List Rq) : Prop where
  own : wr.ownsRow w.heap.size 31 3 vs A.length (rcs A)
  n1 : vs.ownBlock ≠ some B
  n2 : ∀ k, v.ownBlock = some k → vs.ownBlock ≠ some k
theorem Side.next {w wr wr' : World} {B : Nat} {v vs : Value} {A : List Rq} (h : Side w wr B v vs A) (hb : Below wr.heap.size wr wr') : Side w wr' B v vs A := ⟨owns_next h.own hb, h.n1, h.n2⟩
theorem Side.moved {w wr wr' : World} {B : Nat} {v v' vs : Value} {A : List Rq} (h : Side w wr B v vs A) (hm : Moved B v v' wr wr') : Side w wr' B v' vs A :=
  ⟨owns_kept h.own (fun k hk => hm.block k (h.own.lt k hk).2 (fun e => h.n1 (by rw [← e]; exact hk)) (fun e => h.n2 k e hk)), h.n1,
    fun k h1 h2 => by
      rcases hm.own k h1 with e | e
      · exact h.n2 k e h2
      · have := (h.own.lt k h2).2; omega⟩
theorem Side.nil {w wr : World} {B : Nat} {v : Value} : Side w wr B v (.slice none 0 0) [] := ⟨World.ownsRow_nil _ _ _ _, fun e => (by cases e), fun k _ e => (by cases e)⟩
/-- Another list grows: this one stays. -/
theorem Side.other {w wr wr' : World} {B : Nat} {v vs vo : Value} {A : List Rq} (h : Side w wr B v vs A) (hg : wr.grownBy wr' vo.ownBlock) (ho : ∀ k, vs.ownBlock = some k → vo.ownBlock ≠ some k) : Side w wr' B v vs A :=
  ⟨owns_kept h.own (fun k hk => hg.block k (h.own.lt k hk).2 (fun e => ho k hk e.symm)), h.n1, h.n2⟩
theorem Side.grown {w wr wr' : World} {B : Nat} {v vs : Value} {A : List Rq} (h : Side w wr B v vs A) (hp : B < wr.heap.size) (hv : ∀ k, v.ownBlock = some k → k < wr.heap.size) {a : Rq} {g cap : Nat}
    (ho : wr'.ownsRow w.heap.size 31 3 (.slice (some ⟨g, 0, none⟩) (A.length + 1) cap) (A.length + 1) (rcs A ++ [.int .i64 a.1, .int .i64 a.2.1, .string (bs a.2.2)])) (hat : vs.ownBlock = some g ∨ g = wr.heap.size) : Side w wr' B v (.slice (some ⟨g, 0, none⟩) (A.length + 1) cap) (A ++ [a]) := by
  refine ⟨?_, ?_, ?_⟩
  · rw [rcs_append, List.length_append]; exact ho
  · intro e
    have e2 : g = B := Option.some.inj e
    rcases hat with e3 | e3
    · exact h.n1 (by rw [e3, e2])
    · omega
  · intro k h1 e
    have e2 : g = k := Option.some.inj e
    rcases hat with e3 | e3
    · exact h.n2 k h1 (by rw [e3, e2])
    · have := hv k h1; omega
/-- A pool, and beside it what was added and what is done. -/
structure Oc (w : World) (B : Nat) (v : Value) (l : List Rq) (D : Nat → Int) (va : Value) (A : List Rq) (vd : Value) (F : List Rq) (wr : World) : Prop where
  kp : Kp w B v l D wr
  ad : Side w wr B v va A
  dn : Side w wr B v vd F
  ap : ∀ k, va.ownBlock = some k → vd.ownBlock ≠ some k
theorem Oc.next {w wr wr' : World} {B : Nat} {v va vd : Value} {l A F : List Rq} {D : Nat → Int} (h : Oc w B v l D va A vd F wr) (hb : Below wr.heap.size wr wr') : Oc w B v l D va A vd F wr' := ⟨h.kp.next hb, h.ad.next hb, h.dn.next hb, h.ap⟩
theorem Oc.moved {w wr wr' : World} {B : Nat} {v v' va vd : Value} {l l' A F : List Rq} {D D' : Nat → Int} (h : Oc w B v l D va A vd F wr) (hm : Moved B v v' wr wr') (hp : PoolAt w.heap.size wr' B v' l' D') (hi : Inv l' D') : Oc w B v' l' D' va A vd F wr' := ⟨h.kp.moved hm hp hi, h.ad.moved hm, h.dn.moved hm, h.ap⟩
theorem Kp.grown {w wr wr' : World} {B : Nat} {v vo : Value} {l A : List Rq} {D : Nat → Int} (h : Kp w B v l D wr) (hs : Side w wr B v vo A) (hg : wr.grownBy wr' vo.ownBlock) : Kp w B v l D wr' :=
  ⟨h.pool.keep (hg.block B h.pool.lt (fun e => hs.n1 e.symm)) (fun k hk => hg.block k (h.pool.own.lt k hk).2 (fun e => hs.n2 k hk e.symm)), h.inv, h.bel.grown hg h.pool.le (fun k hk => (hs.own.lt k hk).1)⟩
theorem Oc.added {w wr wr' : World} {B : Nat} {v va vd : Value} {l A F : List Rq} {D : Nat → Int} (h : Oc w B v l D va A vd F wr) {a : Rq} {g cap : Nat} (hg : wr.grownBy wr' va.ownBlock)
    (ho : wr'.ownsRow w.heap.size 31 3 (.slice (some ⟨g, 0, none⟩) (A.length + 1) cap) (A.length + 1) (rcs A ++ [.int .i64 a.1, .int .i64 a.2.1, .string (bs a.2.2)])) (hat : va.ownBlock = some g ∨ g = wr.heap.size) : Oc w B v l D (.slice (some ⟨g, 0, none⟩) (A.length + 1) cap) (A ++ [a]) vd F wr' :=
  ⟨h.kp.grown h.ad hg, h.ad.grown h.kp.pool.lt (fun k hk => (h.kp.pool.own.lt k hk).2) ho hat, h.dn.other hg (fun k h1 h2 => h.ap k h2 h1), fun k h1 h2 => by
    have e2 : g = k := Option.some.inj h1
    rcases hat with e3 | e3
    · exact h.ap k (by rw [e3, e2]) h2
    · have := (h.dn.own.lt k h2).2; omega⟩
theorem Oc.done {w wr wr' : World} {B : Nat} {v va vd : Value} {l A F : List Rq} {D : Nat → Int} (h : Oc w B v l D va A vd F wr) {a : Rq} {g cap : Nat} (hg : wr.grownBy wr' vd.ownBlock)
    (ho : wr'.ownsRow w.heap.size 31 3 (.slice (some ⟨g, 0, none⟩) (F.length + 1) cap) (F.length + 1) (rcs F ++ [.int .i64 a.1, .int .i64 a.2.1, .string (bs a.2.2)])) (hat : vd.ownBlock = some g ∨ g = wr.heap.size) : Oc w B v l D va A (.slice (some ⟨g, 0, none⟩) (F.length + 1) cap) (F ++ [a]) wr' :=
  ⟨h.kp.grown h.dn hg, h.ad.other hg h.ap, h.dn.grown h.kp.pool.lt (fun k hk => (h.kp.pool.own.lt k hk).2) ho hat, fun k h1 h2 => by
    have e2 : g = k := Option.some.inj h2
    rcases hat with e3 | e3
    · exact h.ap k h1 (by rw [e3, e2])
    · have := (h.ad.own.lt k h1).2; omega⟩

/-- What is there was added; what is done is done. -/
structure Pl (l : List Rq) (D : Nat → Int) (A F : List Rq) : Prop where
  inA : ∀ a ∈ l, a ∈ A
  dn : ∀ d ∈ F, 0 ≤ d.1 ∧ d.2.1 ≤ D d.1.toNat
theorem add_cases {c n e1 : Int} {t : List UInt8} {l l1 : List Rq} {D : Nat → Int} {b1 : Bool} (hR : addR c n t l D = (b1, e1, l1)) : (b1 = true ∧ e1 = 0 ∧ l1 = rmL (ofP c) l ++ [(c, n, t)]) ∨ (b1 = false ∧ l1 = l) := by
  unfold addR at hR
  split at hR
  · injection hR with a1 a2; injection a2 with a2 a3; exact .inr ⟨a1.symm, a3.symm⟩
  · split at hR
    · injection hR with a1 a2; injection a2 with a2 a3; exact .inr ⟨a1.symm, a3.symm⟩
    · split at hR
      · injection hR with a1 a2; injection a2 with a2 a3; exact .inr ⟨a1.symm, a3.symm⟩
      · split at hR
        · split at hR
          · injection hR with a1 a2; injection a2 with a2 a3; exact .inr ⟨a1.symm, a3.symm⟩
          · injection hR with a1 a2; injection a2 with a2 a3; exact .inl ⟨a1.symm, a2.symm, a3.symm⟩
        · split at hR
          · injection hR with a1 a2; injection a2 with a2 a3; exact .inr ⟨a1.symm, a3.symm⟩
          · injection hR with a1 a2; injection a2 with a2 a3; exact .inl ⟨a1.symm, a2.symm, a3.symm⟩
theorem done_cases {c n e1 : Int} {l l1 : List Rq} {D D1 : Nat → Int} {b1 : Bool} (hR : doneR c n l D = (b1, e1, l1, D1)) : (e1 = 0 ∧ okB c n = true ∧ l1 = rmL (upP c n) l ∧ D1 = updM D c.toNat n) ∨ (e1 = 1 ∧ l1 = l ∧ D1 = D) := by
  unfold doneR at hR
  split at hR
  · injection hR with a1 a2; injection a2 with a2 a3; injection a3 with a3 a4; exact .inr ⟨a2.symm, a3.symm, a4.symm⟩
  · next hk => injection hR with a1 a2; injection a2 with a2 a3; injection a3 with a3 a4; exact .inl ⟨a2.symm, by simpa using hk, a3.symm, a4.symm⟩
theorem Pl.new : Pl [] (fun _ => 0) [] [] := ⟨by simp, by simp⟩
theorem Pl.add {l A F : List Rq} {D : Nat → Int} (h : Pl l D A F) (c n : Int) (t : List UInt8) : Pl (rmL (ofP c) l ++ [(c, n, t)]) D (A ++ [(c, n, t)]) F := by
  refine ⟨fun a ha => ?_, h.dn⟩
  rcases List.mem_append.1 ha with ha | ha
  · exact List.mem_append.2 (.inl (h.inA a ((rmL_sub _ _).subset ha)))
  · exact List.mem_append.2 (.inr ha)
theorem updM_ge (D : Nat → Int) (c : Nat) (n : Int) (q : Nat) : D q ≤ updM D c n q := by
  unfold updM upd
  split
  · next h => rw [h]; omega
  · exact Int.le_refl _
theorem Pl.done {l A F : List Rq} {D : Nat → Int} (h : Pl l D A F) {c n : Int} (hok : okB c n = true) (t : List UInt8) : Pl (rmL (upP c n) l) (updM D c.toNat n) A (F ++ [(c, n, t)]) := by
  refine ⟨fun a ha => h.inA a ((rmL_sub _ _).subset ha), fun d hd => ?_⟩
  rcases List.mem_append.1 hd with hd | hd
  · have h1 := h.dn d hd
    have h2 := updM_ge D c.toNat n d.1.toNat
    exact ⟨h1.1, by omega⟩
  · simp at hd
    subst hd
    refine ⟨(okB_t hok).1, ?_⟩
    show n ≤ updM D c.toNat n c.toNat
    simp [updM, upd]; omega
/-- What the law asks of what is taken. -/
theorem taken_in {l A F : List Rq} {D : Nat → Int} (h : Pl l D A F) {T : List Rq} (hT : T <+: l) {r : Rq} (hr : r ∈ T) : r ∈ A := h.inA r (hT.subset hr)
theorem taken_new {l A F : List Rq} {D : Nat → Int} (hi : Inv l D) (h : Pl l D A F) {T : List Rq} (hT : T <+: l) {r d : Rq} (hr : r ∈ T) (hd : d ∈ F) : (d.1 == r.1) = false ∨ ((d.1 == r.1) = true ∧ d.2.1 < r.2.1) := by
  have h1 := hi.num r (hT.subset hr)
  have h2 := h.dn d hd
  by_cases e : d.1 = r.1
  · right
    rw [e] at h2
    exact ⟨by simp [e], by omega⟩
  · left; simp [e]
theorem taken_one {l : List Rq} {D : Nat → Int} (hi : Inv l D) {T : List Rq} (hT : T <+: l) {i j : Nat} {r x : Rq} (hr : T[i]? = some r) (hx : T[j]? = some x) (hji : j < i) : (x.1 == r.1) = false := by
  have hp := hi.one.sublist hT.sublist
  rw [List.pairwise_iff_getElem] at hp
  obtain ⟨h1, e1⟩ := List.getElem?_eq_some_iff.1 hr
  obtain ⟨h2, e2⟩ := List.getElem?_eq_some_iff.1 hx
  have := hp j i h2 h1 hji
  rw [e1, e2] at this
  simp [this]
theorem take_mem {α : Type} [DecidableEq α] {l : List α} {k : Nat} {n : α} (h : l[k]? = some n) (e : α) : decide (e ∈ l.take (k + 1)) = (decide (e ∈ l.take k) || decide (n = e)) := by
  rw [take_snoc h]
  by_cases h1 : e ∈ l.take k <;> by_cases h2 : n = e <;> simp [h1, h2, List.mem_append]
  intro h3; exact h2 h3.symm
end Go.Proofs.Ytbibfhhnnjojnaa
