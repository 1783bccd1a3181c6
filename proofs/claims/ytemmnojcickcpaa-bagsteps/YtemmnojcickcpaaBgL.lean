/- Texts in a slice beside a bag. -/
import Derived.Test.YtemmnojcickcpaaBgJ
namespace Go.Proofs.Ytemmnojcickcpaa
open Go.RowKit
attribute [local go_sem ↓] Go.wp_at_zero Go.wp_at_succ

/-- v is a slice of just these texts. -/
def Sl (w : World) (v : Value) (l : List (List UInt8)) : Prop :=
  (l = [] ∧ ∃ a c, v = .slice a 0 c) ∨ ∃ b o cap, v = .slice (some ⟨b, o, none⟩) l.length cap ∧ b < w.heap.size ∧ ∀ (i : Nat) t, l[i]? = some t → w.cell? ⟨b, o + i, none⟩ = some (.string (bs t))
theorem Sl.below {w w' : World} {v : Value} {l : List (List UInt8)} (h : Sl w v l) {B : Nat} (hb : Below B w w') (hB : w.heap.size ≤ B) : Sl w' v l := by
  rcases h with h | ⟨b, o, cap, rfl, hlt, h⟩
  · exact .inl h
  · exact .inr ⟨b, o, cap, rfl, Nat.lt_of_lt_of_le hlt hb.size, fun i t ht => (hb.cell (p := ⟨b, o + i, none⟩) (by show b < B; omega)).trans (h i t ht)⟩
theorem Sl.slice {w : World} {v : Value} {l : List (List UInt8)} (h : Sl w v l) : ∃ a c, v = .slice a l.length c := by
  rcases h with ⟨rfl, a, c, rfl⟩ | ⟨b, o, cap, rfl, _⟩
  · exact ⟨a, c, rfl⟩
  · exact ⟨_, _, rfl⟩
theorem Sl.at {w : World} {a : Option Addr} {c : Nat} {l : List (List UInt8)} (h : Sl w (.slice a l.length c) l) {k : Nat} {t : List UInt8} (hk : l[k]? = some t) : ∃ b o, a = some ⟨b, o, none⟩ ∧ b < w.heap.size ∧ w.cell? ⟨b, o + k, none⟩ = some (.string (bs t)) := by
  rcases h with ⟨rfl, _⟩ | ⟨b, o, cap, hv, hlt, h⟩
  · cases hk
  · injection hv with h1 _ _
    exact ⟨b, o, h1, hlt, h k t hk⟩
/-- v is a slice of just these numbers. -/
def Il (w : World) (v : Value) (ns : List Int) : Prop :=
  (ns = [] ∧ ∃ a c, v = .slice a 0 c) ∨ ∃ b o cap, v = .slice (some ⟨b, o, none⟩) ns.length cap ∧ b < w.heap.size ∧ ∀ (i : Nat) n, ns[i]? = some n → w.cell? ⟨b, o + i, none⟩ = some (.int .i64 n)
theorem Il.below {w w' : World} {v : Value} {ns : List Int} (h : Il w v ns) {B : Nat} (hb : Below B w w') (hB : w.heap.size ≤ B) : Il w' v ns := by
  rcases h with h | ⟨b, o, cap, rfl, hlt, h⟩
  · exact .inl h
  · exact .inr ⟨b, o, cap, rfl, Nat.lt_of_lt_of_le hlt hb.size, fun i n hn => (hb.cell (p := ⟨b, o + i, none⟩) (by show b < B; omega)).trans (h i n hn)⟩
theorem Il.slice {w : World} {v : Value} {ns : List Int} (h : Il w v ns) : ∃ a c, v = .slice a ns.length c := by
  rcases h with ⟨rfl, a, c, rfl⟩ | ⟨b, o, cap, rfl, _⟩
  · exact ⟨a, c, rfl⟩
  · exact ⟨_, _, rfl⟩
theorem Il.at {w : World} {a : Option Addr} {c : Nat} {l : List Int} (h : Il w (.slice a l.length c) l) {k : Nat} {t : Int} (hk : l[k]? = some t) : ∃ b o, a = some ⟨b, o, none⟩ ∧ b < w.heap.size ∧ w.cell? ⟨b, o + k, none⟩ = some (.int .i64 t) := by
  rcases h with ⟨rfl, _⟩ | ⟨b, o, cap, hv, hlt, h⟩
  · cases hk
  · injection hv with h1 _ _
    exact ⟨b, o, h1, hlt, h k t hk⟩

/-- Texts as cells. -/
def scs (l : List (List UInt8)) : List Value := l.map fun t => Value.string (bs t)
theorem scs_snoc (l : List (List UInt8)) (t : List UInt8) : scs (l ++ [t]) = scs l ++ [.string (bs t)] := by simp [scs]
theorem scs_at (l : List (List UInt8)) (i : Nat) (t : List UInt8) (h : l[i]? = some t) : (scs l)[i]? = some (.string (bs t)) := by simp [scs, h]
theorem Try.info9 : (Try.prog.info? 9).map (fun i => (i.zero, i.size, i.bytes)) = some (some (.string ⟨#[]⟩), 1, 16) := by kernel_rfl
theorem texts_at {w : World} {base : Nat} {v : Value} {l : List (List UInt8)} (h : w.ownsRow base 9 1 v l.length (scs l)) {k : Nat} {t : List UInt8} (hk : l[k]? = some t) : ∃ g cap, v = .slice (some ⟨g, 0, none⟩) l.length cap ∧ base ≤ g ∧ g < w.heap.size ∧ w.cell? ⟨g, k, none⟩ = some (.string (bs t)) := by
  have hkl : k < l.length := (List.getElem?_eq_some_iff.1 hk).1
  obtain ⟨g, cap, rfl, hb, hlt⟩ := h.form (by omega)
  exact ⟨g, cap, rfl, hb, hlt, (h.cellAt k (by omega)).trans (scs_at l k t hk)⟩
theorem owns_base {w : World} {base base' n : Nat} {e : TypeId} {s : Nat} {v : Value} {xs : List Value} (h : w.ownsRow base e s v n xs) (hb : base' ≤ base) : w.ownsRow base' e s v n xs := by
  obtain ⟨hl, h | ⟨g, cap, cur, rfl, h2, h3⟩⟩ := h
  · exact ⟨hl, .inl h⟩
  · exact ⟨hl, .inr ⟨g, cap, cur, rfl, Nat.le_trans hb h2, h3⟩⟩

/-- A bag, and beside it a slice of texts. -/
structure Kp (w : World) (base B : Nat) (v : Value) (l : List It) (vl : Value) (tx : List (List UInt8)) (wr : World) : Prop where
  bag : BagAt 70 31 base wr B v l 0
  left : wr.ownsRow base 9 1 vl tx.length (scs tx)
  n1 : vl.ownBlock ≠ some B
  n2 : ∀ k, v.ownBlock = some k → vl.ownBlock ≠ some k
  bel : Below base w wr
theorem Kp.le {w wr : World} {base B : Nat} {v vl : Value} {l : List It} {tx : List (List UInt8)} (h : Kp w base B v l vl tx wr) : base ≤ wr.heap.size := Nat.le_trans h.bag.base (Nat.le_of_lt h.bag.lt)
theorem Kp.next {w wr wr' : World} {base B : Nat} {v vl : Value} {l : List It} {tx : List (List UInt8)} (h : Kp w base B v l vl tx wr) (hb : Below wr.heap.size wr wr') : Kp w base B v l vl tx wr' :=
  ⟨h.bag.next hb, owns_kept h.left (fun k hk => hb.block k (h.left.lt k hk).2), h.n1, h.n2, h.bel.trans (hb.mono h.le)⟩
theorem Kp.moved {w wr wr' : World} {base B : Nat} {v v' vl : Value} {l l' : List It} {tx : List (List UInt8)} (h : Kp w base B v l vl tx wr) (hm : Moved B v v' wr wr') (hb : BagAt 70 31 base wr' B v' l' 0) : Kp w base B v' l' vl tx wr' :=
  ⟨hb, owns_kept h.left (fun k hk => hm.block k (h.left.lt k hk).2 (fun e => h.n1 (by rw [← e]; exact hk)) (fun e => h.n2 k e hk)), h.n1,
    fun k h1 h2 => by
      rcases hm.own k h1 with e | e
      · exact h.n2 k e h2
      · have := (h.left.lt k h2).2; omega,
    h.bel.trans (h.bag.bel hm (Nat.le_refl _))⟩
theorem Kp.grown {w wr wr' : World} {base B : Nat} {v vl : Value} {l : List It} {tx : List (List UInt8)} (h : Kp w base B v l vl tx wr) {t : List UInt8} {g cap : Nat} (hg : wr.grownBy wr' vl.ownBlock)
    (ho : wr'.ownsRow base 9 1 (.slice (some ⟨g, 0, none⟩) (tx.length + 1) cap) (tx.length + 1) (scs tx ++ [.string (bs t)])) (hat : vl.ownBlock = some g ∨ g = wr.heap.size) : Kp w base B v l (.slice (some ⟨g, 0, none⟩) (tx.length + 1) cap) (tx ++ [t]) wr' := by
  have hlt := h.bag.lt
  refine ⟨h.bag.keep (hg.block B hlt (fun e => h.n1 e.symm)) (fun k hk => hg.block k (h.bag.own.lt k hk).2 (fun e => h.n2 k hk e.symm)), ?_, ?_, ?_, h.bel.grown hg h.le (fun k hk => (h.left.lt k hk).1)⟩
  · rw [scs_snoc, List.length_append]; exact ho
  · intro e
    have e2 : g = B := Option.some.inj e
    rcases hat with e3 | e3
    · exact h.n1 (by rw [e3, e2])
    · omega
  · intro k h1 e
    have e2 : g = k := Option.some.inj e
    rcases hat with e3 | e3
    · exact h.n2 k h1 (by rw [e3, e2])
    · have := (h.bag.own.lt k h1).2; omega
theorem Kp.other {w wr wr' : World} {base B : Nat} {v vl vr : Value} {l : List It} {tx ty : List (List UInt8)} (h : Kp w base B v l vl tx wr) (hb : Below wr.heap.size wr wr') (ho : wr'.ownsRow wr.heap.size 9 1 vr ty.length (scs ty)) : Kp w base B v l vr ty wr' := by
  have h2 := h.next hb
  refine ⟨h2.bag, owns_base ho h.le, fun e => ?_, fun k h1 e => ?_, h2.bel⟩
  · have := (ho.lt B e).1; have := h.bag.lt; omega
  · have := (ho.lt k e).1; have := (h.bag.own.lt k h1).2; omega
theorem Kp.new {w : World} {base B : Nat} {v : Value} {l : List It} {wr : World} (h : BagAt 70 31 base wr B v l 0) (hb : Below base w wr) : Kp w base B v l (.slice none 0 0) [] wr :=
  ⟨h, World.ownsRow_nil _ _ _ _, fun e => (by cases e), fun k _ e => (by cases e), hb⟩
end Go.Proofs.Ytemmnojcickcpaa
