/- Chains, the document's side: Run, walked. -/
import Derived.Test.YtfolnlgceighbaaGreatDoorCbA
namespace Go.Proofs.YtfolnlgceighbaaGreatDoor
section
open Go.RowKit
attribute [local go_sem ↓] Go.wp_at_zero Go.wp_at_succ

/-- A command. -/
abbrev C3 := Int × Int × Int
def c3s (x : C3) : List Value := [.int .i64 x.1, .int .i64 x.2.1, .int .i64 x.2.2]
def ccs (l : List C3) : List Value := l.flatMap c3s
theorem ccs_snoc (l : List C3) (x : C3) : ccs (l ++ [x]) = ccs l ++ c3s x := by simp [ccs]
/-- A slice of just these commands. -/
def Cs (w : World) (v : Value) (l : List C3) : Prop :=
  (l = [] ∧ ∃ a c, v = .slice a 0 c) ∨ ∃ b o cap, v = .slice (some ⟨b, o, none⟩) l.length cap ∧ b < w.heap.size ∧ ∀ (i : Nat) x, l[i]? = some x → w.cell? ⟨b, o + i * 3, none⟩ = some (.int .i64 x.1) ∧ w.cell? ⟨b, o + i * 3 + 1, none⟩ = some (.int .i64 x.2.1) ∧ w.cell? ⟨b, o + i * 3 + 2, none⟩ = some (.int .i64 x.2.2)
theorem Cs.next {w w' : World} {v : Value} {l : List C3} (h : Cs w v l) (hb : Below w.heap.size w w') : Cs w' v l := by
  rcases h with h | ⟨b, o, cap, rfl, hlt, h⟩
  · exact .inl h
  · refine .inr ⟨b, o, cap, rfl, Nat.lt_of_lt_of_le hlt hb.size, fun i x hx => ?_⟩
    obtain ⟨h1, h2, h3⟩ := h i x hx
    exact ⟨(hb.cell (p := ⟨b, o + i * 3, none⟩) hlt).trans h1, (hb.cell (p := ⟨b, o + i * 3 + 1, none⟩) hlt).trans h2, (hb.cell (p := ⟨b, o + i * 3 + 2, none⟩) hlt).trans h3⟩
theorem Cs.slice {w : World} {v : Value} {l : List C3} (h : Cs w v l) : ∃ a c, v = .slice a l.length c := by
  rcases h with ⟨rfl, a, c, rfl⟩ | ⟨b, o, cap, rfl, _⟩
  · exact ⟨a, c, rfl⟩
  · exact ⟨_, _, rfl⟩
theorem Cs.at {w : World} {a : Option Addr} {c : Nat} {l : List C3} (h : Cs w (.slice a l.length c) l) {i : Nat} {x : C3} (hi : l[i]? = some x) : ∃ b o, a = some ⟨b, o, none⟩ ∧ w.cell? ⟨b, o + i * 3, none⟩ = some (.int .i64 x.1) ∧ w.cell? ⟨b, o + i * 3 + 1, none⟩ = some (.int .i64 x.2.1) ∧ w.cell? ⟨b, o + i * 3 + 2, none⟩ = some (.int .i64 x.2.2) := by
  rcases h with ⟨rfl, _⟩ | ⟨b, o, cap, hv, hlt, h⟩
  · cases hi
  · injection hv with h1 _ _
    exact ⟨b, o, h1, h i x hi⟩
/-- The configurations of commands, behind those that are there. -/
def runC (cs : List (List Nat × List Nat)) (l : List C3) : List (List Nat × List Nat) := l.foldl (fun cs x => doC cs x.1 x.2.1 x.2.2) cs
theorem runC_snoc (cs : List (List Nat × List Nat)) (l : List C3) (x : C3) : runC cs (l ++ [x]) = doC (runC cs l) x.1 x.2.1 x.2.2 := by
  unfold runC; rw [List.foldl_append]; rfl
theorem doC_len (cs : List (List Nat × List Nat)) (k g s : Int) (h : cs.length ≤ 40) : (doC cs k g s).length ≤ 40 := by
  unfold doC
  split
  · next he =>
    have : ¬ 40 ≤ cs.length := fun h4 => by unfold doE at he; rw [if_pos h4] at he; cases he
    rw [List.length_append]
    simp
    omega
  · exact h
theorem runC_len : ∀ (l : List C3) (cs : List (List Nat × List Nat)), cs.length ≤ 40 → (runC cs l).length ≤ 40
  | [], _, h => h
  | _ :: l, cs, h => runC_len l _ (doC_len cs _ _ _ h)
/-- The document's configurations in memory: the first one, and those behind it. -/
structure RunAt (base : Nat) (w : World) (u : Value) (L : List Rc) : Prop where
  own : w.ownsRow base 32 6 u (L.length + 1) (cfL 0 (.slice none 0 0) 0 0 0 0 ++ rcsF 1 L)
  ok : ∀ (i : Nat) r, L[i]? = some r → r.2.1 ∈ subs0 ∧ r.2.2 ∈ owners0 r.2.1 ∧ Il w r.1 (zi r.2.1) ∧ ∀ k, r.1.ownBlock = some k → k < w.heap.size ∧ u.ownBlock ≠ some k
theorem RunAt.next {base : Nat} {w w' : World} {u : Value} {L : List Rc} (h : RunAt base w u L) (hb : Below w.heap.size w w') : RunAt base w' u L :=
  ⟨owns_next h.own hb, fun i r hr => by
    obtain ⟨a, b, c, d⟩ := h.ok i r hr
    exact ⟨a, b, c.next hb, fun k hk => by
      obtain ⟨e1, e2⟩ := d k hk
      exact ⟨Nat.lt_of_lt_of_le e1 hb.size, e2⟩⟩⟩
theorem RunAt.four {base : Nat} {w : World} {u : Value} {L : List Rc} (h : RunAt base w u L) : ∀ (i : Nat) r, L[i]? = some r → r.2.2.length = 4 := fun i r hr => by
  obtain ⟨a, b, _⟩ := h.ok i r hr
  exact ((conf_of a).2.2 _ b).1
/-- Number n of them. -/
theorem RunAt.row {base : Nat} {w : World} {u : Value} {L : List Rc} (h : RunAt base w u L) {n : Nat} (hn : n ≤ L.length) : ∃ (g cap : Nat) (gv : Value) (a b c d : Nat), u = .slice (some ⟨g, 0, none⟩) (L.length + 1) cap ∧ (cfgAt L n).2 = [a, b, c, d] ∧ Il w gv (zi (cfgAt L n).1) ∧ w.rangeAt g (n * 6) (cfL (n : Int) gv a b c d) ∧ (cfgAt L n).1 ∈ subs0 ∧ (cfgAt L n).2 ∈ owners0 (cfgAt L n).1 := by
  obtain ⟨g, cap, rfl, hb, hlt⟩ := h.own.form (by omega)
  have hlen := rcsF_len L 1 h.four
  cases n with
  | zero =>
    refine ⟨g, cap, .slice none 0 0, 0, 0, 0, 0, rfl, rfl, .inl ⟨rfl, none, 0, rfl⟩, fun j x hx => ?_, show [] ∈ subs0 by decide, show [0, 0, 0, 0] ∈ owners0 [] by decide⟩
    have hj : j < 6 := (List.getElem?_eq_some_iff.1 hx).1
    have h1 := h.own.cellAt j (by omega)
    rw [List.getElem?_append_left (by simpa using hj)] at h1
    rw [Nat.zero_mul, Nat.zero_add]
    exact h1.trans hx
  | succ m =>
    obtain ⟨r, hr⟩ : ∃ r, L[m]? = some r := ⟨_, List.getElem?_eq_getElem (by omega)⟩
    obtain ⟨o1, o2, o3, _⟩ := h.ok m r hr
    have hcf : cfgAt L (m + 1) = r.2 := by simp [cfgAt, hr]
    obtain ⟨a, b, c, d, h4⟩ := four_of (h.four m r hr)
    refine ⟨g, cap, r.1, a, b, c, d, rfl, by rw [hcf, h4], by rw [hcf]; exact o3, fun j x hx => ?_, by rw [hcf]; exact o1, by rw [hcf]; exact o2⟩
    have hj : j < 6 := (List.getElem?_eq_some_iff.1 hx).1
    have h1 := h.own.cellAt ((m + 1) * 6 + j) (by omega)
    rw [List.getElem?_append_right (by simp; omega)] at h1
    have h2 := rcsF_at L 1 m r h.four hr j hj
    rw [show (m + 1) * 6 + j - (cfL 0 (.slice none 0 0) 0 0 0 0).length = m * 6 + j by simp; omega, h2] at h1
    rw [h1, ← hx]
    show (rcs1 (1 + m) r)[j]? = _
    unfold rcs1
    rw [h4, show ((1 + m : Nat) : Int) = ((m + 1 : Nat) : Int) by omega]
    rfl
end
section
open Go.RowKit
attribute [local go_sem ↓] Go.wp_at_zero Go.wp_at_succ

theorem Y_takeY {P : Program} {md : Region.Mode} {ops : Array Oper} {Q : Exit → Act → World → Prop} {z : Nat} {S : World → Prop} {i : Nat} {oi : Oper} {v : Value} {fuel : Nat} {listed : Array Bool} {a : Act} {w : World} (hi : ops[i]? = some oi)
    (hs : Region.noSelect ops = true) (hf : Region.free md ops listed i = true) (hr : (Region.ready md ops listed).contains i = true) (hz : ops[z]? = none)
    (hQ : ∀ c a w, Q (.panic c) (a.put oi.dst v) w → Q (.panic c) a w) (hy : YieldsIf P ops S oi v a) (hS : S w)
    (h : anyZ P md ops Q z S fuel (listed.setIfInBounds i true) (a.put oi.dst v) w) : anyZ P md ops Q z S (fuel + 1) listed a w :=
  Y_first hi (Region.noSelect_spec hs) hz hQ fuel listed a w (Region.free_spec hi hf) (by simpa using hr) hy hS h
end
end Go.Proofs.YtfolnlgceighbaaGreatDoor
