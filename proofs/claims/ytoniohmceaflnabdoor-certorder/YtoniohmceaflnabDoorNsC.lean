import Derived.Test.YtoniohmceaflnabDoorNsB
namespace Go.Proofs.YtoniohmceaflnabDoor
open Go.RowKit Go.Shelf
attribute [local go_sem] Oper.semAt_some

theorem items_err {s : List UInt8} : ∀ x ∈ items s, x.2 = 0 ∨ x.2 = 4 := by
  induction h : s.length using Nat.strongRecOn generalizing s with
  | _ k ih =>
    intro x hx
    by_cases h0 : s = []
    · subst h0; rw [items_nil] at hx; cases hx
    · cases hf : firstL 19 s with
      | none => rw [items_none h0 hf] at hx; simp at hx; exact .inr (by rw [hx])
      | some ab =>
        obtain ⟨a, b⟩ := ab
        rw [items_some h0 hf] at hx
        have := first_len hf
        rcases List.mem_cons.1 hx with rfl | hx
        · exact .inl rfl
        · exact ih b.length (by omega) rfl x hx
theorem items_count {s : List UInt8} : (items s).length ≤ s.length := by
  induction h : s.length using Nat.strongRecOn generalizing s with
  | _ k ih =>
    by_cases h0 : s = []
    · subst h0; rw [items_nil]; simp
    · cases hf : firstL 19 s with
      | none =>
        rw [items_none h0 hf]
        have : 0 < s.length := List.length_pos_iff.2 h0
        simp only [List.length_cons, List.length_nil]; omega
      | some ab =>
        obtain ⟨a, b⟩ := ab
        rw [items_some h0 hf]
        have := first_len hf
        have := ih b.length (by omega) rfl
        simp only [List.length_cons]
        omega

/-- Is a text that of a list? -/
def goodB (s : List UInt8) : Bool := decide (∀ x ∈ items s, x.2 = 0)
abbrev good (s : List UInt8) : Prop := goodB s = true
theorem good_iff {s : List UInt8} : good s ↔ ∀ x ∈ items s, x.2 = 0 := decide_eq_true_iff
/-- The list that a text is; the empty one where it is none. -/
def texts (s : List UInt8) : List (List UInt8) := if good s then (items s).map (·.1) else []
def errOf (s : List UInt8) : Int := if good s then 0 else 4

/-- Texts as cells. -/
def strs (l : List (List UInt8)) : List Value := l.map fun t => .string (bs t)

theorem Tryd.info9 : (Tryd.prog.info? 9).map (fun i => (i.zero, i.size, i.bytes)) = some (some (.string ⟨#[]⟩), 1, 16) := by kernel_rfl

theorem owns_slice {w : World} {base n : Nat} {e : TypeId} {s : Nat} {v : Value} {xs : List Value} (h : w.ownsRow base e s v n xs) : ∃ a cap, v = .slice a n cap := by
  rcases h.2 with ⟨rfl, rfl⟩ | ⟨g, cap, cur, rfl, _⟩
  · exact ⟨none, 0, rfl⟩
  · exact ⟨_, cap, rfl⟩
theorem strs_len (l : List (List UInt8)) : (strs l).length = l.length := by simp [strs]
theorem good_of {s : List UInt8} {ys : List It} (h : ys.map (·.1) = items s) (h0 : ∀ x ∈ ys, x.1.2 = 0) : good s := by
  refine good_iff.2 ?_
  intro x hx
  rw [← h] at hx
  obtain ⟨y, hy, rfl⟩ := List.mem_map.1 hx
  exact h0 y hy
theorem texts_of {s : List UInt8} {ys : List It} (h : ys.map (·.1) = items s) (h0 : ∀ x ∈ ys, x.1.2 = 0) : texts s = ys.map (·.1.1) := by
  rw [texts, if_pos (good_of h h0), ← h, List.map_map]
  rfl
theorem bad_of {s : List UInt8} {pre : List It} (h : pre.map (·.1) <+: items s) {x : It} (hx : x ∈ pre) (hne : x.1.2 ≠ 0) : ¬ good s ∧ x.1.2 = 4 := by
  have hm : x.1 ∈ items s := h.subset (List.mem_map_of_mem hx)
  refine ⟨fun hg => hne (good_iff.1 hg _ hm), ?_⟩
  rcases items_err _ hm with h | h
  · exact absurd h hne
  · exact h

end Go.Proofs.YtoniohmceaflnabDoor
