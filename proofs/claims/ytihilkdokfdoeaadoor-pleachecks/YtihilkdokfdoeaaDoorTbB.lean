/- Rows in memory; the search for a key, walked. -/
import Derived.Test.YtihilkdokfdoeaaDoorTbA
namespace Go.Proofs.YtihilkdokfdoeaaDoor
open Go.RowKit
attribute [local go_sem ↓] Go.wp_at_zero Go.wp_at_succ

/-- Rows as cells. -/
def rcs (l : List Rw) : List Value := l.flatMap fun r => [.string (bs r.1), .string (bs r.2)]
theorem rcs_len (l : List Rw) : (rcs l).length = l.length * 2 := by
  induction l with
  | nil => rfl
  | cons r l ih => simp only [rcs, List.flatMap_cons, List.length_append, List.length_cons, List.length_nil] at ih ⊢; omega
theorem rcs_append (a b : List Rw) : rcs (a ++ b) = rcs a ++ rcs b := by simp [rcs]
theorem rcs_at {l : List Rw} {i : Nat} {r : Rw} (h : l[i]? = some r) : (rcs l)[i * 2]? = some (.string (bs r.1)) ∧ (rcs l)[i * 2 + 1]? = some (.string (bs r.2)) := by
  obtain ⟨hi, e⟩ := List.getElem?_eq_some_iff.1 h
  have hs : l = l.take i ++ r :: l.drop (i + 1) := by rw [← e]; simp
  have hl : (rcs (l.take i)).length = i * 2 := by rw [rcs_len, List.length_take, Nat.min_eq_left (by omega)]
  rw [hs, rcs_append]
  constructor
  · rw [List.getElem?_append_right (by omega), hl]
    simp [rcs]
  · rw [List.getElem?_append_right (by omega), hl, show i * 2 + 1 - i * 2 = 1 by omega]
    simp [rcs]
theorem rcs_one (l : List Rw) : ∀ u ∈ rcs l, u.oneCell' = true := by
  intro u hu
  simp only [rcs, List.mem_flatMap] at hu
  obtain ⟨r, _, hr⟩ := hu
  simp at hr
  rcases hr with rfl | rfl <;> rfl
/-- A slice of rows, as it lies. -/
def Rs (w : World) (v : Value) (l : List Rw) : Prop :=
  (l = [] ∧ v = .slice none 0 0) ∨
  ∃ g cap cur t, v = .slice (some ⟨g, 0, none⟩) l.length cap ∧ w.heap[g]? = some (.cells cur t) ∧ l.length ≤ cap ∧ cap * 2 ≤ cur.size ∧ cur.toList.take (l.length * 2) = rcs l
theorem Rs.nil (w : World) : Rs w (.slice none 0 0) [] := .inl ⟨rfl, rfl⟩
theorem Rs.keep {w w' : World} {v : Value} {l : List Rw} (h : Rs w v l) (hb : ∀ k, v.ownBlock = some k → k < w.heap.size → w'.heap[k]? = w.heap[k]?) : Rs w' v l := by
  rcases h with h | ⟨g, cap, cur, t, rfl, h2, h3⟩
  · exact .inl h
  · exact .inr ⟨g, cap, cur, t, rfl, (hb g rfl (Array.getElem?_eq_some_iff.1 h2).1).trans h2, h3⟩
theorem Rs.on {w w' : World} {v : Value} {l : List Rw} (h : Rs w v l) (hb : Below w.heap.size w w') : Rs w' v l := h.keep fun k _ hk => hb.block k hk
theorem Rs.lt {w : World} {v : Value} {l : List Rw} (h : Rs w v l) : ∀ k, v.ownBlock = some k → k < w.heap.size := by
  rcases h with ⟨_, rfl⟩ | ⟨g, cap, cur, t, rfl, h2, h3⟩
  · intro k hk; cases hk
  · intro k hk
    cases hk
    exact (Array.getElem?_eq_some_iff.1 h2).1
theorem Rs.slice {w : World} {v : Value} {l : List Rw} (h : Rs w v l) : ∃ a c, v = .slice a l.length c ∧ l.length ≤ c := by
  rcases h with ⟨rfl, rfl⟩ | ⟨g, cap, cur, t, rfl, h2, h3, h4⟩
  · exact ⟨_, _, rfl, Nat.le_refl _⟩
  · exact ⟨_, _, rfl, h3⟩
theorem Rs.at {w : World} {a : Option Addr} {c : Nat} {l : List Rw} (h : Rs w (.slice a l.length c) l) {i : Nat} {r : Rw} (hr : l[i]? = some r) :
    ∃ g, a = some ⟨g, 0, none⟩ ∧ g < w.heap.size ∧ w.cell? ⟨g, i * 2, none⟩ = some (.string (bs r.1)) ∧ w.cell? ⟨g, i * 2 + 1, none⟩ = some (.string (bs r.2)) := by
  have hi := (List.getElem?_eq_some_iff.1 hr).1
  rcases h with ⟨rfl, _⟩ | ⟨g, cap, cur, t, e, h2, h3, h4, h5⟩
  · simp at hi
  · simp only [Value.slice.injEq, true_and] at e
    obtain ⟨rfl, rfl⟩ := e
    obtain ⟨a1, a2⟩ := rcs_at hr
    rw [← h5, List.getElem?_take_of_lt (by omega)] at a1 a2
    exact ⟨g, rfl, (Array.getElem?_eq_some_iff.1 h2).1, cellB h2 _ _ (by simpa using a1), cellB h2 _ _ (by simpa using a2)⟩
theorem Rs.of_owns {w : World} {v : Value} {l : List Rw} {base : Nat} {e : TypeId} (h : w.ownsRow base e 2 v l.length (rcs l)) : Rs w v l := by
  obtain ⟨_, h⟩ := h
  rcases h with ⟨rfl, h0⟩ | ⟨g, cap, cur, rfl, hb, hh, h1, h2, h3, h4⟩
  · exact .inl ⟨List.length_eq_zero_iff.1 h0, rfl⟩
  · exact .inr ⟨g, cap, cur, e, rfl, hh, h1, by omega, h4⟩

set_option maxRecDepth 20000 in
theorem CompareString_any (a b : List UInt8) (w : World) : Calls Tryd.prog 97 #[.string (bs a), .string (bs b)] w fun e W' => e = .returned (.int .i64 (Lib.compareBytes a b)) ∧ W' = w := by
  go_enter Tryd.func97, Tryd.ntmps97
  go_wp2
  rw [run_callFunc_extern Tryd.func99 (by kernel_rfl) (by kernel_rfl) (by kernel_rfl) (e := Extern.BytealgCompare.compare) (by kernel_rfl), Lib.run_compareString]
  simp only [Result.andThen]
  rw [Oper.upon_value]
  go_wp2
  go_ret
  exact ⟨rfl, rfl⟩
set_option maxRecDepth 20000 in
theorem Compare_any (a b : List UInt8) (w : World) : Calls Tryd.prog 89 #[.string (bs a), .string (bs b)] w fun e W' => e = .returned (.int .i64 (Lib.compareBytes a b)) ∧ W' = w := by
  go_enter Tryd.func89, Tryd.ntmps89
  go_wp2_with (go_at_call 97; refine (CompareString_any _ _ _).mono ?_; rintro e w1 ⟨rfl, h9⟩; subst h9)
  go_ret
  exact ⟨rfl, rfl⟩
set_option maxRecDepth 20000 in
theorem less_any (a b k : List UInt8) (w : World) : Calls Tryd.prog 88 #[.agg #[.string (bs a), .string (bs b)], .string (bs k)] w fun e W' => e = .returned (.int .i64 (Lib.compareBytes a k)) ∧ Below w.heap.size w W' := by
  go_enter Tryd.func88, Tryd.ntmps88
  go_wp2_with (go_at_call 89; refine (Compare_any _ _ _).mono ?_; rintro e w1 ⟨rfl, h9⟩; subst h9)
  go_ret
  exact ⟨rfl, (Below.refl _ _).alloc (Nat.le_refl _) _⟩

/-- Where the search ends. -/
theorem plc_at {l : List Rw} {k : List UInt8} {i : Nat} (hi : i ≤ l.length) (h1 : ∀ m r, l[m]? = some r → m < i → lt r.1 k = true) (h2 : ∀ r, l[i]? = some r → lt r.1 k = false) : plc l k = i := by
  induction l generalizing i with
  | nil => simp at hi; subst hi; rfl
  | cons r l ih =>
    cases i with
    | zero =>
      have := h2 r rfl
      simp [plc, this]
    | succ i =>
      have := h1 0 r rfl (by omega)
      have h := ih (i := i) (by simpa using hi) (fun m x hm hlt => h1 (m + 1) x (by simpa using hm) (by omega)) (fun x hx => h2 x (by simpa using hx))
      simp [plc, this] at h ⊢
      exact h
theorem val_some {l : List Rw} (hs : l.Pairwise fun a b => lt a.1 b.1 = true) (k : List UInt8) : (val? l k).isSome = (match l[plc l k]? with | some r => decide (r.1 = k) | none => false) := by
  obtain ⟨A, M, C, e1, e2, e3, e4, e5⟩ := split hs k
  rw [← e2]
  subst e1
  rw [val_split e3 e4 e5]
  rcases e5 with rfl | ⟨v, rfl⟩
  · cases C with
    | nil => simp
    | cons c C =>
      have := lt_ne (e4 c (by simp))
      simp [Ne.symm this]
  · simp
theorem cmp_neg (a b : List UInt8) : decide (Lib.compareBytes a b < 0) = lt a b := by
  rw [cmp_lt]
  cases h : lt a b
  · simp only [Bool.false_eq_true, if_false]
    split <;> rfl
  · rfl
theorem cmp_zero (a b : List UInt8) : (Lib.compareBytes a b == 0) = decide (a = b) := by
  rw [cmp_lt]
  by_cases e : a = b
  · subst e
    rw [lt_irr]
    simp
  · cases h : lt a b <;> simp [e]
end Go.Proofs.YtihilkdokfdoeaaDoor
