/- The rows that a text says: plain. -/
import Derived.Test.YtgmobjdjojffgaaDoorTbI
import Derived.Test.YtgmobjdjojffgaaDoorTbQ
namespace Go.Proofs.YtgmobjdjojffgaaDoor
open Go.RowKit

def pairs : List (List UInt8) → List Rw
  | a :: b :: l => (a, b) :: pairs l
  | _ => []
/-- Are rows right, behind a key? -/
def okRows : List UInt8 → List Rw → Bool
  | _, [] => true
  | last, r :: l => isK r.1 && isV r.2 && lt last r.1 && okRows r.1 l
/-- The rows that a text says. -/
def loadR (s : List UInt8) : Option (List Rw) :=
  if good s ∧ (texts s).length % 2 = 0 ∧ (texts s).length ≤ 32 ∧ okRows [] (pairs (texts s)) = true then some (pairs (texts s)) else none
theorem pairs_flat (l : List Rw) : pairs (flat l) = l := by
  induction l with
  | nil => rfl
  | cons r l ih => simp only [flat, List.flatMap_cons, List.cons_append, List.nil_append, pairs] at ih ⊢; rw [ih]
theorem flat_pairs : ∀ (l : List (List UInt8)), l.length % 2 = 0 → flat (pairs l) = l
  | [], _ => rfl
  | [_], h => by simp at h
  | a :: b :: l, h => by
    have ih := flat_pairs l (by simp at h; omega)
    simp only [pairs, flat, List.flatMap_cons, List.cons_append, List.nil_append] at ih ⊢
    rw [ih]
theorem pairs_len : ∀ (l : List (List UInt8)), l.length % 2 = 0 → (pairs l).length * 2 = l.length := fun l h => by rw [← flat_len, flat_pairs l h]
theorem pairs_at {l : List (List UInt8)} (h : l.length % 2 = 0) {n : Nat} {r : Rw} (hr : (pairs l)[n]? = some r) : l[n * 2]? = some r.1 ∧ l[n * 2 + 1]? = some r.2 := by
  obtain ⟨hi, e⟩ := List.getElem?_eq_some_iff.1 hr
  have hs : pairs l = (pairs l).take n ++ r :: (pairs l).drop (n + 1) := by rw [← e]; simp
  have hl : l = flat ((pairs l).take n) ++ (r.1 :: r.2 :: flat ((pairs l).drop (n + 1))) := by
    conv => lhs; rw [← flat_pairs l h, hs]
    simp [flat]
  have hn : (flat ((pairs l).take n)).length = n * 2 := by rw [flat_len, List.length_take, Nat.min_eq_left (by omega)]
  rw [hl]
  constructor
  · rw [List.getElem?_append_right (by omega), hn]
    simp
  · rw [List.getElem?_append_right (by omega), hn, show n * 2 + 1 - n * 2 = 1 by omega]
    simp
theorem ok_rows {l : List Rw} {last : List UInt8} (h : okRows last l = true) : (l.Pairwise fun a b => lt a.1 b.1 = true) ∧ (∀ r ∈ l, isK r.1 = true ∧ isV r.2 = true ∧ lt last r.1 = true) := by
  induction l generalizing last with
  | nil => exact ⟨.nil, fun _ h => by cases h⟩
  | cons r l ih =>
    simp only [okRows, Bool.and_eq_true] at h
    obtain ⟨⟨⟨h1, h2⟩, h3⟩, h4⟩ := h
    obtain ⟨i1, i2⟩ := ih h4
    refine ⟨List.pairwise_cons.2 ⟨fun x hx => (i2 x hx).2.2, i1⟩, fun x hx => ?_⟩
    rcases List.mem_cons.1 hx with rfl | hx
    · exact ⟨h1, h2, h3⟩
    · obtain ⟨a, b, c⟩ := i2 x hx
      exact ⟨a, b, lt_trans h3 c⟩
theorem rows_ok {l : List Rw} {last : List UInt8} (hs : l.Pairwise fun a b => lt a.1 b.1 = true) (h : ∀ r ∈ l, isK r.1 = true ∧ isV r.2 = true ∧ lt last r.1 = true) : okRows last l = true := by
  induction l generalizing last with
  | nil => rfl
  | cons r l ih =>
    rw [List.pairwise_cons] at hs
    obtain ⟨a, b, c⟩ := h r (List.mem_cons_self ..)
    simp only [okRows, Bool.and_eq_true]
    refine ⟨⟨⟨a, b⟩, c⟩, ih hs.2 fun x hx => ?_⟩
    obtain ⟨p, q, _⟩ := h x (List.mem_cons_of_mem _ hx)
    exact ⟨p, q, hs.1 x hx⟩
theorem isK_ne {k : List UInt8} (h : isK k = true) : k ≠ [] := by
  rintro rfl
  simp [isK] at h
theorem ok_load {s : List UInt8} {l : List Rw} (h : loadR s = some l) : Ok l ∧ textT l = s := by
  unfold loadR at h
  split at h
  · rename_i hc
    obtain ⟨h1, h2, h3, h4⟩ := hc
    cases h
    obtain ⟨i1, i2⟩ := ok_rows h4
    have hl := pairs_len _ h2
    refine ⟨⟨i1, by omega, fun r hr => ⟨(i2 r hr).1, (i2 r hr).2.1⟩⟩, ?_⟩
    rw [textT, flat_pairs _ h2]
    exact pack_texts h1
  · cases h
theorem load_text {l : List Rw} (h : Ok l) : loadR (textT l) = some l := by
  have hm : ∀ t ∈ flat l, t.length ≤ 1000000000 := fun t ht => Nat.le_trans (flat_mem h t ht) (by decide)
  have hg : good (textT l) := good_pack _ hm
  have ht : texts (textT l) = flat l := texts_pack _ hm
  have hl := flat_len l
  have h16 := h.len
  rw [loadR, ht, pairs_flat, if_pos]
  refine ⟨hg, by omega, by omega, rows_ok h.sorted fun r hr => ?_⟩
  obtain ⟨a, b⟩ := h.row r hr
  exact ⟨a, b, lt_nil (isK_ne a)⟩
theorem leq_lt (k last : List UInt8) : (lt k last || (k == last)) = !lt last k := by
  by_cases e : k = last
  · subst e
    simp [lt_irr]
  · cases h : lt k last
    · have := lt_tri e h
      simp [e, this]
    · simp [lt_asym h]
end Go.Proofs.YtgmobjdjojffgaaDoor
