/- What operations do to rows: plain. -/
import Derived.Test.YtihilkdokfdoeaaDoorTbP
namespace Go.Proofs.YtihilkdokfdoeaaDoor
open Go.RowKit

theorem val_append (A B : List Rw) (q : List UInt8) : val? (A ++ B) q = (val? A q).or (val? B q) := by
  simp only [val?, List.find?_append]
  cases (A.find? fun r => r.1 == q) <;> simp
theorem val_cons (r : Rw) (B : List Rw) (q : List UInt8) : val? (r :: B) q = if r.1 = q then some r.2 else val? B q := by
  by_cases h : r.1 = q
  · rw [if_pos h]
    simp [val?, h]
  · rw [if_neg h]
    have : (r.1 == q) = false := by simpa using h
    simp [val?, this]
theorem val_nil (q : List UInt8) : val? [] q = none := rfl
theorem val_out {A : List Rw} {q : List UInt8} (h : ∀ r ∈ A, r.1 ≠ q) : val? A q = none := by rw [val?, find_none h]; rfl
theorem val_put {l : List Rw} (hs : l.Pairwise fun a b => lt a.1 b.1 = true) (k v q : List UInt8) : val? (putR l k v) q = if q = k then some v else val? l q := by
  obtain ⟨A, M, C, rfl, e2, e3, e4, e5⟩ := split hs k
  rw [put_split e2 e3 e4 e5]
  by_cases h : q = k
  · subst h
    rw [if_pos rfl, val_append, val_out fun r hr => lt_ne (e3 r hr), val_cons, if_pos rfl]
    rfl
  · rw [if_neg h, val_append, val_append, val_append, val_cons, if_neg (fun e => h e.symm)]
    rcases e5 with rfl | ⟨u, rfl⟩
    · rfl
    · rw [val_cons, if_neg (fun e => h e.symm), val_nil]
      rfl
theorem val_del {l : List Rw} (hs : l.Pairwise fun a b => lt a.1 b.1 = true) {k u : List UInt8} (hu : val? l k = some u) (q : List UInt8) : val? (delR l k) q = if q = k then none else val? l q := by
  obtain ⟨A, M, C, rfl, e2, e3, e4, e5⟩ := split hs k
  rcases e5 with rfl | ⟨u', rfl⟩
  · rw [val_split e3 e4 (.inl rfl)] at hu
    cases hu
  · rw [del_split e2]
    by_cases h : q = k
    · subst h
      rw [if_pos rfl, val_append, val_out fun r hr => lt_ne (e3 r hr), val_out fun r hr => (lt_ne (e4 r hr)).symm]
      rfl
    · rw [if_neg h, val_append, val_append, val_append, val_cons, if_neg (fun e => h e.symm), val_nil]
      rfl
theorem put_len {l : List Rw} (hs : l.Pairwise fun a b => lt a.1 b.1 = true) (k v : List UInt8) : (putR l k v).length = l.length + if (val? l k).isSome then 0 else 1 := by
  obtain ⟨A, M, C, rfl, e2, e3, e4, e5⟩ := split hs k
  rw [put_split e2 e3 e4 e5, val_split e3 e4 e5]
  rcases e5 with rfl | ⟨u, rfl⟩
  · simp; omega
  · simp

/-- The keys that were taken in. -/
structure Full (H : List (List UInt8)) (l : List Rw) : Prop where
  ok : Ok l
  len : H.length = l.length
  key : ∀ q, q ∈ H ↔ (val? l q).isSome = true
theorem Full.nil : Full [] [] := ⟨Ok.nil, rfl, fun q => by simp [val_nil]⟩
def fullH (H : List (List UInt8)) (k : List UInt8) (e : Int) : List (List UInt8) := if e = 0 ∧ k ∉ H then H ++ [k] else H
theorem Full.step {H : List (List UInt8)} {l : List Rw} (h : Full H l) (k v : List UInt8) :
    (doR l 2 k v []).2.1 = (if chk 2 k v [] = 0 ∧ k ∉ H ∧ H.length = 16 then 5 else chk 2 k v []) ∧ Full (fullH H k (doR l 2 k v []).2.1) (doR l 2 k v []).2.2 := by
  have hok := h.ok.do 2 k v []
  have hlen := h.ok.len
  by_cases hc : chk 2 k v [] = 0
  · have hd : doR l 2 k v [] = ((tells (val? l k) l.length 2 v []).1, (tells (val? l k) l.length 2 v []).2, if (tells (val? l k) l.length 2 v []).2 ≠ 0 then l else putR l k v) := by
      rw [doR, if_neg (by simp [hc])]
      simp only [now]
      simp
    rw [hd] at hok ⊢
    simp only at hok ⊢
    rw [hc]
    cases hv : val? l k with
    | some u =>
      have hin : k ∈ H := (h.key k).2 (by rw [hv]; rfl)
      rw [hv] at hok
      have ht : tells (some u) l.length 2 v [] = (u, 0) := by simp [tells]
      rw [ht] at hok ⊢
      simp only [ne_eq, not_true_eq_false, if_false] at hok ⊢
      have e1 : fullH H k 0 = H := by simp [fullH, hin]
      rw [e1]
      refine ⟨by simp [hin], hok, by rw [put_len h.ok.sorted, hv]; simpa using h.len, fun q => ?_⟩
      rw [val_put h.ok.sorted]
      by_cases e : q = k
      · subst e; simp [hin]
      · rw [if_neg e]; exact h.key q
    | none =>
      have hin : k ∉ H := fun hk => by have := (h.key k).1 hk; rw [hv] at this; cases this
      rw [hv] at hok
      by_cases h16 : 16 ≤ l.length
      · have ht : tells none l.length 2 v [] = ([], 5) := by simp [tells, h16]
        rw [ht]
        have e1 : fullH H k 5 = H := by simp [fullH]
        have hl := h.len
        simp only [e1]
        refine ⟨?_, ?_⟩
        · rw [if_pos ⟨trivial, hin, by omega⟩]
        · rw [if_pos (by decide)]
          exact h
      · have ht : tells none l.length 2 v [] = ([], 0) := by simp [tells, h16]
        rw [ht] at hok ⊢
        simp only [ne_eq, not_true_eq_false, if_false] at hok ⊢
        have e1 : fullH H k 0 = H ++ [k] := by simp [fullH, hin]
        have hl := h.len
        rw [e1]
        refine ⟨?_, hok, by rw [put_len h.ok.sorted, hv, List.length_append, h.len]; rfl, fun q => ?_⟩
        · rw [if_neg (by omega)]
        · rw [val_put h.ok.sorted, List.mem_append, List.mem_singleton]
          by_cases e : q = k
          · subst e; simp
          · rw [if_neg e]
            have := h.key q
            simp [e, this]
  · have hd : doR l 2 k v [] = ([], chk 2 k v [], l) := by rw [doR, if_pos hc]
    rw [hd]
    simp only [fullH]
    rw [if_neg (fun hh => hc hh.1), if_neg (fun hh => hc hh.1)]
    exact ⟨rfl, h⟩
end Go.Proofs.YtihilkdokfdoeaaDoor
