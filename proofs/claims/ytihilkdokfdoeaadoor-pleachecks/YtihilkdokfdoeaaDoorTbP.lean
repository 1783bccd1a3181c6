/- The order of texts, and rows that stand in it: plain. -/
import Derived.WalkKit
import Derived.Lib.Bytealg
namespace Go.Proofs.YtihilkdokfdoeaaDoor
open Go.RowKit

/-- Byte by byte. -/
abbrev lt (a b : List UInt8) : Bool := Op.bytesLess a b
theorem lt_irr : ∀ a : List UInt8, lt a a = false
  | [] => rfl
  | x :: a => by
    show (decide (x < x) || (x == x && lt a a)) = false
    rw [lt_irr a]
    simp
theorem lt_trans : ∀ {a b c : List UInt8}, lt a b = true → lt b c = true → lt a c = true
  | _, [], _, h, _ => by simp [lt, Op.bytesLess] at h
  | _, _ :: _, [], _, h => by simp [lt, Op.bytesLess] at h
  | [], _ :: _, _ :: _, _, _ => rfl
  | x :: a, y :: b, z :: c, h1, h2 => by
    simp only [lt, Op.bytesLess, Bool.or_eq_true, decide_eq_true_eq, Bool.and_eq_true, beq_iff_eq] at h1 h2 ⊢
    rcases h1 with h1 | ⟨rfl, h1⟩
    · rcases h2 with h2 | ⟨rfl, h2⟩
      · exact .inl (UInt8.lt_trans h1 h2)
      · exact .inl h1
    · rcases h2 with h2 | ⟨rfl, h2⟩
      · exact .inl h2
      · exact .inr ⟨rfl, lt_trans h1 h2⟩
theorem lt_tri : ∀ {a b : List UInt8}, a ≠ b → lt a b = false → lt b a = true
  | [], [], h, _ => absurd rfl h
  | [], _ :: _, _, h => by simp [lt, Op.bytesLess] at h
  | _ :: _, [], _, _ => rfl
  | x :: a, y :: b, h, h1 => by
    simp only [lt, Op.bytesLess, Bool.or_eq_false_iff, decide_eq_false_iff_not, Bool.and_eq_false_iff, beq_eq_false_iff_ne] at h1
    simp only [lt, Op.bytesLess, Bool.or_eq_true, decide_eq_true_eq, Bool.and_eq_true, beq_iff_eq]
    obtain ⟨h1, h2⟩ := h1
    by_cases e : x = y
    · subst e
      refine .inr ⟨rfl, lt_tri (fun e => h (by rw [e])) ?_⟩
      rcases h2 with h2 | h2
      · exact absurd rfl h2
      · exact h2
    · exact .inl (UInt8.lt_of_le_of_ne (UInt8.not_lt.1 h1) (Ne.symm e))
theorem lt_asym {a b : List UInt8} (h : lt a b = true) : lt b a = false := by
  cases e : lt b a
  · rfl
  · have := lt_trans h e
    rw [lt_irr] at this
    cases this
theorem lt_ne {a b : List UInt8} (h : lt a b = true) : a ≠ b := fun e => by rw [e, lt_irr] at h; cases h
theorem lt_nil {a : List UInt8} (h : a ≠ []) : lt [] a = true := by
  cases a
  · exact absurd rfl h
  · rfl
theorem cmp_lt : ∀ a b : List UInt8, Lib.compareBytes a b = if lt a b = true then -1 else if a = b then 0 else 1
  | [], [] => rfl
  | [], _ :: _ => rfl
  | _ :: _, [] => rfl
  | x :: a, y :: b => by
    have ih := cmp_lt a b
    unfold Lib.compareBytes
    by_cases h : x < y
    · simp [h, lt, Op.bytesLess]
    · by_cases h2 : y < x
      · have hn : x ≠ y := fun e => by subst e; exact UInt8.lt_irrefl x h2
        simp [h, h2, lt, Op.bytesLess, hn]
      · have e : x = y := by
          rcases UInt8.le_total x y with q | q
          · by_cases e : x = y
            · exact e
            · exact absurd (UInt8.lt_of_le_of_ne q e) h
          · by_cases e : x = y
            · exact e
            · exact absurd (UInt8.lt_of_le_of_ne q (Ne.symm e)) h2
        subst e
        simp only [if_neg h]
        rw [ih]
        simp [lt, Op.bytesLess]

/-- A row: its key, its value. -/
abbrev Rw := List UInt8 × List UInt8
def isK (k : List UInt8) : Bool := decide (1 ≤ k.length) && decide (k.length ≤ 16)
def isV (v : List UInt8) : Bool := decide (v.length ≤ 64)
/-- What an operation is told ahead of all (13.1). -/
def chk (kind : Int) (k v o : List UInt8) : Int :=
  if kind < 1 ∨ 5 < kind then 1
  else if isK k = false ∨ isV v = false ∨ isV o = false then 130
  else if v ≠ [] ∧ (kind = 1 ∨ kind = 4) then 4
  else if o ≠ [] ∧ kind ≠ 5 then 4 else 0
/-- Rows of a table. -/
structure Ok (l : List Rw) : Prop where
  sorted : l.Pairwise fun a b => lt a.1 b.1 = true
  len : l.length ≤ 16
  row : ∀ r ∈ l, isK r.1 = true ∧ isV r.2 = true
theorem Ok.nil : Ok [] := ⟨.nil, by decide, fun _ h => by cases h⟩

/-- Where a key's row stands, or would stand. -/
def plc (l : List Rw) (k : List UInt8) : Nat := (l.takeWhile fun r => lt r.1 k).length
/-- The value of a key. -/
def val? (l : List Rw) (k : List UInt8) : Option (List UInt8) := (l.find? fun r => r.1 == k).map (·.2)
theorem plc_le (l : List Rw) (k : List UInt8) : plc l k ≤ l.length := (List.takeWhile_prefix _).length_le
/-- The rows ahead of a key, its own, those behind it. -/
theorem split {l : List Rw} (h : l.Pairwise fun a b => lt a.1 b.1 = true) (k : List UInt8) :
    ∃ A M C, l = A ++ (M ++ C) ∧ A.length = plc l k ∧ (∀ r ∈ A, lt r.1 k = true) ∧ (∀ r ∈ C, lt k r.1 = true) ∧ (M = [] ∨ ∃ v, M = [(k, v)]) := by
  induction l with
  | nil => exact ⟨[], [], [], rfl, rfl, fun _ h => (by cases h), fun _ h => (by cases h), .inl rfl⟩
  | cons r l ih =>
    rw [List.pairwise_cons] at h
    obtain ⟨h1, h2⟩ := h
    cases e : lt r.1 k
    · have hp : plc (r :: l) k = 0 := by simp [plc, e]
      by_cases ek : r.1 = k
      · refine ⟨[], [r], l, rfl, by rw [hp]; rfl, fun _ h => (by cases h), fun x hx => ?_, .inr ⟨r.2, by rw [← ek]⟩⟩
        rw [← ek]
        exact h1 x hx
      · have hl := lt_tri ek e
        refine ⟨[], [], r :: l, rfl, by rw [hp]; rfl, fun _ h => (by cases h), fun x hx => ?_, .inl rfl⟩
        rcases List.mem_cons.1 hx with rfl | hx
        · exact hl
        · exact lt_trans hl (h1 x hx)
    · obtain ⟨A, M, C, e1, e2, e3, e4, e5⟩ := ih h2
      refine ⟨r :: A, M, C, by rw [e1]; rfl, ?_, fun x hx => ?_, e4, e5⟩
      · have : plc (r :: l) k = plc l k + 1 := by simp [plc, e]
        rw [this, List.length_cons, e2]
      · rcases List.mem_cons.1 hx with rfl | hx
        · exact e
        · exact e3 x hx
theorem find_none {A : List Rw} {k : List UInt8} (h : ∀ r ∈ A, r.1 ≠ k) : (A.find? fun r => r.1 == k) = none := by
  rw [List.find?_eq_none]
  intro x hx
  simpa using h x hx
theorem val_split {A M C : List Rw} {k : List UInt8} (hA : ∀ r ∈ A, lt r.1 k = true) (hC : ∀ r ∈ C, lt k r.1 = true) (hM : M = [] ∨ ∃ v, M = [(k, v)]) :
    val? (A ++ (M ++ C)) k = (M.head?).map (·.2) := by
  have a := find_none (A := A) (k := k) fun r hr => lt_ne (hA r hr)
  have c := find_none (A := C) (k := k) fun r hr => (lt_ne (hC r hr)).symm
  rcases hM with rfl | ⟨v, rfl⟩
  · simp [val?, List.find?_append, a, c]
  · simp [val?, List.find?_append, a]

/-- What is told, by the value that was there, and how many rows there are (13.2). -/
def tells (had : Option (List UInt8)) (n : Nat) (kind : Int) (v o : List UInt8) : List UInt8 × Int :=
  match had with
  | none => if kind ≠ 2 ∧ kind ≠ 3 then ([], 6) else if 16 ≤ n then ([], 5) else (if kind = 2 then [] else v, 0)
  | some h => if kind = 3 then (if 64 < (h ++ v).length then ([], 2) else (h ++ v, 0)) else if kind = 5 ∧ h ≠ o then ([], 7) else (h, 0)
/-- The value that a key has behind it. -/
def now (had : Option (List UInt8)) (kind : Int) (v : List UInt8) : List UInt8 := if kind = 3 then had.getD [] ++ v else v
def putR (l : List Rw) (k v : List UInt8) : List Rw := l.take (plc l k) ++ (k, v) :: l.drop (plc l k + if (val? l k).isSome then 1 else 0)
def delR (l : List Rw) (k : List UInt8) : List Rw := l.take (plc l k) ++ l.drop (plc l k + 1)
/-- What an operation does: what is told, the error, the rows behind it. -/
def doR (l : List Rw) (kind : Int) (k v o : List UInt8) : List UInt8 × Int × List Rw :=
  if chk kind k v o ≠ 0 then ([], chk kind k v o, l)
  else
    let t := tells (val? l k) l.length kind v o
    (t.1, t.2, if t.2 ≠ 0 ∨ kind = 1 then l else if kind = 4 then delR l k else putR l k (now (val? l k) kind v))
theorem put_split {A M C : List Rw} {k : List UInt8} (hl : A.length = plc (A ++ (M ++ C)) k) (hA : ∀ r ∈ A, lt r.1 k = true) (hC : ∀ r ∈ C, lt k r.1 = true) (hM : M = [] ∨ ∃ v, M = [(k, v)]) (v : List UInt8) :
    putR (A ++ (M ++ C)) k v = A ++ (k, v) :: C := by
  rw [putR, val_split hA hC hM, ← hl]
  rcases hM with rfl | ⟨u, rfl⟩
  · simp
  · simp [List.drop_append]
theorem del_split {A C : List Rw} {k u : List UInt8} (hl : A.length = plc (A ++ ([(k, u)] ++ C)) k) : delR (A ++ ([(k, u)] ++ C)) k = A ++ C := by
  rw [delR, ← hl]
  simp [List.drop_append]
theorem sorted_put {A M C : List Rw} {k : List UInt8} (h : (A ++ (M ++ C)).Pairwise fun a b => lt a.1 b.1 = true) (hA : ∀ r ∈ A, lt r.1 k = true) (hC : ∀ r ∈ C, lt k r.1 = true) (v : List UInt8) :
    (A ++ (k, v) :: C).Pairwise fun a b => lt a.1 b.1 = true := by
  rw [List.pairwise_append] at h ⊢
  obtain ⟨h1, h2, _⟩ := h
  rw [List.pairwise_append] at h2
  refine ⟨h1, List.pairwise_cons.2 ⟨hC, h2.2.1⟩, fun a ha b hb => ?_⟩
  rcases List.mem_cons.1 hb with rfl | hb
  · exact hA a ha
  · exact lt_trans (hA a ha) (hC b hb)
theorem sorted_del {A M C : List Rw} (h : (A ++ (M ++ C)).Pairwise fun a b => lt a.1 b.1 = true) : (A ++ C).Pairwise fun a b => lt a.1 b.1 = true :=
  h.sublist (List.Sublist.append (List.Sublist.refl _) (List.sublist_append_right _ _))
theorem chk_zero {kind : Int} {k v o : List UInt8} (h : chk kind k v o = 0) : 1 ≤ kind ∧ kind ≤ 5 ∧ isK k = true ∧ isV v = true ∧ isV o = true := by
  unfold chk at h
  split at h
  · cases h
  · rename_i h1
    split at h
    · cases h
    · rename_i h2
      simp only [not_or, Bool.not_eq_false] at h2
      exact ⟨by omega, by omega, h2.1, h2.2.1, h2.2.2⟩
theorem val_mem {l : List Rw} {k h : List UInt8} (e : val? l k = some h) : (k, h) ∈ l := by
  rw [val?, Option.map_eq_some_iff] at e
  obtain ⟨⟨a, b⟩, h1, h2⟩ := e
  have := List.find?_some h1
  simp only [beq_iff_eq] at this
  subst this h2
  exact List.mem_of_find?_eq_some h1
theorem isV_now {l : List Rw} {kind : Int} {k v o : List UInt8} (hv : isV v = true) (ht : (tells (val? l k) l.length kind v o).2 = 0) : isV (now (val? l k) kind v) = true := by
  unfold now
  split
  · rename_i h3
    cases e : val? l k with
    | none => simpa using hv
    | some h =>
      rw [e, tells, if_pos h3] at ht
      split at ht
      · cases ht
      · rename_i hh
        simp only [Option.getD_some, isV, decide_eq_true_eq]
        omega
  · exact hv
theorem Ok.do {l : List Rw} (h : Ok l) (kind : Int) (k v o : List UInt8) : Ok (doR l kind k v o).2.2 := by
  unfold doR
  split
  · exact h
  · rename_i hc
    obtain ⟨c1, c2, c3, c4, c5⟩ := chk_zero (Decidable.of_not_not hc)
    show Ok (if (tells (val? l k) l.length kind v o).2 ≠ 0 ∨ kind = 1 then l else if kind = 4 then delR l k else putR l k (now (val? l k) kind v))
    split
    · exact h
    · rename_i ht
      rw [not_or] at ht
      have ht0 := Decidable.of_not_not ht.1
      have hv := isV_now c4 ht0
      obtain ⟨A, M, C, rfl, e2, e3, e4, e5⟩ := split h.sorted k
      split
      · rename_i h4
        rcases e5 with rfl | ⟨u, rfl⟩
        · rw [val_split e3 e4 (.inl rfl)] at ht0
          simp [tells, h4] at ht0
        · rw [del_split e2]
          exact ⟨sorted_del h.sorted, by have := h.len; simp at this ⊢; omega, fun r hr => h.row r (by simp at hr ⊢; rcases hr with hr | hr; exact .inl hr; exact .inr (.inr hr))⟩
      · rename_i h4
        rw [put_split e2 e3 e4 e5]
        refine ⟨sorted_put h.sorted e3 e4 _, ?_, fun r hr => ?_⟩
        · have hlen := h.len
          rcases e5 with rfl | ⟨u, rfl⟩
          · rw [val_split e3 e4 (.inl rfl)] at ht0
            simp only [List.head?_nil, Option.map_none, tells] at ht0
            split at ht0
            · cases ht0
            · split at ht0
              · cases ht0
              · rename_i h16
                simp at h16 ⊢
                omega
          · simp at hlen ⊢
            omega
        · rcases List.mem_append.1 hr with hr | hr
          · exact h.row r (List.mem_append.2 (.inl hr))
          · rcases List.mem_cons.1 hr with rfl | hr
            · exact ⟨c3, hv⟩
            · exact h.row r (List.mem_append.2 (.inr (List.mem_append.2 (.inr hr))))
end Go.Proofs.YtihilkdokfdoeaaDoor
