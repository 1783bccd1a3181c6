/- The document's certificates are the program's; its Cert, walked. -/
import Derived.Test.YtoehmpcfmpkbnaaSoV
import Derived.Test.YtoehmpcfmpkbnaaSoO
namespace Go.Proofs.Ytoehmpcfmpkbnaa
open Go.RowKit
attribute [local go_sem ↓] Go.wp_at_zero Go.wp_at_succ

/-- No two texts have enough votes. -/
theorem enough_one {V : Vs} {f k : Nat} {t t' : List UInt8} (h : enough V f k t = true) (h' : enough V f k t' = true) : t = t' := by
  simp only [enough, decide_eq_true_eq, tagsTo_len] at h h'
  apply Decidable.byContradiction
  intro hne
  have h4 := pair_few (a := fun i => hasT (V k i) t) (b := fun i => hasT (V k i) t') (c := fun _ => false) (fun i h1 h2 => absurd ((hasT_t h1).1.symm.trans (hasT_t h2).1) hne) (3 * f + 1)
  have h5 : nP (fun _ => false) (3 * f + 1) = 0 := by
    have : ∀ m, nP (fun _ => false) m = 0 := by
      intro m
      induction m with
      | zero => rfl
      | succ m ih => simp [nP, ih]
    exact this _
  omega
theorem firstE_enough {V : Vs} {f : Nat} {t : List UInt8} : ∀ m, firstE V f m = some t → enough V f 1 t = true := by
  intro m
  induction m with
  | zero => intro h; cases h
  | succ m ih =>
    intro h
    simp only [firstE] at h
    cases hf : firstE V f m with
    | some u => rw [hf] at h; simp at h; subst h; exact ih hf
    | none =>
      rw [hf] at h
      simp at h
      rw [← h.2]; exact h.1
theorem firstE_is {V : Vs} {f i : Nat} (he : enough V f 1 (V 1 i).1 = true) : ∀ m, i < m → ∃ t, firstE V f m = some t := by
  intro m
  induction m with
  | zero => intro h; omega
  | succ m ih =>
    intro hi
    simp only [firstE]
    cases hf : firstE V f m with
    | some u => exact ⟨u, rfl⟩
    | none =>
      by_cases e : i = m
      · subst e; exact ⟨(V 1 i).1, by simp [he]⟩
      · obtain ⟨u, hu⟩ := ih (by omega)
        rw [hu] at hf; cases hf
theorem nP_pos {c : Nat → Bool} : ∀ m, 0 < nP c m → ∃ i, i < m ∧ c i = true := by
  intro m
  induction m with
  | zero => intro h; simp [nP] at h
  | succ m ih =>
    intro h
    by_cases hc : c m = true
    · exact ⟨m, by omega, hc⟩
    · simp [nP, hc] at h
      obtain ⟨i, h1, h2⟩ := ih h
      exact ⟨i, by omega, h2⟩
/-- Is it a vote of whose text the certificate is? -/
def rsel (V : Vs) (f p : Nat) (kind : Int) (a : Vo) : Bool := (a.1 == kind) && ((!(kind == 1) || (a.2.1 == (p : Int))) && enough V f (kind - 1).toNat a.2.2.1)
theorem Tie.cert {f p : Nat} {l : List Vo} {V : Vs} (h : Tie f l V) (hp : p ≤ 3 * f) (kind : Int) : certR V f p kind = (l.find? (rsel V f p kind)).map fun a => (a.2.2.1, tagsTo V (kind - 1).toNat a.2.2.1 (3 * f + 1)) := by
  unfold certR
  by_cases h1 : kind = 1
  · subst h1
    rw [if_pos rfl]
    cases hf : l.find? (rsel V f p 1) with
    | some a =>
      obtain ⟨k, i, hk, hi, e1, e2, e3, e4⟩ := h.ok a (List.mem_of_find?_eq_some hf)
      have hs := List.find?_some hf
      simp [rsel] at hs
      have hk0 : k = 0 := by omega
      have hip : i = p := by omega
      subst hk0 hip
      rw [e3]
      simp only
      rw [if_pos ⟨e4, hs.2.2⟩]
      rfl
    | none =>
      rw [if_neg]
      · rfl
      · rintro ⟨hv, he⟩
        obtain ⟨a, ha, e1, e2⟩ := (h.all 0 p (by decide) hp).1 hv
        obtain ⟨k, i, hk, hi, f1, f2, f3, f4⟩ := h.ok a ha
        have hk0 : k = 0 := by omega
        have hip : i = p := by omega
        subst hk0 hip
        rw [f3] at he
        have := (List.find?_eq_none.1 hf) a ha
        simp [rsel, e2] at this
        simp at e1
        have := this e1
        simp only at he
        rw [he] at this; cases this
  · rw [if_neg h1]
    by_cases h2 : kind = 2
    · subst h2
      rw [if_pos rfl]
      cases hf : l.find? (rsel V f p 2) with
      | some a =>
        obtain ⟨k, i, hk, hi, e1, e2, e3, e4⟩ := h.ok a (List.mem_of_find?_eq_some hf)
        have hs := List.find?_some hf
        simp [rsel] at hs
        have hk0 : k = 1 := by omega
        subst hk0
        have he : enough V f 1 (V 1 i).1 = true := by rw [e3]; exact hs.2
        obtain ⟨t, ht⟩ := firstE_is he (3 * f + 1) (by omega)
        have := enough_one (firstE_enough _ ht) he
        rw [e3] at this
        simp only at this
        rw [ht, this]
        rfl
      | none =>
        cases hft : firstE V f (3 * f + 1) with
        | none => rfl
        | some t =>
          exfalso
          have he := firstE_enough _ hft
          have he2 := he
          simp only [enough, decide_eq_true_eq, tagsTo_len] at he2
          obtain ⟨i, hi, hc⟩ := nP_pos (c := fun i => hasT (V 1 i) t) (3 * f + 1) (by omega)
          obtain ⟨c1, c2⟩ := hasT_t hc
          obtain ⟨a, ha, e1, e2⟩ := (h.all 1 i (by decide) (by omega)).1 c2
          obtain ⟨k, j, hk, hj, f1, f2, f3, f4⟩ := h.ok a ha
          have hk1 : k = 1 := by omega
          have hji : j = i := by omega
          subst hk1 hji
          rw [f3] at c1
          simp only at c1
          have := (List.find?_eq_none.1 hf) a ha
          simp [rsel] at this
          have := this (by rw [e1]; rfl)
          rw [c1, he] at this; cases this
    · rw [if_neg h2]
      cases hf : l.find? (rsel V f p kind) with
      | some a =>
        exfalso
        obtain ⟨k, i, hk, hi, e1, e2, e3, e4⟩ := h.ok a (List.mem_of_find?_eq_some hf)
        have hs := List.find?_some hf
        simp [rsel] at hs
        omega
      | none => rfl
def NoP (q : Vo → Bool) (l : List Vo) (k : Nat) : Prop := ∀ i a, i < k → l[i]? = some a → q a = false
theorem NoP.succ {q : Vo → Bool} {l : List Vo} {k : Nat} {a : Vo} (h : NoP q l k) (ha : l[k]? = some a) (hp : q a = false) : NoP q l (k + 1) := by
  intro i b hi hb
  by_cases e : i = k
  · subst e; rw [ha] at hb; injection hb with hb; subst hb; exact hp
  · exact h i b (by omega) hb
theorem NoP.hit {q : Vo → Bool} {l : List Vo} {k : Nat} {a : Vo} (h : NoP q l k) (ha : l[k]? = some a) (hp : q a = true) : l.find? q = some a := by
  obtain ⟨hk, e⟩ := List.getElem?_eq_some_iff.1 ha
  rw [List.find?_eq_some_iff_getElem]
  refine ⟨hp, k, hk, e, fun j hj => ?_⟩
  have := h j l[j] hj (List.getElem?_eq_getElem (by omega))
  simp [this]
theorem NoP.none {q : Vo → Bool} {l : List Vo} (h : NoP q l l.length) : l.find? q = none := by
  rw [List.find?_eq_none]
  intro a ha
  obtain ⟨i, hi, e⟩ := List.getElem_of_mem ha
  have := h i a hi (by rw [List.getElem?_eq_getElem hi, e])
  simp [this]
end Go.Proofs.Ytoehmpcfmpkbnaa
