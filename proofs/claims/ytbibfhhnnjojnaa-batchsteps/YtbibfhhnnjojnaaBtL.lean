/- What a pool always is (plain). -/
import Derived.Test.YtbibfhhnnjojnaaBtI
namespace Go.Proofs.Ytbibfhhnnjojnaa
open Go.RowKit

/-- What a pool always is. -/
structure Inv (l : List Rq) (D : Nat → Int) : Prop where
  len : l.length ≤ 24
  txt : ∀ a ∈ l, a.2.2.length ≤ 4000
  cal : ∀ a ∈ l, 0 ≤ a.1 ∧ a.1 < 64
  num : ∀ a ∈ l, D a.1.toNat < a.2.1
  one : l.Pairwise fun a b => a.1 ≠ b.1
theorem Inv.new : Inv [] (fun _ => 0) := ⟨by decide, by simp, by simp, by simp, List.Pairwise.nil⟩
theorem rmL_sub (p : Rq → Bool) (l : List Rq) : (rmL p l).Sublist l := by
  unfold rmL
  cases l.findIdx? p with
  | none => exact List.Sublist.refl _
  | some i => exact List.eraseIdx_sublist l i
theorem rmL_cons (p : Rq → Bool) (a : Rq) (r : List Rq) : rmL p (a :: r) = if p a = true then r else a :: rmL p r := by
  unfold rmL
  rw [List.findIdx?_cons]
  by_cases h : p a = true
  · simp [h]
  · simp only [h]
    cases r.findIdx? p <;> simp
theorem rm_filter {p : Rq → Bool} {l : List Rq} (h : l.Pairwise fun a b => ¬ (p a = true ∧ p b = true)) : rmL p l = l.filter fun a => !p a := by
  induction l with
  | nil => rfl
  | cons a r ih =>
    rw [List.pairwise_cons] at h
    rw [rmL_cons]
    by_cases hp : p a = true
    · rw [if_pos hp, List.filter_cons, if_neg (by simp [hp])]
      symm
      rw [List.filter_eq_self]
      intro b hb
      have := h.1 b hb
      cases hb2 : p b
      · rfl
      · exact absurd ⟨hp, hb2⟩ this
    · rw [if_neg hp, List.filter_cons, if_pos (by simpa using hp), ih h.2]
theorem Inv.uniq {l : List Rq} {D : Nat → Int} (h : Inv l D) {p : Rq → Bool} {c : Int} (hp : ∀ a, p a = true → a.1 = c) : l.Pairwise fun a b => ¬ (p a = true ∧ p b = true) :=
  h.one.imp fun hab hh => hab ((hp _ hh.1).trans (hp _ hh.2).symm)
theorem ofP_c {c : Int} {a : Rq} (h : ofP c a = true) : a.1 = c := by simpa [ofP] using h
theorem upP_c {c n : Int} {a : Rq} (h : upP c n a = true) : a.1 = c := by simp [upP] at h; exact h.1
theorem exP_c {c n : Int} {a : Rq} (h : exP c n a = true) : a.1 = c := by simp [exP] at h; exact h.1
theorem Inv.sub {l l1 : List Rq} {D : Nat → Int} (h : Inv l D) (hs : l1.Sublist l) : Inv l1 D :=
  ⟨Nat.le_trans hs.length_le h.len, fun a ha => h.txt a (hs.subset ha), fun a ha => h.cal a (hs.subset ha), fun a ha => h.num a (hs.subset ha), h.one.sublist hs⟩
theorem Inv.forget {l l1 : List Rq} {D : Nat → Int} (h : Inv l D) {c n e1 : Int} {b1 : Bool} (hR : forR c n l = (b1, e1, l1)) : Inv l1 D := by
  unfold forR at hR
  split at hR
  · injection hR with _ a2; injection a2 with _ a3; subst a3; exact h
  · injection hR with _ a2; injection a2 with _ a3; subst a3; exact h.sub (rmL_sub _ _)
theorem Inv.done {l l1 : List Rq} {D D1 : Nat → Int} (h : Inv l D) {c n e1 : Int} {b1 : Bool} (hR : doneR c n l D = (b1, e1, l1, D1)) : Inv l1 D1 := by
  unfold doneR at hR
  split at hR
  · injection hR with _ a2; injection a2 with _ a3; injection a3 with a3 a4; subst a3 a4; exact h
  · next hk =>
    have hok : okB c n = true := by simpa using hk
    have hb := okB_t hok
    injection hR with _ a2
    injection a2 with _ a3
    injection a3 with a3 a4
    subst a3 a4
    have hf := rm_filter (h.uniq (p := upP c n) (c := c) (fun a ha => upP_c ha))
    have hs := h.sub (rmL_sub (upP c n) l)
    refine ⟨hs.len, hs.txt, hs.cal, fun a ha => ?_, hs.one⟩
    have h1 := hs.num a ha
    have h2 := hs.cal a ha
    unfold updM upd
    by_cases e : a.1.toNat = c.toNat
    · rw [if_pos e, ← e]
      rw [hf, List.mem_filter] at ha
      have h3 : ¬ (a.2.1 ≤ n) := by
        intro h4
        have : upP c n a = true := by simp only [upP, Bool.and_eq_true, decide_eq_true_eq]; exact ⟨by omega, h4⟩
        simp [this] at ha
      omega
    · rw [if_neg e]; exact h1
theorem idx_hitAt {p : Rq → Bool} {l : List Rq} {i : Nat} (h : l.findIdx? p = some i) : (rmL p l).length + 1 = l.length := by
  have hil := idx_lt h
  unfold rmL
  rw [h]
  show (l.eraseIdx i).length + 1 = _
  rw [List.length_eraseIdx_of_lt hil]; omega
theorem Inv.add {l l1 : List Rq} {D : Nat → Int} (h : Inv l D) {c n e1 : Int} {t : List UInt8} {b1 : Bool} (hR : addR c n t l D = (b1, e1, l1)) : Inv l1 D := by
  have put : okB c n = true → t.length ≤ 4000 → D c.toNat < n → (rmL (ofP c) l).length + 1 ≤ 24 → Inv (rmL (ofP c) l ++ [(c, n, t)]) D := by
    intro hok ht hD hl
    have hb := okB_t hok
    have hs := h.sub (rmL_sub (ofP c) l)
    have hf := rm_filter (h.uniq (p := ofP c) (c := c) (fun a ha => ofP_c ha))
    refine ⟨by rw [List.length_append]; exact hl, ?_, ?_, ?_, ?_⟩
    · intro a ha
      rcases List.mem_append.1 ha with ha | ha
      · exact hs.txt a ha
      · simp at ha; subst ha; exact ht
    · intro a ha
      rcases List.mem_append.1 ha with ha | ha
      · exact hs.cal a ha
      · simp at ha; subst ha; exact ⟨hb.1, hb.2.1⟩
    · intro a ha
      rcases List.mem_append.1 ha with ha | ha
      · exact hs.num a ha
      · simp at ha; subst ha; exact hD
    · rw [List.pairwise_append]
      refine ⟨hs.one, List.pairwise_singleton _ _, fun a ha b hb2 => ?_⟩
      simp at hb2
      subst hb2
      rw [hf, List.mem_filter] at ha
      intro e
      simp [ofP, e] at ha
  unfold addR at hR
  split at hR
  · injection hR with _ a2; injection a2 with _ a3; subst a3; exact h
  · next hk =>
    have hok : okB c n = true := by simpa using hk
    split at hR
    · injection hR with _ a2; injection a2 with _ a3; subst a3; exact h
    · next ht =>
      split at hR
      · injection hR with _ a2; injection a2 with _ a3; subst a3; exact h
      · next hD =>
        split at hR
        · next i hi =>
          split at hR
          · injection hR with _ a2; injection a2 with _ a3; subst a3; exact h
          · injection hR with _ a2; injection a2 with _ a3; subst a3
            exact put hok (by omega) (by omega) (by rw [idx_hitAt hi]; exact h.len)
        · next hi =>
          split at hR
          · injection hR with _ a2; injection a2 with _ a3; subst a3; exact h
          · injection hR with _ a2; injection a2 with _ a3; subst a3
            exact put hok (by omega) (by omega) (by have := rmL_len (ofP c) l; omega)
/-- What is taken: some first ones, at most so many, at most so many bytes. -/
theorem take_pre (m b : Nat) (l : List Rq) : takeGo m b l <+: l := by
  induction m generalizing b l with
  | zero => exact List.nil_prefix
  | succ m ih =>
    cases l with
    | nil => exact List.nil_prefix
    | cons a r =>
      unfold takeGo
      split
      · exact List.nil_prefix
      · exact List.cons_prefix_cons.2 ⟨rfl, ih _ _⟩
theorem take_len (m b : Nat) (l : List Rq) : (takeGo m b l).length ≤ m := by
  induction m generalizing b l with
  | zero => simp [takeGo]
  | succ m ih =>
    cases l with
    | nil => simp [takeGo]
    | cons a r =>
      unfold takeGo
      split
      · simp
      · simp; exact ih _ _
theorem take_sum (m b : Nat) (l : List Rq) (hb : b ≤ 9000) : b + sumT (takeGo m b l) ≤ 9000 := by
  induction m generalizing b l with
  | zero => simp [takeGo, sumT]; exact hb
  | succ m ih =>
    cases l with
    | nil => simp [takeGo, sumT]; exact hb
    | cons a r =>
      unfold takeGo
      split
      · simp [sumT]; exact hb
      · next h =>
        have := ih (b + a.2.2.length) r (by omega)
        simp only [sumT, List.map_cons, List.sum_cons] at this ⊢
        omega
theorem take_none {l : List Rq} (ht : ∀ a ∈ l, a.2.2.length ≤ 4000) : ((takeGo 4 0 l).length = 0) ↔ (l.length = 0) := by
  cases l with
  | nil => simp [takeGo]
  | cons a r =>
    have := ht a (List.mem_cons_self ..)
    unfold takeGo
    rw [if_neg (by omega)]
    simp
end Go.Proofs.Ytbibfhhnnjojnaa
