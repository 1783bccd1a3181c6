/- The table and the document's one do alike: plain. -/
import Derived.Test.YtihilkdokfdoeaaDoorTdC
namespace Go.Proofs.YtihilkdokfdoeaaDoor
open Go.RowKit

/-- No key stands twice. -/
abbrev Uk (l : List Rw) : Prop := l.Pairwise fun a b => a.1 ≠ b.1
theorem Ok.uk {l : List Rw} (h : Ok l) : Uk l := h.sorted.imp fun h => lt_ne h
theorem uk_perm {L l : List Rw} (h : L.Perm l) (hu : Uk l) : Uk L := (h.pairwise_iff fun h e => h e.symm).2 hu
theorem val_iff {l : List Rw} (hu : Uk l) (k v : List UInt8) : val? l k = some v ↔ (k, v) ∈ l := by
  constructor
  · exact val_mem
  · intro h
    induction l with
    | nil => cases h
    | cons r l ih =>
      have hu := List.pairwise_cons.1 hu
      rw [val_cons]
      rcases List.mem_cons.1 h with rfl | h
      · rw [if_pos rfl]
      · rw [if_neg (hu.1 _ h), ih hu.2 h]
theorem val_perm {L l : List Rw} (h : L.Perm l) (hu : Uk l) (k : List UInt8) : val? L k = val? l k := by
  have hL := uk_perm h hu
  apply Option.ext
  intro v
  rw [val_iff hL, val_iff hu]
  exact h.mem_iff
theorem perm_put {L l : List Rw} (h : L.Perm l) (ho : Ok l) (k v : List UInt8) : (rPut L k v).Perm (putR l k v) := by
  have hv := val_perm h ho.uk k
  rcases at_cases L k with ⟨_, a2, a3⟩ | ⟨i, u0, _, a2, a3, a4⟩
  · rw [a3]
    rw [a2] at hv
    obtain ⟨A, M, C, rfl, e2, e3, e4, e5⟩ := split ho.sorted k
    rw [put_split e2 e3 e4 e5]
    rw [val_split e3 e4 e5] at hv
    rcases e5 with rfl | ⟨u, rfl⟩
    · refine (List.Perm.append_right [(k, v)] h).trans ?_
      rw [List.nil_append, List.append_assoc]
      exact List.Perm.append_left A (List.perm_append_singleton _ _)
    · cases hv
  · rw [a4]
    rw [a3] at hv
    obtain ⟨A, M, C, rfl, e2, e3, e4, e5⟩ := split ho.sorted k
    rw [put_split e2 e3 e4 e5]
    rw [val_split e3 e4 e5] at hv
    rcases e5 with rfl | ⟨u, rfl⟩
    · cases hv
    · simp at hv
      subst hv
      obtain ⟨hi, e⟩ := List.getElem?_eq_some_iff.1 a2
      have hs : L = L.take i ++ (k, u0) :: L.drop (i + 1) := by rw [← e]; simp
      have hset : L.set i (k, v) = L.take i ++ (k, v) :: L.drop (i + 1) := by rw [List.set_eq_take_append_cons_drop, if_pos hi]
      rw [hset]
      rw [hs] at h
      have h1 : ((k, u0) :: (L.take i ++ L.drop (i + 1))).Perm ((k, u0) :: (A ++ C)) := (List.perm_middle.symm.trans h).trans (by simp)
      exact (List.perm_middle.trans (List.Perm.cons (k, v) (List.Perm.cons_inv h1))).trans List.perm_middle.symm
theorem perm_del {L l : List Rw} (h : L.Perm l) (ho : Ok l) {k u : List UInt8} (hu : val? l k = some u) : (rDel L k).Perm (delR l k) := by
  obtain ⟨A, M, C, rfl, e2, e3, e4, e5⟩ := split ho.sorted k
  rcases e5 with rfl | ⟨u', rfl⟩
  · rw [val_split e3 e4 (.inl rfl)] at hu
    cases hu
  · rw [del_split e2]
    refine (h.filter _).trans ?_
    have hA : A.filter (fun r => !(r.1 == k)) = A := List.filter_eq_self.2 fun r hr => by simpa using lt_ne (e3 r hr)
    have hC : C.filter (fun r => !(r.1 == k)) = C := List.filter_eq_self.2 fun r hr => by simpa using (lt_ne (e4 r hr)).symm
    rw [List.filter_append, List.filter_append, hA, hC]
    simp
/-- What both tell is the same, and their rows stay the same but for their order. -/
theorem do_alike {L l : List Rw} (h : L.Perm l) (ho : Ok l) (kind : Int) (k v o : List UInt8) : ∃ t E L' l', rdoL L kind k v o = (t, E, L') ∧ doR l kind k v o = (t, E, l') ∧ L'.Perm l' ∧ Ok l' := by
  have hok := ho.do kind k v o
  by_cases hc : chk kind k v o = 0
  · have hv := val_perm h ho.uk k
    have hl := h.length_eq
    refine ⟨_, _, _, _, by rw [rdoL, if_neg (by simp [hc])], by rw [doR, if_neg (by simp [hc]), hv, hl], ?_, ?_⟩
    · rw [hv, hl]
      by_cases ht : (tells (val? l k) l.length kind v o).2 ≠ 0 ∨ kind = 1
      · rw [if_pos ht, if_pos ht]
        exact h
      · rw [if_neg ht, if_neg ht]
        by_cases h4 : kind = 4
        · rw [if_pos h4, if_pos h4]
          cases hu : val? l k with
          | none =>
            rw [hu] at ht
            simp [tells, h4] at ht
          | some u => exact perm_del h ho hu
        · rw [if_neg h4, if_neg h4]
          exact perm_put h ho k _
    · rw [doR, if_neg (by simp [hc])] at hok
      exact hok
  · refine ⟨_, _, _, _, by rw [rdoL, if_pos hc], by rw [doR, if_pos hc], h, ho⟩
end Go.Proofs.YtihilkdokfdoeaaDoor
