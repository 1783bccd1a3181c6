/- Timers by their names, in plain words: which list of timers stands for which, and what is rung. -/
import Derived.Test.YtemmnojcickcpaaBeH
namespace Go.Proofs.Ytemmnojcickcpaa

/-- Of each name when its timer is due, and its span. -/
abbrev Ft := Int → Option (Int × Int)
def upd (F : Ft) (n : Int) (x : Option (Int × Int)) : Ft := fun k => if k = n then x else F k
/-- The list l stands for F. -/
structure Rep (l : List (Int × Int × Int)) (F : Ft) : Prop where
  name : ∀ t ∈ l, 0 ≤ t.1 ∧ t.1 < 16
  span : ∀ t ∈ l, 1 ≤ t.2.2 ∧ t.2.2 ≤ 4096
  one : (l.map (·.1)).Nodup
  mem : ∀ n d s, (n, d, s) ∈ l ↔ F n = some (d, s)
theorem Rep.perm {l l' : List (Int × Int × Int)} {F : Ft} (h : Rep l F) (hp : l'.Perm l) : Rep l' F :=
  ⟨fun t ht => h.name t (hp.mem_iff.1 ht), fun t ht => h.span t (hp.mem_iff.1 ht), (hp.map _).nodup_iff.2 h.one, fun n d s => hp.mem_iff.trans (h.mem n d s)⟩
theorem Rep.nil : Rep [] (fun _ => none) := ⟨fun t ht => (by cases ht), fun t ht => (by cases ht), List.nodup_nil, fun n d s => ⟨fun h => (by cases h), fun h => (by cases h)⟩⟩
theorem nat_few : ∀ (n : Nat) (l : List Nat), l.Nodup → (∀ x ∈ l, x < n) → l.length ≤ n
  | 0, l, _, h => by
    cases l with
    | nil => exact Nat.le_refl _
    | cons a r => exact absurd (h a List.mem_cons_self) (by omega)
  | n + 1, l, hd, h => by
    by_cases hm : n ∈ l
    · have h1 := nat_few n (l.erase n) (hd.erase n) (fun x hx => by
        have h2 := (hd.mem_erase_iff).1 hx
        have h3 := h x h2.2
        have h4 := h2.1
        omega)
      rw [List.length_erase_of_mem hm] at h1
      have : 0 < l.length := List.length_pos_of_mem hm
      omega
    · have h1 := nat_few n l hd (fun x hx => by
        have h3 := h x hx
        have h4 : x ≠ n := fun e => hm (e ▸ hx)
        omega)
      omega
theorem Rep.few {l : List (Int × Int × Int)} {F : Ft} (h : Rep l F) : l.length ≤ 16 := by
  have h1 := nat_few 16 (l.map fun t => t.1.toNat) (by
    have h2 := h.one
    rw [List.nodup_iff_pairwise_ne, List.pairwise_map] at h2 ⊢
    refine h2.imp_of_mem ?_
    intro a b ha hb hab e
    have h3 := h.name a ha
    have h4 := h.name b hb
    omega) (by
    intro x hx
    obtain ⟨t, ht, rfl⟩ := List.mem_map.1 hx
    have := h.name t ht
    omega)
  simpa using h1
theorem Rep.push {l l' : List (Int × Int × Int)} {F : Ft} (h : Rep l F) {n d s : Int} (hn : 0 ≤ n ∧ n < 16) (hs : 1 ≤ s ∧ s ≤ 4096) (hF : F n = none) (hp : l'.Perm (l ++ [(n, d, s)])) : Rep l' (upd F n (some (d, s))) := by
  refine Rep.perm (l := l ++ [(n, d, s)]) ⟨?_, ?_, ?_, ?_⟩ hp
  · intro t ht
    rcases List.mem_append.1 ht with ht | ht
    · exact h.name t ht
    · rw [List.mem_singleton.1 ht]; exact hn
  · intro t ht
    rcases List.mem_append.1 ht with ht | ht
    · exact h.span t ht
    · rw [List.mem_singleton.1 ht]; exact hs
  · rw [List.map_append, List.nodup_append]
    refine ⟨h.one, by simp, fun a ha b hb => ?_⟩
    simp at hb
    subst hb
    intro e
    subst e
    obtain ⟨t, ht, e⟩ := List.mem_map.1 ha
    obtain ⟨t0, t1, t2⟩ := t
    simp only at e
    subst e
    rw [(h.mem t0 t1 t2).1 ht] at hF
    cases hF
  · intro n' d' s'
    unfold upd
    rw [List.mem_append, List.mem_singleton]
    by_cases e : n' = n
    · subst e
      rw [if_pos rfl]
      refine ⟨fun h' => ?_, fun h' => ?_⟩
      · rcases h' with h' | h'
        · rw [(h.mem n' d' s').1 h'] at hF; cases hF
        · injection h' with _ h'; rw [← h']
      · injection h' with h'; exact .inr (by rw [← h'])
    · rw [if_neg e, ← h.mem]
      refine ⟨fun h' => ?_, .inl⟩
      rcases h' with h' | h'
      · exact h'
      · injection h' with h' _; exact absurd h' e
theorem Rep.drop {l l' : List (Int × Int × Int)} {F : Ft} (h : Rep l F) {t : Int × Int × Int} (hp : l.Perm (l' ++ [t])) : Rep l' (upd F t.1 none) ∧ F t.1 = some (t.2.1, t.2.2) := by
  have h2 := h.perm hp.symm
  have hone := h2.one
  rw [List.map_append, List.nodup_append] at hone
  obtain ⟨o1, _, o2⟩ := hone
  have hne : ∀ x ∈ l', x.1 ≠ t.1 := fun x hx => o2 x.1 (List.mem_map.2 ⟨x, hx, rfl⟩) t.1 (by simp)
  have hmem : F t.1 = some (t.2.1, t.2.2) := (h2.mem t.1 t.2.1 t.2.2).1 (List.mem_append.2 (.inr (by simp)))
  refine ⟨⟨fun x hx => h2.name x (List.mem_append.2 (.inl hx)), fun x hx => h2.span x (List.mem_append.2 (.inl hx)), o1, fun n d s => ?_⟩, hmem⟩
  unfold upd
  by_cases e : n = t.1
  · rw [if_pos e]
    exact ⟨fun h' => absurd e (hne _ h'), fun h' => by cases h'⟩
  · rw [if_neg e, ← h2.mem, List.mem_append, List.mem_singleton]
    refine ⟨.inl, fun h' => ?_⟩
    rcases h' with h' | h'
    · exact h'
    · exact absurd (by rw [← h']) e
theorem upd_none {F : Ft} {n : Int} (h : F n = none) : upd F n none = F := by
  funext k
  unfold upd
  by_cases e : k = n
  · rw [if_pos e, e, h]
  · rw [if_neg e]
theorem upd_upd (F : Ft) (n : Int) (x y : Option (Int × Int)) : upd (upd F n x) n y = upd F n y := by
  funext k
  unfold upd
  by_cases e : k = n
  · rw [if_pos e, if_pos e]
  · rw [if_neg e, if_neg e, if_neg e]
theorem upd_at (F : Ft) (n : Int) (x : Option (Int × Int)) : upd F n x n = x := by simp [upd]
theorem Rep.has {l : List (Int × Int × Int)} {F : Ft} (h : Rep l F) {t : Int × Int × Int} (ht : t ∈ l) : F t.1 = some (t.2.1, t.2.2) := (h.mem t.1 t.2.1 t.2.2).1 ht
theorem Rep.hasnt {l : List (Int × Int × Int)} {F : Ft} (h : Rep l F) {n : Int} (hn : ∀ t ∈ l, t.1 ≠ n) : F n = none := by
  cases hF : F n with
  | none => rfl
  | some x =>
    obtain ⟨d, s⟩ := x
    exact absurd rfl (hn _ ((h.mem n d s).2 hF))
theorem at_perm {l : List (Int × Int × Int)} {i : Nat} (hi : i < l.length) : l.Perm (l.eraseIdx i ++ [l[i]]) := by
  rw [List.eraseIdx_eq_take_drop_succ]
  have e : l = l.take i ++ l[i] :: l.drop (i + 1) := by rw [← List.drop_eq_getElem_cons hi, List.take_append_drop]
  have h1 : (l.take i ++ l[i] :: l.drop (i + 1)).Perm (l[i] :: (l.take i ++ l.drop (i + 1))) := List.perm_middle
  have h2 := h1.trans (List.perm_append_singleton l[i] (l.take i ++ l.drop (i + 1))).symm
  rw [← e] at h2
  exact h2
/-- One timer put off. -/
theorem set_perm {l : List (Int × Int × Int)} {i : Nat} (hi : i < l.length) (t : Int × Int × Int) : ∃ r, l.Perm (r ++ [gf l i]) ∧ (l.set i t).Perm (r ++ [t]) := by
  refine ⟨l.eraseIdx i, ?_, ?_⟩
  · rw [gf_at (List.getElem?_eq_getElem hi)]
    exact at_perm hi
  · have hi' : i < (l.set i t).length := by rw [List.length_set]; exact hi
    have h := at_perm hi'
    rw [List.getElem_set_self, List.eraseIdx_set_eq] at h
    exact h
theorem Rep.put {l l' : List (Int × Int × Int)} {F : Ft} (h : Rep l F) {i : Nat} (hi : i < l.length) {d s : Int} (hs : 1 ≤ s ∧ s ≤ 4096) (hp : l'.Perm (l.set i ((gf l i).1, d, s))) : Rep l' (upd F (gf l i).1 (some (d, s))) := by
  obtain ⟨r, h1, h2⟩ := set_perm hi ((gf l i).1, d, s)
  obtain ⟨hr, _⟩ := h.drop h1
  have hn : 0 ≤ (gf l i).1 ∧ (gf l i).1 < 16 := h.name _ (by rw [gf_at (List.getElem?_eq_getElem hi)]; exact List.getElem_mem hi)
  have := hr.push hn hs (upd_at _ _ _) (hp.trans h2)
  rw [upd_upd] at this
  exact this

theorem less_total {a b : Int × Int × Int} (h : a.1 ≠ b.1) (hl : ¬ lessB a b = true) : lessB b a = true := by
  rw [less_not] at hl
  rw [less_iff]
  omega
/-- What has rung, of the timers l0: P; what is left: l. -/
structure Rung (l0 l P : List (Int × Int × Int)) (now : Int) : Prop where
  perm : l0.Perm (l ++ P)
  due : ∀ t ∈ P, t.2.1 ≤ now
  sort : P.Pairwise fun a b => lessB a b = true
  ahead : ∀ a ∈ P, ∀ b ∈ l, lessB a b = true
theorem Rung.start (l : List (Int × Int × Int)) (now : Int) : Rung l l [] now :=
  ⟨by simp, fun t ht => (by cases ht), List.Pairwise.nil, fun a ha => (by cases ha)⟩
theorem Rung.step {l0 l P l' : List (Int × Int × Int)} {now : Int} (h : Rung l0 l P now) (hone : (l.map (·.1)).Nodup) (hH : Hp l.length (gf l)) (hl : 0 < l.length) (hd : (gf l 0).2.1 ≤ now) (hp : l.Perm (l' ++ [gf l 0])) : Rung l0 l' (P ++ [gf l 0]) now := by
  have hmem : gf l 0 ∈ l := by rw [gf_at (List.getElem?_eq_getElem hl)]; exact List.getElem_mem hl
  have hone2 := (hp.map (·.1)).nodup_iff.1 hone
  rw [List.map_append, List.nodup_append] at hone2
  have hne : ∀ x ∈ l', x.1 ≠ (gf l 0).1 := fun x hx => hone2.2.2 x.1 (List.mem_map.2 ⟨x, hx, rfl⟩) (gf l 0).1 (by simp)
  refine ⟨?_, ?_, ?_, ?_⟩
  · refine h.perm.trans ((hp.append_right P).trans ?_)
    rw [List.append_assoc]
    exact List.Perm.append_left l' List.perm_append_comm
  · intro t ht
    rcases List.mem_append.1 ht with ht | ht
    · exact h.due t ht
    · rw [List.mem_singleton.1 ht]; exact hd
  · rw [List.pairwise_append]
    refine ⟨h.sort, by simp, fun a ha b hb => ?_⟩
    rw [List.mem_singleton.1 hb]
    exact h.ahead a ha _ hmem
  · intro a ha b hb
    have hbl : b ∈ l := hp.mem_iff.2 (List.mem_append.2 (.inl hb))
    rcases List.mem_append.1 ha with ha | ha
    · exact h.ahead a ha b hbl
    · rw [List.mem_singleton.1 ha]
      obtain ⟨k, hk⟩ := List.mem_iff_getElem?.1 hbl
      have hkl : k < l.length := (List.getElem?_eq_some_iff.1 hk).1
      have := top_least hH k k (Nat.le_refl _) hkl
      rw [gf_at hk] at this
      exact less_total (hne b hb) this
/-- What is left of F at a moment. -/
def late (F : Ft) (now : Int) : Ft := fun n => match F n with | some (d, s) => if d ≤ now then none else some (d, s) | none => none
/-- What rings of F at a moment, in this order. -/
structure Rings (F : Ft) (now : Int) (P : List (Int × Int × Int)) : Prop where
  mem : ∀ n d s, (n, d, s) ∈ P ↔ F n = some (d, s) ∧ d ≤ now
  sort : P.Pairwise fun a b => lessB a b = true
theorem Rung.done {l0 l P : List (Int × Int × Int)} {now : Int} {F : Ft} (h : Rung l0 l P now) (hR : Rep l0 F) (hH : Hp l.length (gf l)) (hd : l.length = 0 ∨ now < (gf l 0).2.1) : Rep l (late F now) ∧ Rings F now P := by
  have hl : ∀ t ∈ l, now < t.2.1 := by
    intro t ht
    obtain ⟨k, hk⟩ := List.mem_iff_getElem?.1 ht
    have hkl : k < l.length := (List.getElem?_eq_some_iff.1 hk).1
    rcases hd with hd | hd
    · omega
    · have := top_least hH k k (Nat.le_refl _) hkl
      rw [gf_at hk, less_not] at this
      omega
  have h2 := hR.perm h.perm.symm
  refine ⟨⟨fun t ht => h2.name t (List.mem_append.2 (.inl ht)), fun t ht => h2.span t (List.mem_append.2 (.inl ht)), ?_, fun n d s => ?_⟩, ⟨fun n d s => ?_, h.sort⟩⟩
  · have := h2.one
    rw [List.map_append, List.nodup_append] at this
    exact this.1
  · unfold late
    refine ⟨fun h' => ?_, fun h' => ?_⟩
    · have h3 := (h2.mem n d s).1 (List.mem_append.2 (.inl h'))
      have h4 := hl _ h'
      simp only at h4
      rw [h3]
      simp only
      rw [if_neg (by omega)]
    · cases hF : F n with
      | none => rw [hF] at h'; cases h'
      | some x =>
        obtain ⟨d', s'⟩ := x
        rw [hF] at h'
        simp only at h'
        split at h'
        · cases h'
        · rename_i hd'
          injection h' with h'
          injection h' with e1 e2
          subst e1 e2
          have h3 := (h2.mem n d' s').2 hF
          rcases List.mem_append.1 h3 with h3 | h3
          · exact h3
          · exact absurd (h.due _ h3) hd'
  · refine ⟨fun h' => ⟨(h2.mem n d s).1 (List.mem_append.2 (.inr h')), h.due _ h'⟩, fun h' => ?_⟩
    have h3 := (h2.mem n d s).2 h'.1
    rcases List.mem_append.1 h3 with h3 | h3
    · have := hl _ h3; simp only at this; omega
    · exact h3
theorem sorted_eq : ∀ {P Q : List (Int × Int × Int)}, P.Pairwise (fun a b => lessB a b = true) → Q.Pairwise (fun a b => lessB a b = true) → (∀ t, t ∈ P ↔ t ∈ Q) → P = Q
  | [], [], _, _, _ => rfl
  | [], b :: Q, _, _, h => by have := (h b).2 List.mem_cons_self; cases this
  | a :: P, [], _, _, h => by have := (h a).1 List.mem_cons_self; cases this
  | a :: P, b :: Q, hp, hq, h => by
    rw [List.pairwise_cons] at hp hq
    have hab : a = b := by
      rcases List.mem_cons.1 ((h a).1 List.mem_cons_self) with e | e
      · exact e
      · rcases List.mem_cons.1 ((h b).2 List.mem_cons_self) with e2 | e2
        · exact e2.symm
        · exact absurd (hq.1 a e) (less_asymm (hp.1 b e2))
    subst hab
    have := sorted_eq hp.2 hq.2 (fun t => by
      have ht := h t
      rw [List.mem_cons, List.mem_cons] at ht
      refine ⟨fun h1 => ?_, fun h1 => ?_⟩
      · rcases ht.1 (.inr h1) with e | e
        · subst e; exact absurd (hp.1 t h1) (less_irrefl _)
        · exact e
      · rcases ht.2 (.inr h1) with e | e
        · subst e; exact absurd (hq.1 t h1) (less_irrefl _)
        · exact e)
    rw [this]
theorem Rings.eq {F : Ft} {now : Int} {P Q : List (Int × Int × Int)} (h : Rings F now P) (k : Rings F now Q) : P = Q :=
  sorted_eq h.sort k.sort (fun t => by obtain ⟨n, d, s⟩ := t; rw [h.mem, k.mem])
end Go.Proofs.Ytemmnojcickcpaa
