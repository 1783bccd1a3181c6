/- The document's own bell, in plain words. -/
import Derived.Test.YtemmnojcickcpaaBeL
namespace Go.Proofs.Ytemmnojcickcpaa

/-- Every moment is a moment. -/
def Pos (F : Ft) : Prop := ∀ n d s, F n = some (d, s) → 1 ≤ d ∧ 0 ≤ n ∧ n < 16 ∧ 1 ≤ s ∧ s ≤ 4096
theorem Pos.upd {F : Ft} (h : Pos F) {n d s : Int} (hd : 1 ≤ d) (hn : 0 ≤ n ∧ n < 16) (hs : 1 ≤ s ∧ s ≤ 4096) : Pos (upd F n (some (d, s))) := by
  intro m d' s' hm
  unfold Ytemmnojcickcpaa.upd at hm
  split at hm
  · injection hm with hm; injection hm with e1 e2; omega
  · exact h m d' s' hm
theorem Pos.off {F : Ft} (h : Pos F) (n : Int) : Pos (Ytemmnojcickcpaa.upd F n none) := by
  intro m d' s' hm
  unfold Ytemmnojcickcpaa.upd at hm
  split at hm
  · cases hm
  · exact h m d' s' hm
theorem late_some {F : Ft} {now n d s : Int} (h : late F now n = some (d, s)) : F n = some (d, s) ∧ now < d := by
  unfold late at h
  split at h
  · split at h
    · cases h
    · injection h with h; injection h with e1 e2; subst e1 e2; exact ⟨by assumption, by omega⟩
  · cases h
theorem Pos.late {F : Ft} (h : Pos F) (now : Int) : Pos (late F now) := fun m d' s' hm => h m d' s' (late_some hm).1
theorem few_of {F : Ft} {P : List Tm} (hsort : P.Pairwise fun a b => lessB a b = true) (hmem : ∀ n d s, (n, d, s) ∈ P → F n = some (d, s)) (hp : Pos F) : P.length ≤ 16 := by
  have hone : (P.map (·.1)).Nodup := by
    refine List.pairwise_map.2 (hsort.imp_of_mem ?_)
    rintro ⟨n, d, s⟩ ⟨n', d', s'⟩ ha hb hl e
    simp only at e
    subst e
    have h1 := hmem _ _ _ ha
    have h2 := hmem _ _ _ hb
    rw [h1] at h2
    injection h2 with e1
    injection e1 with e1 e2
    subst e1 e2
    simp [lessB] at hl
  have hin : ∀ t ∈ P, 0 ≤ t.1 ∧ t.1 < 16 := by
    rintro ⟨n, d, s⟩ ht
    have := hp n d s (hmem _ _ _ ht)
    exact ⟨this.2.1, this.2.2.1⟩
  have hr : Rep (P.map fun t => (t.1, 0, 1)) (fun n => if n ∈ P.map (·.1) then some (0, 1) else none) := by
    refine ⟨?_, ?_, ?_, ?_⟩
    · intro t ht
      obtain ⟨x, hx, rfl⟩ := List.mem_map.1 ht
      exact hin x hx
    · intro t ht
      obtain ⟨x, hx, rfl⟩ := List.mem_map.1 ht
      exact ⟨by simp, by simp⟩
    · rw [List.map_map]; exact hone
    · intro n d s
      constructor
      · intro hm
        obtain ⟨x, hx, e⟩ := List.mem_map.1 hm
        injection e with e1 e
        injection e with e2 e3
        subst e1 e2 e3
        rw [if_pos (List.mem_map.2 ⟨x, hx, rfl⟩)]
      · intro hm
        split at hm
        · injection hm with hm
          injection hm with e1 e2
          subst e1 e2
          rename_i hin'
          obtain ⟨x, hx, e⟩ := List.mem_map.1 hin'
          exact List.mem_map.2 ⟨x, hx, by rw [← e]⟩
        · cases hm
  have := hr.few
  simpa using this

/-- When one is due: -1: there is none. -/
def rdue (o : Option (Int × Int)) : Int := match o with | some (d, _) => d | none => -1
/-- The next of the first k names: -1: there is none. -/
def nextTo (F : Ft) : Nat → Int
  | 0 => -1
  | k + 1 => if 0 ≤ rdue (F k) ∧ (nextTo F k < 0 ∨ rdue (F k) < nextTo F k) then rdue (F k) else nextTo F k
theorem nextTo_is {F : Ft} (hp : Pos F) (k : Nat) : (nextTo F k = -1 ∧ ∀ n : Nat, n < k → F n = none) ∨ (1 ≤ nextTo F k ∧ (∃ (n : Nat) (s : Int), n < k ∧ F n = some (nextTo F k, s)) ∧ ∀ (n : Nat) (d s : Int), n < k → F n = some (d, s) → nextTo F k ≤ d) := by
  induction k with
  | zero => exact .inl ⟨rfl, fun n hn => by omega⟩
  | succ k ih =>
    cases hF : F k with
    | none =>
      have e : nextTo F (k + 1) = nextTo F k := by rw [nextTo, hF, if_neg (by simp [rdue])]
      rw [e]
      rcases ih with ⟨h1, h2⟩ | ⟨h1, ⟨n, s, hn, hs⟩, h3⟩
      · refine .inl ⟨h1, fun n hn => ?_⟩
        by_cases hnk : n = k
        · subst hnk; exact hF
        · exact h2 n (by omega)
      · refine .inr ⟨h1, ⟨n, s, by omega, hs⟩, fun m d s' hm hd => ?_⟩
        by_cases hmk : m = k
        · subst hmk; rw [hF] at hd; cases hd
        · exact h3 m d s' (by omega) hd
    | some x =>
      obtain ⟨d, s⟩ := x
      have hd1 := (hp _ _ _ hF).1
      have hr : rdue (F k) = d := by rw [hF]; rfl
      by_cases hc : nextTo F k < 0 ∨ d < nextTo F k
      · have e : nextTo F (k + 1) = d := by rw [nextTo, hr, if_pos ⟨by omega, hc⟩]
        rw [e]
        refine .inr ⟨hd1, ⟨k, s, by omega, hF⟩, fun m d' s' hm hd => ?_⟩
        by_cases hmk : m = k
        · subst hmk; rw [hF] at hd; injection hd with hd; injection hd with e1 _; omega
        · rcases ih with ⟨h1, h2⟩ | ⟨h1, _, h3⟩
          · rw [h2 m (by omega)] at hd; cases hd
          · have := h3 m d' s' (by omega) hd; omega
      · have e : nextTo F (k + 1) = nextTo F k := by rw [nextTo, hr, if_neg (fun h => hc h.2)]
        rw [e]
        rcases ih with ⟨h1, h2⟩ | ⟨h1, ⟨n, s0, hn, hs⟩, h3⟩
        · omega
        · refine .inr ⟨h1, ⟨n, s0, by omega, hs⟩, fun m d' s' hm hd => ?_⟩
          by_cases hmk : m = k
          · subst hmk; rw [hF] at hd; injection hd with hd; injection hd with e1 _; omega
          · exact h3 m d' s' (by omega) hd
/-- What the document's Next tells, of all names. -/
theorem next_is {F : Ft} (hp : Pos F) : (nextTo F 16 = -1 ∧ ∀ n, F n = none) ∨ (1 ≤ nextTo F 16 ∧ (∃ (n : Nat) (s : Int), n < 16 ∧ F n = some (nextTo F 16, s)) ∧ ∀ n d s, F n = some (d, s) → nextTo F 16 ≤ d) := by
  rcases nextTo_is hp 16 with ⟨h1, h2⟩ | ⟨h1, h2, h3⟩
  · refine .inl ⟨h1, fun n => ?_⟩
    cases hF : F n with
    | none => rfl
    | some x =>
      obtain ⟨d, s⟩ := x
      have := hp _ _ _ hF
      obtain ⟨m, rfl⟩ : ∃ m : Nat, n = m := Int.eq_ofNat_of_zero_le this.2.1
      rw [h2 m (by omega)] at hF
      cases hF
  · refine .inr ⟨h1, h2, fun n d s hF => ?_⟩
    have := hp _ _ _ hF
    obtain ⟨m, rfl⟩ : ∃ m : Nat, n = m := Int.eq_ofNat_of_zero_le this.2.1
    exact h3 m d s (by omega) hF
theorem next_both {F : Ft} (hp : Pos F) {d : Int} {b : Bool} (h : NextIs F d b) : (b = true ∧ d = nextTo F 16 ∧ 1 ≤ nextTo F 16) ∨ (b = false ∧ d = 0 ∧ nextTo F 16 = -1) := by
  rcases h with ⟨hb, hd, hn⟩ | ⟨hb, ⟨n, s, hn⟩, hl⟩
  · rcases next_is hp with ⟨h1, _⟩ | ⟨_, ⟨m, s, _, hm⟩, _⟩
    · exact .inr ⟨hb, hd, h1⟩
    · rw [hn] at hm; cases hm
  · rcases next_is hp with ⟨_, h2⟩ | ⟨h1, ⟨m, s', _, hm⟩, h3⟩
    · rw [h2] at hn; cases hn
    · have a := h3 _ _ _ hn
      have c := hl _ _ _ hm
      exact .inl ⟨hb, by omega, h1⟩
/-- What the document's Tick has rung so far, and what is left. -/
structure Inv (F0 Fc : Ft) (now : Int) (Q : List Tm) : Prop where
  mem : ∀ n d s, ((n, d, s) ∈ Q ∨ Fc n = some (d, s)) ↔ F0 n = some (d, s)
  sort : Q.Pairwise fun a b => lessB a b = true
  ahead : ∀ a ∈ Q, ∀ n d s, Fc n = some (d, s) → lessB a (n, d, s) = true
  due : ∀ a ∈ Q, a.2.1 ≤ now
theorem Inv.start (F : Ft) (now : Int) : Inv F F now [] := ⟨fun n d s => by simp, List.Pairwise.nil, fun a ha => (by cases ha), fun a ha => (by cases ha)⟩
theorem Inv.pos {F0 Fc : Ft} {now : Int} {Q : List Tm} (h : Inv F0 Fc now Q) (hp : Pos F0) : Pos Fc := fun n d s hF => hp n d s ((h.mem n d s).1 (.inr hF))
theorem Inv.few {F0 Fc : Ft} {now : Int} {Q : List Tm} (h : Inv F0 Fc now Q) (hp : Pos F0) : Q.length ≤ 16 := few_of h.sort (fun n d s hq => (h.mem n d s).1 (.inl hq)) hp
theorem Inv.step {F0 Fc : Ft} {now : Int} {Q : List Tm} (h : Inv F0 Fc now Q) {i at' s : Int} (hF : Fc i = some (at', s)) (hd : at' ≤ now) (hl : ∀ n d s', Fc n = some (d, s') → n = i ∨ lessB (i, at', s) (n, d, s') = true) : Inv F0 (upd Fc i none) now (Q ++ [(i, at', s)]) := by
  have hu : ∀ n d s', upd Fc i none n = some (d, s') ↔ n ≠ i ∧ Fc n = some (d, s') := fun n d s' => by
    unfold upd
    by_cases e : n = i <;> simp [e]
  refine ⟨fun n d s' => ?_, ?_, ?_, ?_⟩
  · rw [hu, ← h.mem n d s', List.mem_append, List.mem_singleton]
    constructor
    · rintro ((hq | e) | ⟨_, hf⟩)
      · exact .inl hq
      · injection e with e1 e; injection e with e2 e3; subst e1 e2 e3; exact .inr hF
      · exact .inr hf
    · rintro (hq | hf)
      · exact .inl (.inl hq)
      · by_cases e : n = i
        · subst e
          rw [hF] at hf; injection hf with hf; injection hf with e1 e2; subst e1 e2
          exact .inl (.inr rfl)
        · exact .inr ⟨e, hf⟩
  · rw [List.pairwise_append]
    refine ⟨h.sort, List.pairwise_singleton _ _, fun a ha b hb => ?_⟩
    rw [List.mem_singleton.1 hb]
    exact h.ahead a ha i at' s hF
  · intro a ha n d s' hf
    rw [hu] at hf
    rcases List.mem_append.1 ha with ha | ha
    · exact h.ahead a ha n d s' hf.2
    · rw [List.mem_singleton.1 ha]
      rcases hl n d s' hf.2 with e | e
      · exact absurd e hf.1
      · exact e
  · intro a ha
    rcases List.mem_append.1 ha with ha | ha
    · exact h.due a ha
    · rw [List.mem_singleton.1 ha]; exact hd
theorem Inv.done {F0 Fc : Ft} {now : Int} {Q : List Tm} (h : Inv F0 Fc now Q) (hd : ∀ n d s, Fc n = some (d, s) → now < d) : Rings F0 now Q ∧ Fc = late F0 now := by
  have hm : ∀ n d s, (n, d, s) ∈ Q ↔ F0 n = some (d, s) ∧ d ≤ now := fun n d s => by
    constructor
    · intro hq; exact ⟨(h.mem n d s).1 (.inl hq), h.due _ hq⟩
    · rintro ⟨hf, hdn⟩
      rcases (h.mem n d s).2 hf with hq | hc
      · exact hq
      · have := hd _ _ _ hc; omega
  refine ⟨⟨hm, h.sort⟩, ?_⟩
  funext n
  cases hc : Fc n with
  | none =>
    unfold late
    cases hf : F0 n with
    | none => rfl
    | some x =>
      obtain ⟨d, s⟩ := x
      rcases (h.mem n d s).2 hf with hq | hq
      · have := h.due _ hq
        simp only at this
        simp [this]
      · rw [hc] at hq; cases hq
  | some x =>
    obtain ⟨d, s⟩ := x
    have hf := (h.mem n d s).1 (.inr hc)
    have := hd _ _ _ hc
    unfold late
    rw [hf]
    have h3 : ¬ d ≤ now := by omega
    simp [h3]
end Go.Proofs.Ytemmnojcickcpaa
