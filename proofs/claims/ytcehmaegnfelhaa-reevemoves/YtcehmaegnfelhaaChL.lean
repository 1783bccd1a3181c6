/- Chains, plain: all configurations are few; what is decided over all of them. -/
import Derived.Test.YtcehmaegnfelhaaChK
namespace Go.Proofs.Ytcehmaegnfelhaa

/-- All groups that may have joined, above l. -/
def subsF : Nat → Nat → List (List Nat)
  | 0, _ => [[]]
  | n + 1, l => [] :: ((List.range 4).filter fun i => decide (l < i + 1)).flatMap fun i => (subsF n (i + 1)).map ((i + 1) :: ·)
theorem rise_subs : ∀ (n : Nat) (ns : List Int) (l : Nat), 4 - l ≤ n → rise l ns = true → ∃ gs ∈ subsF n l, ns = zi gs := by
  intro n ns
  induction ns generalizing n with
  | nil =>
    intro l hn _
    refine ⟨[], ?_, rfl⟩
    cases n <;> simp [subsF]
  | cons x r ih =>
    intro l hn h
    unfold rise at h
    simp at h
    obtain ⟨⟨h1, h2⟩, h3⟩ := h
    obtain ⟨i, rfl⟩ : ∃ i : Nat, x = ((i + 1 : Nat) : Int) := ⟨(x - 1).toNat, by omega⟩
    cases n with
    | zero => omega
    | succ n =>
      obtain ⟨gs, hg, he⟩ := ih n (i + 1) (by omega) h3
      refine ⟨(i + 1) :: gs, ?_, by rw [he]; rfl⟩
      unfold subsF
      apply List.mem_cons_of_mem
      rw [List.mem_flatMap]
      refine ⟨i, ?_, List.mem_map.2 ⟨gs, hg, rfl⟩⟩
      rw [List.mem_filter, List.mem_range]
      exact ⟨by omega, by simp; omega⟩
def subs0 : List (List Nat) := subsF 4 0
def owners0 (gs : List Nat) : List (List Nat) := if gs.length = 0 then [[0, 0, 0, 0]] else owners gs
theorem own_mem {gs : List Nat} {x : Int} (h0 : gs.length ≠ 0) (h : ownB (zi gs) x = true) : ∃ n ∈ gs, x = (n : Int) := by
  unfold ownB at h
  rw [zi_len, if_neg h0] at h
  unfold isIn zi at h
  simp at h
  obtain ⟨a, h1, h2⟩ := h
  exact ⟨a, h1, h2.symm⟩
/-- What a configuration is. -/
theorem okC_all {num : Int} {ns : List Int} {a b c d : Int} (h : okC num ns [a, b, c, d] = true) :
    ∃ gs ∈ subs0, ns = zi gs ∧ ∃ o ∈ owners0 gs, [a, b, c, d] = zi o ∧ 0 ≤ num ∧ num ≤ 1099511627776 := by
  unfold okC at h
  simp at h
  obtain ⟨⟨h1, h2⟩, h3, h4, h5, h6⟩ := h
  obtain ⟨gs, hg, rfl⟩ := rise_subs 4 ns 0 (by omega) h2
  obtain ⟨n0, n1⟩ := wi_t h1
  refine ⟨gs, hg, rfl, ?_⟩
  by_cases h0 : gs.length = 0
  · refine ⟨[0, 0, 0, 0], by unfold owners0; rw [if_pos h0]; simp, ?_, n0, n1⟩
    unfold ownB at h3 h4 h5 h6
    rw [zi_len, if_pos h0] at h3 h4 h5 h6
    simp at h3 h4 h5 h6
    subst h3 h4 h5 h6
    rfl
  · obtain ⟨a', m1, rfl⟩ := own_mem h0 h3
    obtain ⟨b', m2, rfl⟩ := own_mem h0 h4
    obtain ⟨c', m3, rfl⟩ := own_mem h0 h5
    obtain ⟨d', m4, rfl⟩ := own_mem h0 h6
    refine ⟨[a', b', c', d'], ?_, rfl, n0, n1⟩
    unfold owners0
    rw [if_neg h0]
    unfold owners
    simp only [List.mem_flatMap, List.mem_map]
    exact ⟨a', m1, b', m2, c', m3, d', m4, rfl⟩
/-- The groups behind a command. -/
def nG (k g : Nat) (gs : List Nat) : List Nat := if k = 1 then [1, 2, 3, 4].filter (fun x => gs.contains x || x == g) else if k = 2 then gs.erase g else gs
/-- The owners behind a Join or a Leave. -/
def nR (gs o : List Nat) : List Nat := (evS 5 gs (giveG gs o)).getD []
/-- The owners behind a command. -/
def nO (k g s : Nat) (gs o : List Nat) : List Nat := if k = 3 then o.set s g else nR (nG k g gs) o
def sortOk (gs : List Nat) (g : Nat) : Bool := insTo (zi gs ++ [(g : Int)]) (gs.length + 1) == zi (nG 1 g gs)
def delOk (gs : List Nat) (g : Nat) : Bool :=
  idxI (zi gs) g == (gs.idxOf g : Nat) && decide (gs.idxOf g < gs.length) && (dlJ g (gs.length - (gs.idxOf g + 1)) (gs.idxOf g) (gs.idxOf g + 1) (zi gs)).1 + 1 == gs.length &&
    (dlJ g (gs.length - (gs.idxOf g + 1)) (gs.idxOf g) (gs.idxOf g + 1) (zi gs)).2.take (gs.length - 1) == zi (nG 2 g gs)
def evOk (gs o : List Nat) : Bool := decide (0 < gs.length) && decide (gs.length ≤ 4) && gs.all (fun x => decide (1 ≤ x) && decide (x ≤ 4)) && o.all (fun x => decide (x ≤ 4)) && decide (o.length = 4) &&
  (giveG gs o).all (fun x => decide (x ≤ 4)) && decide ((giveG gs o).length = 4) && evS 5 gs (giveG gs o) == some (nR gs o) && decide ((nR gs o).length = 4) && (nR gs o).all (gs.contains ·)
def stepOk (gs o : List Nat) (g : Nat) : Bool :=
  if gs.contains g then (if 1 < gs.length then delOk gs g && evOk (nG 2 g gs) o && subs0.contains (nG 2 g gs) else true) else sortOk gs g && evOk (nG 1 g gs) o && subs0.contains (nG 1 g gs)
def allSteps : Bool := subs0.all fun gs => (owners0 gs).all fun o => [1, 2, 3, 4].all fun g => stepOk gs o g
theorem all_steps : allSteps = true := by decide +kernel
def confOk (gs : List Nat) : Bool := decide (gs.length ≤ 4) && gs.all (fun x => decide (1 ≤ x) && decide (x ≤ 4)) && (owners0 gs).all (fun o => decide (o.length = 4) && o.all (fun x => decide (x ≤ 4)))
theorem all_confs : (subs0.all confOk) = true := by decide +kernel
theorem step_of {gs o : List Nat} {g : Nat} (hg : gs ∈ subs0) (ho : o ∈ owners0 gs) (h1 : 1 ≤ g) (h4 : g ≤ 4) : stepOk gs o g = true := by
  have h := all_steps
  unfold allSteps at h
  rw [List.all_eq_true] at h
  have h := h gs hg
  rw [List.all_eq_true] at h
  have h := h o ho
  rw [List.all_eq_true] at h
  exact h g (by simp; omega)
theorem conf_of {gs : List Nat} (hg : gs ∈ subs0) : gs.length ≤ 4 ∧ (∀ x ∈ gs, 1 ≤ x ∧ x ≤ 4) ∧ ∀ o ∈ owners0 gs, o.length = 4 ∧ ∀ x ∈ o, x ≤ 4 := by
  have h := all_confs
  rw [List.all_eq_true] at h
  have h := h gs hg
  simp [confOk] at h
  exact ⟨h.1.1, h.1.2, h.2⟩
end Go.Proofs.Ytcehmaegnfelhaa
