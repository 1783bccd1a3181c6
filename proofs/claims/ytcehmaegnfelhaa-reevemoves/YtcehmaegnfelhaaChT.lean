/- Chains: Next of a configuration that is one; what Do comes to, plain; regions in which a block is laid at any place. -/
import Derived.Test.YtcehmaegnfelhaaChS
namespace Go.Proofs.Ytcehmaegnfelhaa
open Go.RowKit

section
variable {P : Program} {md : Region.Mode} {ops : Array Oper} {Q : Exit → Act → World → Prop} {z : Nat} {S : World → Prop}
theorem Y_first {i : Nat} {oi : Oper} {v : Value} (hi : ops[i]? = some oi) (hsel : ∀ (j : Nat) (o : Oper) cs b, ops[j]? = some o → o.op ≠ .select cs b) (hz : ops[z]? = none)
    (hQ : ∀ c a w, Q (.panic c) (a.put oi.dst v) w → Q (.panic c) a w) :
    ∀ (fuel : Nat) (listed : Array Bool) (a : Act) (w : World),
      (∀ j oj, ops[j]? = some oj → j ≠ i → listed.getD j true = false → (∀ e ∈ oj.after, Region.binds md e = true → e.on ≠ i) → oi.apart ops oj = true) →
      i ∈ Region.ready md ops listed → YieldsIf P ops S oi v a → S w →
      anyZ P md ops Q z S fuel (listed.setIfInBounds i true) (a.put oi.dst v) w → anyZ P md ops Q z S (fuel + 1) listed a w
  | 0, listed, a, w, _, hr, hy, hS, H => by
    refine ⟨fun h => (by rw [h] at hr; cases hr), fun j hj => ?_⟩
    by_cases hji : j = i
    · subst hji; exact hy.wpOp hi hS ⟨fun _ => hS, H⟩
    · have := ready_mono hj hji
      rw [H.1] at this
      cases this
  | fuel + 1, listed, a, w, hfree, hr, hy, hS, H => by
    refine ⟨fun h => (by rw [h] at hr; cases hr), fun j hj => ?_⟩
    by_cases hji : j = i
    · subst hji; exact hy.wpOp hi hS ⟨fun _ => hS, H⟩
    have hjz : j ≠ z := fun e => by
      subst e
      obtain ⟨_, o, ho, _⟩ := mem_ready.1 hj
      rw [hz] at ho
      cases ho
    obtain ⟨hjun, oj, hoj, hall⟩ := mem_ready.1 hj
    have hnot : ∀ e ∈ oj.after, Region.binds md e = true → e.on ≠ i := fun e he hb heq => by
      have h1 := hall e he hb
      have h0 := (mem_ready.1 hr).1
      rw [heq] at h1
      rcases Nat.lt_or_ge i listed.size with h' | h'
      · simp [h'] at h0 h1; rw [h0] at h1; cases h1
      · simp [Array.getElem?_eq_none h'] at h1
    refine wpOp_mono (fun a' w' h3 => ?_) (wpOp_putIf hoj (hfree j oj hoj hji hjun hnot) (fun cs b => hsel i oi cs b hi) (fun cs b => hsel j oj cs b hoj) hQ hy (H.2 j (ready_mono hj hji)))
    have hS' := h3.2.1 hjz
    refine ⟨fun _ => hS', Y_first hi hsel hz hQ fuel (listed.setIfInBounds j true) a' w' (fun k ok hk hki hun hno => hfree k ok hk hki ?_ hno) (ready_mono hr (Ne.symm hji)) h3.1 hS' ?_⟩
    · by_cases hjk : j = k
      · subst hjk; exact hjun
      · rw [getD_set_ne true hjk] at hun; exact hun
    · rw [Array.setIfInBounds_comm _ _ hji]
      exact h3.2.2
theorem Y_take {i : Nat} {oi : Oper} {v : Value} {fuel : Nat} {listed : Array Bool} {a : Act} {w : World} (hi : ops[i]? = some oi)
    (hs : Region.noSelect ops = true) (hf : Region.free md ops listed i = true) (hr : (Region.ready md ops listed).contains i = true) (hz : ops[z]? = none)
    (hQ : ∀ c a w, Q (.panic c) (a.put oi.dst v) w → Q (.panic c) a w) (hw : Region.wanted oi (yielded ops a.tmps) = true) (hS : S w) (hy : ∀ w, S w → (execOp a.eval oi).run P w = .ok (.value v) w)
    (h : anyZ P md ops Q z S fuel (listed.setIfInBounds i true) (a.put oi.dst v) w) : anyZ P md ops Q z S (fuel + 1) listed a w :=
  Y_first hi (Region.noSelect_spec hs) hz hQ fuel listed a w (Region.free_spec hi hf) (by simpa using hr) (.inl ⟨hw, hy⟩) hS h
theorem Z_two {i j : Nat} {oi oj : Oper} {fuel : Nat} {listed : Array Bool} {a : Act} {w : World} (hr : Region.ready md ops listed = [i, j]) (hoi : ops[i]? = some oi) (hoj : ops[j]? = some oj)
    (h : ∀ K' : Act → World → Prop, (∀ a w, (i ≠ z → S w) → anyZ P md ops Q z S fuel (listed.setIfInBounds i true) a w → K' a w) → if Region.wanted oi (yielded ops a.tmps) = true then Oper.wp P oi a w K' Q else K' (a.put oi.dst undef) w)
    (h2 : ∀ K' : Act → World → Prop, (∀ a w, (j ≠ z → S w) → anyZ P md ops Q z S fuel (listed.setIfInBounds j true) a w → K' a w) → if Region.wanted oj (yielded ops a.tmps) = true then Oper.wp P oj a w K' Q else K' (a.put oj.dst undef) w) : anyZ P md ops Q z S (fuel + 1) listed a w := by
  refine ⟨fun h0 => (by rw [hr] at h0; cases h0), fun k hk => ?_⟩
  rw [hr] at hk
  rcases List.mem_cons.1 hk with rfl | hk
  · exact wpOp_step hoi fun K' hK => h K' fun a w h1 h2 => hK a w ⟨h1, h2⟩
  · rw [List.mem_singleton] at hk
    subst hk
    exact wpOp_step hoj fun K' hK => h2 K' fun a w h1 h2 => hK a w ⟨h1, h2⟩
end

/-- The next configuration. -/
def nextC (c : List Nat × List Nat) (k g s : Int) : List Nat × List Nat := (nG k.toNat g.toNat c.1, nO k.toNat g.toNat s.toNat c.1 c.2)
theorem own_of {gs o : List Nat} (h0 : 0 < gs.length) (hl : o.length = 4) (h : ∀ x ∈ o, x ∈ gs) : o ∈ owners0 gs := by
  obtain ⟨a, b, c, d, rfl⟩ := four_of hl
  unfold owners0
  rw [if_neg (by omega)]
  unfold owners
  simp only [List.mem_flatMap, List.mem_map]
  exact ⟨a, h a (by simp), b, h b (by simp), c, h c (by simp), d, h d (by simp), rfl⟩
theorem mem_own {gs o : List Nat} (h0 : 0 < gs.length) (h : o ∈ owners0 gs) : ∀ x ∈ o, x ∈ gs := by
  unfold owners0 at h
  rw [if_neg (by omega)] at h
  unfold owners at h
  simp only [List.mem_flatMap, List.mem_map] at h
  obtain ⟨a, ha, b, hb, c, hc, d, hd, rfl⟩ := h
  intro x hx
  simp at hx
  rcases hx with rfl | rfl | rfl | rfl <;> assumption
theorem nx_mem {gs o : List Nat} {k g s : Nat} (hg : gs ∈ subs0) (ho : o ∈ owners0 gs) (hk : okK k g s gs) : nG k g gs ∈ subs0 ∧ nO k g s gs o ∈ owners0 (nG k g gs) ∧ 0 < (nG k g gs).length := by
  obtain ⟨h1, h4, ⟨rfl, h5, _⟩ | ⟨rfl, h5, h6, _⟩ | ⟨rfl, h5, h6⟩⟩ := hk
  · obtain ⟨_, he, hm⟩ := join_of hg ho h1 h4 h5
    exact ⟨hm, own_of he.pos he.rl he.rin, he.pos⟩
  · obtain ⟨_, he, hm⟩ := leave_of hg ho h1 h4 h5 h6
    exact ⟨hm, own_of he.pos he.rl he.rin, he.pos⟩
  · have hgm : g ∈ gs := by simpa using h5
    have h0 : 0 < gs.length := List.length_pos_of_mem hgm
    refine ⟨hg, ?_, h0⟩
    show o.set s g ∈ owners0 gs
    refine own_of h0 (by rw [List.length_set]; exact ((conf_of hg).2.2 o ho).1) (fun x hx => ?_)
    rcases List.mem_or_eq_of_mem_set hx with hx | rfl
    · exact mem_own h0 ho x hx
    · exact hgm
def okAll : Bool := subs0.all fun gs => (owners0 gs).all fun o => rise 0 (zi gs) && (zi o).all (ownB (zi gs))
theorem ok_all : okAll = true := by decide +kernel
theorem ok_conf {gs o : List Nat} (hg : gs ∈ subs0) (ho : o ∈ owners0 gs) {num : Int} (h0 : 0 ≤ num) (h1 : num ≤ 1099511627776) : okC num (zi gs) (zi o) = true := by
  have h := ok_all
  unfold okAll at h
  rw [List.all_eq_true] at h
  have h := h gs hg
  rw [List.all_eq_true] at h
  have h := h o ho
  simp only [Bool.and_eq_true] at h
  unfold okC
  rw [h.1, h.2]
  simp [wi, h0, h1]
theorem zi_inj : ∀ (l m : List Nat), zi l = zi m → l = m
  | [], [], _ => rfl
  | [], _ :: _, h => by cases h
  | _ :: _, [], h => by cases h
  | x :: l, y :: m, h => by
    have h1 : ((x : Int) :: zi l) = ((y : Int) :: zi m) := h
    injection h1 with h2 h3
    rw [zi_inj l m h3, show x = y by omega]
theorem Il_lt {w : World} {v : Value} {ns : List Int} (h : Il w v ns) {k : Nat} (hk : v.ownBlock = some k) (hl : ns ≠ []) : k < w.heap.size := by
  rcases h with ⟨rfl, _⟩ | ⟨b0, o0, cp, rfl, hlt, hc⟩
  · exact absurd rfl hl
  · have : b0 = k := by simpa [Value.ownBlock] using hk
    omega
/-- What Next tells, whatever it is. -/
def NxPost (num : Int) (gs o : List Nat) (k g s E : Int) (w : World) (x : Value) (W' : World) : Prop :=
  ∃ (v : Value) (n : Int) (G' O' : List Nat) (p q r t : Nat), x = .agg (cf n v p q r t) ∧ Il W' v (zi G') ∧ O' = [p, q, r, t] ∧ G'.length ≤ 4 ∧ Fr w.heap.size v ∧ (∀ j, v.ownBlock = some j → j < W'.heap.size) ∧ Below w.heap.size w W' ∧
    (E = 0 → n = num + 1 ∧ (G', O') = nextC (gs, o) k g s ∧ G' ∈ subs0 ∧ O' ∈ owners0 G') ∧ (E ≠ 0 → n = 0 ∧ G' = [] ∧ O' = [0, 0, 0, 0])
theorem nx_zero (num : Int) (gs o : List Nat) (k g s E : Int) (hE : E ≠ 0) {w W' : World} (hb : Below w.heap.size w W') : NxPost num gs o k g s E w (.agg (cf 0 (.slice none 0 0) 0 0 0 0)) W' :=
  ⟨.slice none 0 0, 0, [], [0, 0, 0, 0], 0, 0, 0, 0, rfl, .inl ⟨rfl, none, 0, rfl⟩, rfl, by simp, (by intro k hk; cases hk), (by intro k hk; cases hk), hb, fun h => absurd h hE, fun _ => ⟨rfl, rfl, rfl⟩⟩
theorem Next_any (num : Int) (h0 : 0 ≤ num) (h1 : num ≤ 1099511627776) (gv : Value) (gs : List Nat) (a b c d : Nat) (k g s : Int) (w : World) (hu : Il w gv (zi gs)) (hg : gs ∈ subs0) (ho : [a, b, c, d] ∈ owners0 gs) :
    Calls Try.prog 24 #[.agg (cf num gv a b c d), .agg #[.int .i64 k, .int .i64 g, .int .i64 s]] w fun e W' => ∃ x, e = .returned (.tuple #[x, .int .i64 (nxE num (zi gs) (zi [a, b, c, d]) k g s)]) ∧ NxPost num gs [a, b, c, d] k g s (nxE num (zi gs) (zi [a, b, c, d]) k g s) w x W' := by
  have hok := ok_conf hg ho h0 h1
  have hok2 : okC num (zi gs) [(a : Int), b, c, d] = true := hok
  have hl : (zi gs).length ≤ 1000 := by rw [zi_len]; have := (conf_of hg).1; omega
  unfold nxE
  rw [if_pos hok]
  by_cases h2 : isCmd k g s = true
  · rw [if_pos h2]
    by_cases h3 : fitsB k g s (zi gs) (zi [a, b, c, d]) = true
    · rw [if_pos h3]
      by_cases h4 : num = 1099511627776
      · rw [if_pos h4]
        refine (Next_last num gv (zi gs) a b c d k g s w hu hl hok2 h2 h3 h4).mono ?_
        rintro e W' ⟨rfl, hb⟩
        exact ⟨_, rfl, nx_zero _ _ _ _ _ _ _ (by decide) hb⟩
      · rw [if_neg h4]
        refine (Next_ok num gv (zi gs) a b c d k g s w hu hl hok2 h2 h3 h4).mono ?_
        rintro e W' ⟨x, rfl, gs', o', K, G, S, v, p, q, r, t, e1, e2, e3, e4, rfl, rfl, rfl, hk, n0, n1, rfl, hil, hO, hfr, hb⟩
        have eg : gs' = gs := by
          exact (zi_inj _ _ e1).symm
        subst eg
        have eo : o' = [a, b, c, d] := by
          have h5 : zi [a, b, c, d] = zi o' := e2
          exact (zi_inj _ _ h5).symm
        subst eo
        obtain ⟨m1, m2, m3⟩ := nx_mem hg ho hk
        refine ⟨_, rfl, v, num + 1, nG K G gs', nO K G S gs' [a, b, c, d], p, q, r, t, rfl, hil, hO.symm, (conf_of m1).1, hfr, fun j hj => Il_lt hil hj (by intro h0; have := congrArg List.length h0; rw [zi_len] at this; simp only [List.length_nil] at this; omega), hb, fun _ => ⟨rfl, rfl, m1, m2⟩, fun h => absurd rfl h⟩
    · rw [if_neg h3]
      refine (Next_group num gv (zi gs) a b c d k g s w hu hl hok2 h2 (show fitsB k g s (zi gs) (zi [a, b, c, d]) = false by simpa using h3)).mono ?_
      rintro e W' ⟨rfl, hb⟩
      exact ⟨_, rfl, nx_zero _ _ _ _ _ _ _ (by decide) hb⟩
  · rw [if_neg h2]
    refine (Next_arg num gv (zi gs) a b c d k g s w hu hl hok2 (by simpa using h2)).mono ?_
    rintro e W' ⟨rfl, hb⟩
    exact ⟨_, rfl, nx_zero _ _ _ _ _ _ _ (by decide) hb⟩
end Go.Proofs.Ytcehmaegnfelhaa
