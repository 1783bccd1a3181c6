/- A table in memory; New, Len, place, replace, walked. -/
import Derived.Test.YtihilkdokfdoeaaDoorTbC
import Derived.Deep.Upon
namespace Go.Proofs.YtihilkdokfdoeaaDoor
open Go.RowKit
attribute [local go_sem ↓] Go.wp_at_zero Go.wp_at_succ

/-- What a call on one object leaves: all blocks but the object's own are as they were. -/
structure Mv (B : Nat) (w w' : World) : Prop where
  os : w'.os = w.os
  tape : w'.tape = w.tape
  output : w'.output = w.output
  size : w.heap.size ≤ w'.heap.size
  block : ∀ k, k < w.heap.size → k ≠ B → w'.heap[k]? = w.heap[k]?
theorem Mv.refl (B : Nat) (w : World) : Mv B w w := ⟨rfl, rfl, rfl, Nat.le_refl _, fun _ _ _ => rfl⟩
theorem Mv.of_below {w w' : World} (h : Below w.heap.size w w') (B : Nat) : Mv B w w' := ⟨h.os, h.tape, h.output, h.size, fun k hk _ => h.block k hk⟩
theorem Mv.trans {B : Nat} {w w1 w2 : World} (h : Mv B w w1) (k : Mv B w1 w2) : Mv B w w2 :=
  ⟨k.os.trans h.os, k.tape.trans h.tape, k.output.trans h.output, Nat.le_trans h.size k.size, fun i hi h1 => (k.block i (Nat.lt_of_lt_of_le hi h.size) h1).trans (h.block i hi h1)⟩
theorem Mv.below {B b : Nat} {w w' : World} (h : Mv B w w') (hB : b ≤ B) (hb : b ≤ w.heap.size) : Below b w w' :=
  ⟨h.os, h.tape, h.output, h.size, fun k hk => h.block k (by omega) (by omega)⟩

/-- append, by what its run gives. -/
theorem wpList_append_run {P : Program} {w : World} {ops : Array Oper} {rest : List Oper} {o : Oper} {a : Act} {Q : Exit → Act → World → Prop} (hgd : o.guard = none) (s x : Operand) (t : TypeId)
    (ho : o.op = .call { callee := .builtin .append, args := #[s, x], argTypes := #[t, t] }) (v u : Value) (hs : a.eval s = v) (hx : a.eval x = u) (R : Value → World → Prop)
    (hr : ∃ v' w', (Builtin.append_ #[t, t] o.type #[v, u]).run P w = .ok v' w' ∧ R v' w')
    (h : ∀ v' w', R v' w' → wpList P ops Q rest (a.put o.dst v') w') : wpList P ops Q (o :: rest) a w := by
  obtain ⟨v', w', hr, hR⟩ := hr
  refine wpList_plain hgd fun _ hK => ?_
  unfold Oper.wp execOp
  simp only [ho, resolve, invoke, builtin, Sem.run_bind, Sem.run_pure, Result.andThen_ok, List.map_toArray, List.map_cons, List.map_nil, hs, hx, hr]
  exact hK _ _ (h v' w' hR)
theorem Tryd.info178 : (Tryd.prog.info? 178).map (fun i => (i.zero, i.size, i.bytes)) = some (some (.agg #[.string ⟨#[]⟩, .string ⟨#[]⟩]), 2, 32) := by kernel_rfl
/-- append to a slice that is full: a new row. -/
theorem app_grow {w : World} (T E : TypeId) (hT : Tryd.prog.underlying T = some (.slice E)) (hinf : (Tryd.prog.info? E).map (fun i => (i.zero, i.size, i.bytes)) = some (some (.agg #[.string ⟨#[]⟩, .string ⟨#[]⟩]), 2, 32))
    (a : Option Addr) (i m c : Nat) (X : Addr) (olds news : List Value) (hold : (Builtin.firstCells 2 i (.slice a i i)).run Tryd.prog w.drew = .ok olds.toArray w.drew) (hlo : olds.length = i * 2) (hnl : news.length = m * 2)
    (hnews : ∀ j u, news[j]? = some u → w.cell? (X.add j) = some u) (h1 : ∀ u ∈ news, u.oneCell' = true) (hm : 0 < m) (hs : i + m ≤ 100000) (ty : TypeId) :
    ∃ v' w', (Builtin.append_ #[T, T] ty #[.slice a i i, .slice (some X) m c]).run Tryd.prog w = .ok v' w' ∧ w'.ownsRow w.heap.size E 2 v' (i + m) (olds ++ news) ∧ Below w.heap.size w w' := by
  obtain ⟨i0, hi, hz0, hz1, hz2⟩ := info_parts hinf
  have h63 : i + m ≤ maxLen := by unfold maxLen; omega
  have hrun := run_append_grow_src (P := Tryd.prog) w T T ty E i0 (.agg #[.string ⟨#[]⟩, .string ⟨#[]⟩]) hT hi hz0 a i i olds (by rw [hz1]; exact hold) (.slice (some X) m c) m news
    (by rw [hz1]; exact Src.ofSlice w hT X m c news hnl hnews h1) (by omega) (by omega) (by rw [hz2]; exact growslice_fits (by omega) (by omega))
  have hge := grownCap_ge w (i + m) i E
  have hcm := grownCap_le_maxLen w (i + m) i E h63
  have hL : (olds ++ news).length = (i + m) * 2 := by rw [List.length_append, hlo, hnl, Nat.add_mul]
  refine ⟨_, _, hrun, ⟨hL, .inr ⟨w.heap.size, _, _, rfl, Nat.le_refl _, heap_alloc_new w.drew _, hge, hcm, ?_, ?_⟩⟩, ⟨rfl, rfl, rfl, by simp, fun k hk => Below.heap_alloc w.drew _ k hk⟩⟩
  · rw [Array.size_append, List.size_toArray, size_zeroCells, hL]
    show (i + m) * 2 + (grownCap w (i + m) i E - (i + m)) * 2 = _
    omega
  · rw [Array.toList_append, ← hL]
    exact List.take_left
/-- append to what is owned, of whatever rows. -/
theorem app_own {w : World} (T E : TypeId) (hT : Tryd.prog.underlying T = some (.slice E)) (hinf : (Tryd.prog.info? E).map (fun i => (i.zero, i.size, i.bytes)) = some (some (.agg #[.string ⟨#[]⟩, .string ⟨#[]⟩]), 2, 32))
    (base n m c : Nat) (v : Value) (X : Addr) (xs news : List Value) (hown : w.ownsRow base E 2 v n xs) (hnl : news.length = m * 2)
    (hnews : ∀ j u, news[j]? = some u → w.cell? (X.add j) = some u) (h1 : ∀ u ∈ news, u.oneCell' = true) (hs : n + m ≤ 100000) (hb : base ≤ w.heap.size) (ty : TypeId) :
    ∃ v' w', (Builtin.append_ #[T, T] ty #[v, .slice (some X) m c]).run Tryd.prog w = .ok v' w' ∧ w'.ownsRow base E 2 v' (n + m) (xs ++ news) ∧ Below base w w' := by
  obtain ⟨i0, hi, hz0, hz1, hz2⟩ := info_parts hinf
  obtain ⟨v', w', h1, h2, h3, _⟩ := run_append_own (P := Tryd.prog) w base T ty E i0 (.agg #[.string ⟨#[]⟩, .string ⟨#[]⟩]) 2 32 hT hi hz0 hz1 hz2 rfl (by decide) v n xs hown X m c news hnl hnews h1 (by unfold maxLen; omega) (by omega) hb
  exact ⟨v', w', h1, h2, (Below.refl base w).grown h3 hb (fun q hq => (hown.lt q hq).1)⟩
/-- append of nothing. -/
theorem app_none {w : World} (T E : TypeId) (hT : Tryd.prog.underlying T = some (.slice E)) (hinf : (Tryd.prog.info? E).map (fun i => (i.zero, i.size, i.bytes)) = some (some (.agg #[.string ⟨#[]⟩, .string ⟨#[]⟩]), 2, 32))
    (a : Option Addr) (n cap : Nat) (h : n ≤ cap) (X : Option Addr) (c : Nat) (ty : TypeId) :
    (Builtin.append_ #[T, T] ty #[.slice a n cap, .slice X 0 c]).run Tryd.prog w = .ok (.slice a n cap) w := by
  obtain ⟨i0, hi, hz0, hz1, hz2⟩ := info_parts hinf
  refine run_append_nothing w T T ty E i0 hT hi a n cap h _ ?_
  cases X with
  | none => exact Src.ofNil w hT c
  | some x => exact Src.ofSlice w hT x 0 c [] (by simp) (by simp) (by simp)

/-- The rows that stand in between: none, or one. -/
def Mid (w : World) (x : Value) (ol : List Rw) : Prop := (ol = [] ∧ x = .slice none 0 0) ∨ ∃ r X, ol = [r] ∧ x = .slice (some ⟨X, 0, none⟩) 1 1 ∧ w.cell? ⟨X, 0, none⟩ = some (.string (bs r.1)) ∧ w.cell? ⟨X, 1, none⟩ = some (.string (bs r.2))
theorem old_cells {w : World} {a : Option Addr} {c : Nat} {l : List Rw} (h : Rs w (.slice a l.length c) l) {i : Nat} (hi : i ≤ l.length) : (Builtin.firstCells 2 i (.slice a i i)).run Tryd.prog w.drew = .ok (rcs (l.take i)).toArray w.drew := by
  have hlen : (rcs (l.take i)).length = i * 2 := by rw [rcs_len, List.length_take, Nat.min_eq_left hi]
  rcases h with ⟨rfl, e⟩ | ⟨g, cap, cur, t, e, h2, h3, h4, h5⟩
  · simp only [Value.slice.injEq] at e
    obtain ⟨rfl, _, _⟩ := e
    simp at hi
    subst hi
    simp [Builtin.firstCells, rcs]
  · simp only [Value.slice.injEq, true_and] at e
    obtain ⟨rfl, rfl⟩ := e
    refine run_firstCells_some w.drew 2 i ⟨g, 0, none⟩ i i _ hlen fun j u hu => ?_
    have hj : j < i * 2 := by have := (List.getElem?_eq_some_iff.1 hu).1; omega
    have e1 : (rcs l)[j]? = some u := by
      rw [← hu]
      conv => lhs; rw [← List.take_append_drop i l, rcs_append]
      exact List.getElem?_append_left (by omega)
    rw [← h5, List.getElem?_take_of_lt (by omega)] at e1
    rw [Addr.add_mid, Nat.zero_add]
    exact cellB (w := w.drew) (show w.drew.heap[g]? = _ from h2) j u (by simpa using e1)
/-- What stands ahead, and in between. -/
theorem head_run {w : World} {a : Option Addr} {c : Nat} {l : List Rw} (h : Rs w (.slice a l.length c) l) {i : Nat} (hi : i ≤ l.length) (hl : l.length ≤ 16) {x : Value} {ol : List Rw} (hx : Mid w x ol) (T E : TypeId) (hT : Tryd.prog.underlying T = some (.slice E)) (hinf : (Tryd.prog.info? E).map (fun i => (i.zero, i.size, i.bytes)) = some (some (.agg #[.string ⟨#[]⟩, .string ⟨#[]⟩]), 2, 32)) (ty : TypeId) :
    ∃ v' w', (Builtin.append_ #[T, T] ty #[.slice a i i, x]).run Tryd.prog w = .ok v' w' ∧ Below w.heap.size w w' ∧ ol.length ≤ 1 ∧ ∃ a' c', v' = .slice a' (i + ol.length) c' ∧ ((ol = [] ∧ a' = a ∧ c' = i ∧ w' = w) ∨ w'.ownsRow w.heap.size E 2 v' (i + ol.length) (rcs (l.take i ++ ol))) := by
  rcases hx with ⟨rfl, rfl⟩ | ⟨r, X, rfl, rfl, c1, c2⟩
  · exact ⟨_, _, app_none T E hT hinf a i i (Nat.le_refl _) none 0 ty, Below.refl _ _, by decide, a, i, rfl, .inl ⟨rfl, rfl, rfl, rfl⟩⟩
  · obtain ⟨v', w', h1, h2, h3⟩ := app_grow T E hT hinf a i 1 1 ⟨X, 0, none⟩ (rcs (l.take i)) (rcs [r]) (old_cells h hi) (by rw [rcs_len, List.length_take, Nat.min_eq_left hi]) (rcs_len _) (fun j u hu => by
        have hj := (List.getElem?_eq_some_iff.1 hu).1
        rw [rcs_len] at hj
        rw [Addr.add_mid, Nat.zero_add]
        match j, hj with
        | 0, _ => cases hu; exact c1
        | 1, _ => cases hu; exact c2) (rcs_one _) (by decide) (by omega) ty
    rw [← rcs_append] at h2
    obtain ⟨a', c', rfl⟩ := owns_slice h2
    exact ⟨_, _, h1, h3, Nat.le_refl _, a', c', rfl, .inr h2⟩
theorem Rs.take {w : World} {a : Option Addr} {c : Nat} {l : List Rw} (h : Rs w (.slice a l.length c) l) {i : Nat} (hi : i ≤ l.length) : Rs w (.slice a i i) (l.take i) := by
  rcases h with ⟨rfl, e⟩ | ⟨g, cap, cur, t, e, h2, h3, h4, h5⟩
  · simp only [Value.slice.injEq] at e
    obtain ⟨rfl, _, _⟩ := e
    simp at hi
    subst hi
    exact .inl ⟨rfl, rfl⟩
  · simp only [Value.slice.injEq, true_and] at e
    obtain ⟨rfl, rfl⟩ := e
    have hlen : (l.take i).length = i := by rw [List.length_take, Nat.min_eq_left hi]
    refine .inr ⟨g, i, cur, t, by rw [hlen], h2, by omega, by omega, ?_⟩
    rw [hlen]
    have e1 : rcs (l.take i) = (rcs l).take (i * 2) := by
      conv => rhs; rw [← List.take_append_drop i l, rcs_append]
      rw [List.take_left' (by rw [rcs_len, hlen])]
    rw [e1, ← h5, List.take_take, Nat.min_eq_left (by omega)]
theorem rest_cells {w : World} {g c : Nat} {l : List Rw} (h : Rs w (.slice (some ⟨g, 0, none⟩) l.length c) l) {j : Nat} (hj : j ≤ l.length) : ∀ n u, (rcs (l.drop j))[n]? = some u → w.cell? ((⟨g, j * 2, none⟩ : Addr).add n) = some u := by
  intro n u hu
  rcases h with ⟨rfl, e⟩ | ⟨g', cap, cur, t, e, h2, h3, h4, h5⟩
  · simp at e
  · simp only [Value.slice.injEq, true_and, Option.some.injEq, Addr.mk.injEq, and_true] at e
    obtain ⟨rfl, rfl⟩ := e
    have hn := (List.getElem?_eq_some_iff.1 hu).1
    rw [rcs_len, List.length_drop] at hn
    have e1 : (rcs l)[j * 2 + n]? = some u := by
      rw [← hu]
      conv => lhs; rw [← List.take_append_drop j l, rcs_append]
      rw [List.getElem?_append_right (by rw [rcs_len, List.length_take, Nat.min_eq_left hj]; omega), rcs_len, List.length_take, Nat.min_eq_left hj, show j * 2 + n - j * 2 = n by omega]
    rw [← h5, List.getElem?_take_of_lt (by omega)] at e1
    rw [Addr.add_mid]
    exact cellB h2 _ u (by simpa using e1)
/-- What stands behind. -/
theorem tail_run {w w1 : World} {a a' : Option Addr} {c c' i j : Nat} {l ol : List Rw} (h : Rs w (.slice a l.length c) l) (hi : i ≤ l.length) (hj : j ≤ l.length) (hl : l.length ≤ 16) (hol : ol.length ≤ 1) (hB : Below w.heap.size w w1)
    (T E : TypeId) (hT : Tryd.prog.underlying T = some (.slice E)) (hinf : (Tryd.prog.info? E).map (fun i => (i.zero, i.size, i.bytes)) = some (some (.agg #[.string ⟨#[]⟩, .string ⟨#[]⟩]), 2, 32))
    (hh : (ol = [] ∧ a' = a ∧ c' = i ∧ w1 = w) ∨ w1.ownsRow w.heap.size E 2 (.slice a' (i + ol.length) c') (i + ol.length) (rcs (l.take i ++ ol)))
    (X : Option Addr) (hX : l.length = j ∨ ∃ g, a = some ⟨g, 0, none⟩ ∧ X = some ⟨g, j * 2, none⟩) (cc : Nat) (ty : TypeId) :
    ∃ v2 w2, (Builtin.append_ #[T, T] ty #[.slice a' (i + ol.length) c', .slice X (l.length - j) cc]).run Tryd.prog w1 = .ok v2 w2 ∧ Below w.heap.size w1 w2 ∧ Rs w2 v2 (l.take i ++ ol ++ l.drop j) ∧
      (∀ k, v2.ownBlock = some k → (Value.slice a l.length c).ownBlock = some k ∨ w.heap.size ≤ k) ∧ ∃ a2 n2 c2, v2 = .slice a2 n2 c2 := by
  have hlen : (l.take i ++ ol).length = i + ol.length := by rw [List.length_append, List.length_take, Nat.min_eq_left hi]
  have hown : ∀ {w2 : World} {v2 : Value} {n : Nat} {xs : List Value}, w2.ownsRow w.heap.size E 2 v2 n xs → ∀ k, v2.ownBlock = some k → (Value.slice a l.length c).ownBlock = some k ∨ w.heap.size ≤ k := fun h k hk => .inr ((h.lt k hk).1)
  by_cases h0 : l.length - j = 0
  · have hd : l.drop j = [] := List.drop_eq_nil_of_le (by omega)
    rw [h0, hd, List.append_nil]
    rcases hh with ⟨rfl, rfl, rfl, rfl⟩ | hh
    · refine ⟨_, _, app_none T E hT hinf _ _ _ (Nat.le_refl _) X cc ty, Below.refl _ _, ?_, fun k hk => .inl ?_, _, _, _, rfl⟩
      · rw [List.append_nil]
        exact h.take hi
      · cases a'
        · cases hk
        · exact hk
    · have hle : i + ol.length ≤ c' := by
        rcases hh.2 with ⟨e, h0⟩ | ⟨g, cap, cur, e, _, _, hc, _⟩
        · simp only [Value.slice.injEq] at e
          omega
        · simp only [Value.slice.injEq] at e
          omega
      refine ⟨_, _, app_none T E hT hinf _ _ _ hle X cc ty, Below.refl _ _, ?_, hown hh, _, _, _, rfl⟩
      rw [← hlen] at hh ⊢
      exact Rs.of_owns hh
  · obtain ⟨g, rfl, rfl⟩ : ∃ g, a = some ⟨g, 0, none⟩ ∧ X = some ⟨g, j * 2, none⟩ := by
      rcases hX with hX | hX
      · omega
      · exact hX
    have hlt := h.lt g rfl
    have hnews : ∀ n u, (rcs (l.drop j))[n]? = some u → w1.cell? ((⟨g, j * 2, none⟩ : Addr).add n) = some u := fun n u hu => by
      have := rest_cells h hj n u hu
      rw [Addr.add_mid] at this ⊢
      exact (hB.cell (p := ⟨g, j * 2 + n, none⟩) hlt).trans this
    have hnl : (rcs (l.drop j)).length = (l.length - j) * 2 := by rw [rcs_len, List.length_drop]
    have hall : (l.take i ++ ol ++ l.drop j).length = i + ol.length + (l.length - j) := by rw [List.length_append, hlen, List.length_drop]
    rcases hh with ⟨rfl, rfl, rfl, rfl⟩ | hh
    · obtain ⟨v', w', h1, h2, h3⟩ := app_grow T E hT hinf (some ⟨g, 0, none⟩) c' (l.length - j) cc ⟨g, j * 2, none⟩ (rcs (l.take c')) (rcs (l.drop j)) (old_cells h hi) (by rw [rcs_len, List.length_take, Nat.min_eq_left hi]) hnl hnews (rcs_one _) (by omega) (by omega) ty
      rw [← rcs_append] at h2
      obtain ⟨a2, c2, e⟩ := owns_slice h2
      refine ⟨v', w', h1, h3, ?_, hown h2, _, _, _, e⟩
      rw [List.append_nil]
      rw [List.append_nil, List.length_nil, Nat.add_zero] at hall
      rw [← hall] at h2
      exact Rs.of_owns h2
    · obtain ⟨v', w', h1, h2, h3⟩ := app_own T E hT hinf w.heap.size (i + ol.length) (l.length - j) cc _ ⟨g, j * 2, none⟩ _ (rcs (l.drop j)) hh hnl hnews (rcs_one _) (by omega) hB.size ty
      rw [← rcs_append] at h2
      obtain ⟨a2, c2, e⟩ := owns_slice h2
      refine ⟨v', w', h1, h3, ?_, hown h2, _, _, _, e⟩
      rw [← hall] at h2
      exact Rs.of_owns h2
end Go.Proofs.YtihilkdokfdoeaaDoor
