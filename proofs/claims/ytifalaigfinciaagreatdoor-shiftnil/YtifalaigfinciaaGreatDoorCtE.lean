import Derived.Test.YtifalaigfinciaaGreatDoorCtC
import Derived.Laws.AppendOwnNone
namespace Go.Proofs.YtifalaigfinciaaGreatDoor
open Go.RowKit
attribute [local go_sem ↓] Go.wp_at_zero Go.wp_at_succ

/-- v is a slice of just these tags, its room no less. -/
def Tp (w : World) (v : Value) (l : List Tg) : Prop :=
  (l = [] ∧ v = .slice none 0 0) ∨ (l = [] ∧ ∃ a cap, v = .slice (some a) 0 cap) ∨
    ∃ b o cap, v = .slice (some ⟨b, o, none⟩) l.length cap ∧ l.length ≤ cap ∧ b < w.heap.size ∧ ∀ (i : Nat) t, l[i]? = some t → w.cell? ⟨b, o + i * 2, none⟩ = some (.int .i64 t.1) ∧ w.cell? ⟨b, o + i * 2 + 1, none⟩ = some (.string (bs t.2))
theorem Tp.tl {w : World} {v : Value} {l : List Tg} (h : Tp w v l) : Tl w v l := by
  rcases h with ⟨rfl, rfl⟩ | ⟨rfl, a, cap, rfl⟩ | ⟨b, o, cap, h1, _, h2⟩
  · exact .inl ⟨rfl, none, 0, rfl⟩
  · exact .inl ⟨rfl, some a, cap, rfl⟩
  · exact .inr ⟨b, o, cap, h1, h2⟩
theorem Tp.below {w w' : World} {v : Value} {l : List Tg} (h : Tp w v l) {B : Nat} (hb : Below B w w') (hB : w.heap.size ≤ B) : Tp w' v l := by
  rcases h with h | h | ⟨b, o, cap, rfl, hc, hlt, h⟩
  · exact .inl h
  · exact .inr (.inl h)
  · exact .inr <| .inr ⟨b, o, cap, rfl, hc, Nat.lt_of_lt_of_le hlt hb.size, fun i t ht => ⟨(hb.cell (p := ⟨b, o + i * 2, none⟩) (by show b < B; omega)).trans (h i t ht).1, (hb.cell (p := ⟨b, o + i * 2 + 1, none⟩) (by show b < B; omega)).trans (h i t ht).2⟩⟩
theorem Tp.nil (w : World) : Tp w (.slice none 0 0) [] := .inl ⟨rfl, rfl⟩
/-- Tags as cells. -/
def tcs (l : List Tg) : List Value := l.flatMap fun t => [.int .i64 t.1, .string (bs t.2)]
theorem tcs_len (l : List Tg) : (tcs l).length = l.length * 2 := by
  induction l with
  | nil => rfl
  | cons t r ih => simp only [tcs, List.flatMap_cons, List.length_append, List.length_cons, List.length_nil] at ih ⊢; omega
theorem tcs_append (a b : List Tg) : tcs (a ++ b) = tcs a ++ tcs b := by simp [tcs]
theorem tcs_at (l : List Tg) (i : Nat) (t : Tg) (h : l[i]? = some t) : (tcs l)[i * 2]? = some (.int .i64 t.1) ∧ (tcs l)[i * 2 + 1]? = some (.string (bs t.2)) := by
  induction l generalizing i with
  | nil => cases h
  | cons a r ih =>
    have e : tcs (a :: r) = .int .i64 a.1 :: .string (bs a.2) :: tcs r := rfl
    rw [e]
    cases i with
    | zero => simp at h; subst h; exact ⟨rfl, rfl⟩
    | succ i =>
      have := ih i (by simpa using h)
      rw [show (i + 1) * 2 = i * 2 + 1 + 1 from by omega]
      simpa using this
theorem tcs_back (l : List Tg) (j : Nat) (u : Value) (h : (tcs l)[j]? = some u) : ∃ i t, l[i]? = some t ∧ ((j = i * 2 ∧ u = .int .i64 t.1) ∨ (j = i * 2 + 1 ∧ u = .string (bs t.2))) := by
  have hj : j < (tcs l).length := (List.getElem?_eq_some_iff.1 h).1
  rw [tcs_len] at hj
  obtain ⟨t, ht⟩ : ∃ t, l[j / 2]? = some t := ⟨_, List.getElem?_eq_getElem (by omega)⟩
  have h2 := tcs_at l (j / 2) t ht
  rcases Nat.mod_two_eq_zero_or_one j with e | e
  · refine ⟨j / 2, t, ht, .inl ⟨by omega, ?_⟩⟩
    rw [show j / 2 * 2 = j from by omega, h] at h2
    exact Option.some.inj h2.1
  · refine ⟨j / 2, t, ht, .inr ⟨by omega, ?_⟩⟩
    rw [show j / 2 * 2 + 1 = j from by omega, h] at h2
    exact Option.some.inj h2.2
theorem tcs_one (l : List Tg) : ∀ u ∈ tcs l, u.oneCell' = true := by
  intro u hu
  obtain ⟨j, hj⟩ := List.mem_iff_getElem?.1 hu
  obtain ⟨i, t, _, ⟨_, rfl⟩ | ⟨_, rfl⟩⟩ := tcs_back l j u hj <;> rfl
theorem Tp.of_owns {w : World} {v : Value} {l : List Tg} {base : Nat} {e : TypeId} (h : w.ownsRow base e 2 v l.length (tcs l)) : Tp w v l := by
  obtain ⟨hl, h⟩ := h
  rcases h with ⟨rfl, h0⟩ | ⟨g, cap, cur, rfl, hb, hh, h1, h2, h3, h4⟩
  · exact .inl ⟨List.length_eq_zero_iff.1 h0, rfl⟩
  · refine .inr <| .inr ⟨g, 0, cap, rfl, h1, (Array.getElem?_eq_some_iff.1 hh).1, fun i t ht => ?_⟩
    have hi : i < l.length := (List.getElem?_eq_some_iff.1 ht).1
    obtain ⟨e1, e2⟩ := tcs_at l i t ht
    rw [← h4, List.getElem?_take_of_lt (by omega)] at e1 e2
    simp only [World.cell?, hh, Nat.zero_add]
    exact ⟨by simpa using e1, by simpa using e2⟩

theorem Tryz.info82 : (Tryz.prog.info? 82).map (fun i => (i.zero, i.size, i.bytes)) = some (some (.agg #[.int .i64 0, .string ⟨#[]⟩]), 2, 24) := by kernel_rfl

/-- append(own, tags...), whatever the tags' slice is. -/
theorem wpList_append_tags {w : World} {ops : Array Oper} {rest : List Oper} {o : Oper} {a : Act} {Q : Exit → Act → World → Prop} (T E : TypeId) (hT : Tryz.prog.underlying T = some (.slice E))
    (hinf : (Tryz.prog.info? E).map (fun i => (i.zero, i.size, i.bytes)) = some (some (.agg #[.int .i64 0, .string ⟨#[]⟩]), 2, 24)) (hgd : o.guard = none) (s x : Operand)
    (ho : o.op = .call { callee := .builtin .append, args := #[s, x], argTypes := #[T, T] }) (base : Nat) (v : Value) (n : Nat) (xs : List Value) (hs : a.eval s = v) (hown : w.ownsRow base E 2 v n xs)
    (u : Value) (l : List Tg) (hx : a.eval x = u) (hu : Tp w u l) (hn : n + l.length ≤ 1000000) (hbase : base ≤ w.heap.size)
    (h : ∀ v' w', w'.ownsRow base E 2 v' (n + l.length) (xs ++ tcs l) → Below base w w' → wpList Tryz.prog ops Q rest (a.put o.dst v') w') : wpList Tryz.prog ops Q (o :: rest) a w := by
  obtain ⟨i0, hi, hz0, hz1, hz2⟩ := info_parts hinf
  rcases hu with ⟨rfl, rfl⟩ | ⟨rfl, ad, cap, rfl⟩ | ⟨b, off, cap, rfl, hcap, hlt, hc⟩
  · refine wpList_append_own_none hgd s x T ho base E i0 2 hT hi v n xs hs hown hx (h v w ?_ (Below.refl _ _))
    simpa [tcs] using hown
  · refine wpList_append_own w hgd s x T ho base E i0 (.agg #[.int .i64 0, .string ⟨#[]⟩]) 2 24 hT hi hz0 hz1 hz2 rfl (by decide) v n xs hs hown ad 0 cap [] hx rfl (by simp) (by simp) (by unfold maxLen; omega) (by omega) hbase ?_
    intro v' w' h1 h2 _
    exact h v' w' h1 ((Below.refl base w).grown h2 hbase (fun q hq => (hown.lt q hq).1))
  · refine wpList_append_own w hgd s x T ho base E i0 (.agg #[.int .i64 0, .string ⟨#[]⟩]) 2 24 hT hi hz0 hz1 hz2 rfl (by decide) v n xs hs hown ⟨b, off, none⟩ l.length cap (tcs l) hx (tcs_len l) ?_ (tcs_one l) (by unfold maxLen; omega) (by omega) hbase ?_
    · intro j y hy
      rw [Addr.add_mid]
      obtain ⟨i, t, ht, ⟨rfl, rfl⟩ | ⟨rfl, rfl⟩⟩ := tcs_back l j y hy
      · exact (hc i t ht).1
      · exact (hc i t ht).2
    · intro v' w' h1 h2 _
      exact h v' w' h1 ((Below.refl base w).grown h2 hbase (fun q hq => (hown.lt q hq).1))

/-- A tag more at its place. -/
def insT (n : Int) (t : List UInt8) (l : List Tg) : List Tg := (l.takeWhile fun a => decide (a.1 < n)) ++ (n, t) :: (l.dropWhile fun a => decide (a.1 < n))
theorem tags_sorted {z : Int} {l : List Tg} (h : tagsF z l = 0) : (∀ t ∈ l, z < t.1) ∧ l.Pairwise (fun a b => a.1 < b.1) := by
  induction l generalizing z with
  | nil => exact ⟨fun t ht => (by cases ht), List.Pairwise.nil⟩
  | cons t r ih =>
    obtain ⟨n, s⟩ := t
    rw [tagsF] at h
    split at h
    · cases h
    split at h
    · cases h
    split at h
    · cases h
    rename_i h1 h2 h3
    obtain ⟨i1, i2⟩ := ih h
    refine ⟨fun t ht => ?_, List.Pairwise.cons (fun t ht => i1 t ht) i2⟩
    rcases List.mem_cons.1 ht with rfl | ht
    · show z < n; omega
    · have := i1 t ht; omega
theorem place_at {n : Int} : ∀ {l : List Tg} {k : Nat}, (∀ t ∈ l.take k, t.1 < n) → k ≤ l.length → (k = l.length ∨ ∃ t, l[k]? = some t ∧ n ≤ t.1) →
    (l.takeWhile fun a => decide (a.1 < n)) = l.take k ∧ (l.dropWhile fun a => decide (a.1 < n)) = l.drop k
  | [], k, _, hk, _ => by simp at hk; subst hk; simp
  | a :: l, 0, _, _, h => by
    rcases h with h | ⟨t, ht, hn⟩
    · simp at h
    · simp at ht; subst ht
      have : decide (a.1 < n) = false := by simp; omega
      simp [this]
  | a :: l, k + 1, h, hk, h2 => by
    have ha : a.1 < n := h a (by simp)
    have hd : decide (a.1 < n) = true := by simpa using ha
    obtain ⟨i1, i2⟩ := place_at (l := l) (k := k) (fun t ht => h t (by simp [ht])) (by simpa using hk) (by simpa using h2)
    simp [hd, i1, i2]
theorem place_mem {n : Int} {l : List Tg} {k : Nat} (hs : l.Pairwise (fun a b => a.1 < b.1)) (h : ∀ t ∈ l.take k, t.1 < n) (hk : k ≤ l.length) (h2 : k = l.length ∨ ∃ t, l[k]? = some t ∧ n < t.1) : n ∉ l.map (·.1) := by
  intro hm
  obtain ⟨t, ht, rfl⟩ := List.mem_map.1 hm
  rw [← List.take_append_drop k l] at ht hs
  rcases List.mem_append.1 ht with ht | ht
  · have := h t ht; omega
  · rcases h2 with rfl | ⟨t', ht', hn⟩
    · simp at ht
    · have hlt : k < l.length := (List.getElem?_eq_some_iff.1 ht').1
      rw [List.drop_eq_getElem_cons hlt] at ht hs
      have e : l[k] = t' := by rw [List.getElem?_eq_getElem hlt] at ht'; exact Option.some.inj ht'
      rw [e] at ht hs
      rcases List.mem_cons.1 ht with rfl | ht
      · omega
      · have := (List.pairwise_cons.1 (List.pairwise_append.1 hs).2.1).1 t ht
        omega
theorem cell_block {w : World} {B : Nat} {cs : Array Value} {t : TypeId} {fr : Nat × Nat} (h : w.heap[B]? = some (.cells cs t fr)) (j : Nat) (u : Value) (hu : cs[j]? = some u) : w.cell? ⟨B, j, none⟩ = some u := by
  unfold World.cell?; simp only [h]; exact hu
theorem frozen_block {w : World} {B : Nat} {cs : Array Value} {t : TypeId} (h : w.heap[B]? = some (.cells cs t)) (j : Nat) : w.frozen? ⟨B, j, none⟩ = false := by
  unfold World.frozen?; simp [h]
theorem set1 {w : World} {B : Nat} {cs : Array Value} {t : TypeId} {fr : Nat × Nat} (h : w.heap[B]? = some (.cells cs t fr)) (j : Nat) (a : Value) :
    (w.setCell ⟨B, j, none⟩ a).heap[B]? = some (.cells (cs.setIfInBounds j a) t fr) := by
  unfold World.setCell
  simp only [Array.getElem?_modify, if_true, h, Option.map_some]
  rfl
theorem set3 {w : World} {B : Nat} {p q r : Value} {t : TypeId} (h : w.heap[B]? = some (.cells #[p, q, r] t)) (a b c : Value) :
    (((w.setCell ⟨B, 0, none⟩ a).setCell ⟨B, 1, none⟩ b).setCell ⟨B, 2, none⟩ c).heap[B]? = some (.cells #[a, b, c] t) :=
  set1 (set1 (set1 h 0 a) 1 b) 2 c
theorem owns_set {w : World} {base n : Nat} {e : TypeId} {s : Nat} {v : Value} {xs : List Value} (h : w.ownsRow base e s v n xs) {B : Nat} (hB : B < base) (j : Nat) (u : Value) : (w.setCell ⟨B, j, none⟩ u).ownsRow base e s v n xs := by
  obtain ⟨hl, h | ⟨g, cap, cur, h1, h2, h3, h4⟩⟩ := h
  · exact ⟨hl, .inl h⟩
  · exact ⟨hl, .inr ⟨g, cap, cur, h1, h2, (Below.heap_setCell _ _ _ _ (by show g ≠ B; omega)).trans h3, h4⟩⟩
theorem Tp.some3 {w : World} {b o cap : Nat} {l : List Tg} (h : Tp w (.slice (some ⟨b, o, none⟩) l.length cap) l) (hl : 0 < l.length) : l.length ≤ cap ∧ b < w.heap.size ∧ ∀ (i : Nat) t, l[i]? = some t → w.cell? ⟨b, o + i * 2, none⟩ = some (.int .i64 t.1) ∧ w.cell? ⟨b, o + i * 2 + 1, none⟩ = some (.string (bs t.2)) := by
  rcases h with ⟨rfl, _⟩ | ⟨rfl, _⟩ | ⟨b', o', cap', h1, h2, h3, h4⟩
  · simp at hl
  · simp at hl
  · injection h1 with h1 _ h5
    injection h1 with h1
    injection h1 with h6 h7
    subst h5 h6 h7
    exact ⟨h2, h3, h4⟩
theorem Tp.take {w : World} {b o cap : Nat} {l : List Tg} (h : Tp w (.slice (some ⟨b, o, none⟩) l.length cap) l) (hl : 0 < l.length) (k : Nat) (hk : k ≤ l.length) : Tp w (.slice (some ⟨b, o, none⟩) k cap) (l.take k) := by
  obtain ⟨h1, h2, h3⟩ := h.some3 hl
  refine .inr <| .inr ⟨b, o, cap, by rw [List.length_take, Nat.min_eq_left hk], by rw [List.length_take]; omega, h2, fun i t ht => h3 i t ?_⟩
  rw [List.getElem?_take] at ht
  split at ht
  · exact ht
  · cases ht
theorem Tp.drop {w : World} {b o cap : Nat} {l : List Tg} (h : Tp w (.slice (some ⟨b, o, none⟩) l.length cap) l) (hl : 0 < l.length) (k : Nat) (hk : k ≤ l.length) : Tp w (.slice (some ⟨b, o + k * 2, none⟩) (l.length - k) (cap - k)) (l.drop k) := by
  obtain ⟨h1, h2, h3⟩ := h.some3 hl
  refine .inr <| .inr ⟨b, o + k * 2, cap - k, by rw [List.length_drop], by rw [List.length_drop]; omega, h2, fun i t ht => ?_⟩
  rw [List.getElem?_drop] at ht
  have := h3 (k + i) t ht
  rw [show o + k * 2 + i * 2 = o + (k + i) * 2 from by omega]
  exact this
theorem Tp.mt (w : World) (a : Addr) (cap : Nat) : Tp w (.slice (some a) 0 cap) [] := .inr (.inl ⟨rfl, a, cap, rfl⟩)
theorem Tp_new (w : World) (n : Int) (t : List UInt8) (e : TypeId) : Tp (w.alloc (.cells #[.int .i64 n, .string (bs t)] e)) (.slice (some ⟨w.heap.size, 0, none⟩) 1 1) [(n, t)] := by
  refine .inr <| .inr ⟨w.heap.size, 0, 1, rfl, Nat.le_refl _, by simp, fun i a ha => ?_⟩
  have hh := heap_alloc_new w (.cells #[.int .i64 n, .string (bs t)] e)
  match i, ha with
  | 0, ha =>
    simp at ha; subst ha
    exact ⟨cell_block hh 0 _ rfl, cell_block hh 1 _ rfl⟩
  | i + 1, ha => simp at ha
theorem cell_new (w : World) (cs : Array Value) (t : TypeId) (j : Nat) (u : Value) (h : cs[j]? = some u) (B : Nat) (hB : w.heap.size = B) : (w.alloc (.cells cs t)).cell? ⟨B, j, none⟩ = some u := by
  subst hB
  have hh := heap_alloc_new w (.cells cs t)
  unfold World.cell?
  simp only [hh]
  exact h
end Go.Proofs.YtifalaigfinciaaGreatDoor
