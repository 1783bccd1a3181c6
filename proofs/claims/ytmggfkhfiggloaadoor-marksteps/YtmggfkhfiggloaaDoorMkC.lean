/- Marks in memory; New, Of, textOf, clone, Stable, walked. -/
import Derived.Test.YtmggfkhfiggloaaDoorMkB
import Derived.Laws.AppendOwnNone
namespace Go.Proofs.YtmggfkhfiggloaaDoor
open Go.RowKit
attribute [local go_sem ↓] Go.wp_at_zero Go.wp_at_succ

theorem owns_kept {w w' : World} {base n : Nat} {e : TypeId} {s : Nat} {v : Value} {xs : List Value} (h : w.ownsRow base e s v n xs) (hk : ∀ k, v.ownBlock = some k → w'.heap[k]? = w.heap[k]?) : w'.ownsRow base e s v n xs := by
  obtain ⟨hl, h | ⟨g, cap, cur, rfl, h2, h3, h4⟩⟩ := h
  · exact ⟨hl, .inl h⟩
  · exact ⟨hl, .inr ⟨g, cap, cur, rfl, h2, (hk g rfl).trans h3, h4⟩⟩
theorem owns_next {w w' : World} {base n : Nat} {e : TypeId} {s : Nat} {v : Value} {xs : List Value} (h : w.ownsRow base e s v n xs) (hb : Below w.heap.size w w') : w'.ownsRow base e s v n xs := owns_kept h (fun k hk => hb.block k (h.lt k hk).2)
theorem owns_base {w : World} {base base' n : Nat} {e : TypeId} {s : Nat} {v : Value} {xs : List Value} (h : w.ownsRow base e s v n xs) (hb : base' ≤ base) : w.ownsRow base' e s v n xs := by
  obtain ⟨hl, h | ⟨g, cap, cur, rfl, h2, h3⟩⟩ := h
  · exact ⟨hl, .inl h⟩
  · exact ⟨hl, .inr ⟨g, cap, cur, rfl, Nat.le_trans hb h2, h3⟩⟩
/-- What a call on one object leaves: all blocks but the object's own are as they were. -/
structure Mv (B : Nat) (w w' : World) : Prop where
  os : w'.os = w.os
  tape : w'.tape = w.tape
  output : w'.output = w.output
  size : w.heap.size ≤ w'.heap.size
  block : ∀ k, k < w.heap.size → k ≠ B → w'.heap[k]? = w.heap[k]?
theorem Mv.refl (B : Nat) (w : World) : Mv B w w := ⟨rfl, rfl, rfl, Nat.le_refl _, fun _ _ _ => rfl⟩
theorem Mv.of_below {w w' : World} (h : Below w.heap.size w w') (B : Nat) : Mv B w w' := ⟨h.os, h.tape, h.output, h.size, fun k hk _ => h.block k hk⟩
theorem Mv.trans {B : Nat} {w w1 w2 : World} (h : Mv B w w1) (k : Mv B w1 w2) : Mv B w w2 :=
  ⟨k.os.trans h.os, k.tape.trans h.tape, k.output.trans h.output, Nat.le_trans h.size k.size, fun i hi h1 => (k.block i (Nat.lt_of_lt_of_le hi h.size) h1).trans (h.block i hi h1)⟩
theorem Mv.below {B b : Nat} {w w' : World} (h : Mv B w w') (hB : b ≤ B) (hb : b ≤ w.heap.size) : Below b w w' :=
  ⟨h.os, h.tape, h.output, h.size, fun k hk => h.block k (by omega) (by omega)⟩
theorem Mv.far {B k : Nat} {w w' : World} (hm : Mv B w w') (hk : k < w.heap.size) (h1 : k ≠ B) {o : Obj} (ho : w.heap[k]? = some o) : w'.heap[k]? = some o := (hm.block k hk h1).trans ho

/-- A tag: a replica's number, its text. -/
abbrev Tg := Int × List UInt8
/-- v is a slice of just these tags, its room no less. -/
def Tp (w : World) (v : Value) (l : List Tg) : Prop :=
  (l = [] ∧ v = .slice none 0 0) ∨ (l = [] ∧ ∃ a cap, v = .slice (some a) 0 cap) ∨
    ∃ b o cap, v = .slice (some ⟨b, o, none⟩) l.length cap ∧ l.length ≤ cap ∧ b < w.heap.size ∧ ∀ (i : Nat) t, l[i]? = some t → w.cell? ⟨b, o + i * 2, none⟩ = some (.int .i64 t.1) ∧ w.cell? ⟨b, o + i * 2 + 1, none⟩ = some (.string (bs t.2))
theorem Tp.slice {w : World} {v : Value} {l : List Tg} (h : Tp w v l) : ∃ a c, v = .slice a l.length c := by
  rcases h with ⟨rfl, rfl⟩ | ⟨rfl, a, cap, rfl⟩ | ⟨b, o, cap, rfl, _⟩
  · exact ⟨_, _, rfl⟩
  · exact ⟨_, _, rfl⟩
  · exact ⟨_, _, rfl⟩
theorem Tp.keep {w w' : World} {v : Value} {l : List Tg} (h : Tp w v l) (hs : w.heap.size ≤ w'.heap.size) (hk : ∀ k, v.ownBlock = some k → l ≠ [] → k < w.heap.size → w'.heap[k]? = w.heap[k]?) : Tp w' v l := by
  rcases h with h | h | ⟨b, o, cap, rfl, hc, hlt, h⟩
  · exact .inl h
  · exact .inr (.inl h)
  · refine .inr <| .inr ⟨b, o, cap, rfl, hc, Nat.lt_of_lt_of_le hlt hs, fun i t ht => ?_⟩
    have e := hk b rfl (by rintro rfl; cases ht) hlt
    exact ⟨(World.cell?_of_block (w := w) (a := ⟨b, o + i * 2, none⟩) e).trans (h i t ht).1, (World.cell?_of_block (w := w) (a := ⟨b, o + i * 2 + 1, none⟩) e).trans (h i t ht).2⟩
theorem Tp.on {w w' : World} {v : Value} {l : List Tg} (h : Tp w v l) (hb : Below w.heap.size w w') : Tp w' v l := h.keep hb.size (fun k _ _ hlt => hb.block k hlt)
theorem Tp.nil (w : World) : Tp w (.slice none 0 0) [] := .inl ⟨rfl, rfl⟩
/-- Tags as cells. -/
def tcs (l : List Tg) : List Value := l.flatMap fun t => [.int .i64 t.1, .string (bs t.2)]
theorem tcs_cons (a : Tg) (l : List Tg) : tcs (a :: l) = .int .i64 a.1 :: .string (bs a.2) :: tcs l := rfl
theorem tcs_len (l : List Tg) : (tcs l).length = l.length * 2 := by
  induction l with
  | nil => rfl
  | cons t r ih => rw [tcs_cons]; simp only [List.length_cons, ih]; omega
theorem tcs_append (a b : List Tg) : tcs (a ++ b) = tcs a ++ tcs b := by simp [tcs]
theorem tcs_at (l : List Tg) (i : Nat) (t : Tg) (h : l[i]? = some t) : (tcs l)[i * 2]? = some (.int .i64 t.1) ∧ (tcs l)[i * 2 + 1]? = some (.string (bs t.2)) := by
  induction l generalizing i with
  | nil => cases h
  | cons a r ih =>
    rw [tcs_cons]
    cases i with
    | zero => simp at h; subst h; exact ⟨rfl, rfl⟩
    | succ i =>
      have := ih i (by simpa using h)
      rw [show (i + 1) * 2 = i * 2 + 1 + 1 from by omega]
      simpa using this
theorem tcs_back (l : List Tg) (j : Nat) (u : Value) (h : (tcs l)[j]? = some u) : ∃ i t, l[i]? = some t ∧ ((j = i * 2 ∧ u = .int .i64 t.1) ∨ (j = i * 2 + 1 ∧ u = .string (bs t.2))) := by
  have hj : j < (tcs l).length := (List.getElem?_eq_some_iff.1 h).1
  rw [tcs_len] at hj
  obtain ⟨t, ht⟩ : ∃ t, l[j / 2]? = some t := ⟨_, List.getElem?_eq_getElem (by omega)⟩
  have h2 := tcs_at l (j / 2) t ht
  rcases Nat.mod_two_eq_zero_or_one j with e | e
  · refine ⟨j / 2, t, ht, .inl ⟨by omega, ?_⟩⟩
    rw [show j / 2 * 2 = j from by omega, h] at h2
    exact Option.some.inj h2.1
  · refine ⟨j / 2, t, ht, .inr ⟨by omega, ?_⟩⟩
    rw [show j / 2 * 2 + 1 = j from by omega, h] at h2
    exact Option.some.inj h2.2
theorem tcs_one (l : List Tg) : ∀ u ∈ tcs l, u.oneCell' = true := by
  intro u hu
  obtain ⟨j, hj⟩ := List.mem_iff_getElem?.1 hu
  obtain ⟨i, t, _, ⟨_, rfl⟩ | ⟨_, rfl⟩⟩ := tcs_back l j u hj <;> rfl
theorem Tp.of_owns {w : World} {v : Value} {l : List Tg} {base : Nat} {e : TypeId} (h : w.ownsRow base e 2 v l.length (tcs l)) : Tp w v l := by
  obtain ⟨hl, h⟩ := h
  rcases h with ⟨rfl, h0⟩ | ⟨g, cap, cur, rfl, hb, hh, h1, h2, h3, h4⟩
  · exact .inl ⟨List.length_eq_zero_iff.1 h0, rfl⟩
  · refine .inr <| .inr ⟨g, 0, cap, rfl, h1, (Array.getElem?_eq_some_iff.1 hh).1, fun i t ht => ?_⟩
    have hi : i < l.length := (List.getElem?_eq_some_iff.1 ht).1
    obtain ⟨e1, e2⟩ := tcs_at l i t ht
    rw [← h4, List.getElem?_take_of_lt (by omega)] at e1 e2
    simp only [World.cell?, hh, Nat.zero_add]
    exact ⟨by simpa using e1, by simpa using e2⟩
theorem Tryd.info94 : (Tryd.prog.info? 94).map (fun i => (i.zero, i.size, i.bytes)) = some (some (.agg #[.int .i64 0, .string ⟨#[]⟩]), 2, 24) := by kernel_rfl
/-- append(own, tags...), whatever the tags' slice is. -/
theorem wpList_append_tags {w : World} {ops : Array Oper} {rest : List Oper} {o : Oper} {a : Act} {Q : Exit → Act → World → Prop} (T E : TypeId) (hT : Tryd.prog.underlying T = some (.slice E))
    (hinf : (Tryd.prog.info? E).map (fun i => (i.zero, i.size, i.bytes)) = some (some (.agg #[.int .i64 0, .string ⟨#[]⟩]), 2, 24)) (hgd : o.guard = none) (s x : Operand)
    (ho : o.op = .call { callee := .builtin .append, args := #[s, x], argTypes := #[T, T] }) (base : Nat) (v : Value) (n : Nat) (xs : List Value) (hs : a.eval s = v) (hown : w.ownsRow base E 2 v n xs)
    (u : Value) (l : List Tg) (hx : a.eval x = u) (hu : Tp w u l) (hn : (n + l.length) * 24 ≤ 140737488355328) (hbase : base ≤ w.heap.size)
    (h : ∀ v' w', w'.ownsRow base E 2 v' (n + l.length) (xs ++ tcs l) → Below base w w' → wpList Tryd.prog ops Q rest (a.put o.dst v') w') : wpList Tryd.prog ops Q (o :: rest) a w := by
  obtain ⟨i0, hi, hz0, hz1, hz2⟩ := info_parts hinf
  rcases hu with ⟨rfl, rfl⟩ | ⟨rfl, ad, cap, rfl⟩ | ⟨b, off, cap, rfl, hcap, hlt, hc⟩
  · refine wpList_append_own_none hgd s x T ho base E i0 2 hT hi v n xs hs hown hx (h v w ?_ (Below.refl _ _))
    simpa [tcs] using hown
  · refine wpList_append_own w hgd s x T ho base E i0 (.agg #[.int .i64 0, .string ⟨#[]⟩]) 2 24 hT hi hz0 hz1 hz2 rfl (by decide) v n xs hs hown ad 0 cap [] hx rfl (by simp) (by simp) (by unfold maxLen; omega) (by omega) hbase ?_
    intro v' w' h1 h2 _
    exact h v' w' h1 ((Below.refl base w).grown h2 hbase (fun q hq => (hown.lt q hq).1))
  · refine wpList_append_own w hgd s x T ho base E i0 (.agg #[.int .i64 0, .string ⟨#[]⟩]) 2 24 hT hi hz0 hz1 hz2 rfl (by decide) v n xs hs hown ⟨b, off, none⟩ l.length cap (tcs l) hx (tcs_len l) ?_ (tcs_one l) (by unfold maxLen; omega) (by omega) hbase ?_
    · intro j y hy
      rw [Addr.add_mid]
      obtain ⟨i, t, ht, ⟨rfl, rfl⟩ | ⟨rfl, rfl⟩⟩ := tcs_back l j y hy
      · exact (hc i t ht).1
      · exact (hc i t ht).2
    · intro v' w' h1 h2 _
      exact h v' w' h1 ((Below.refl base w).grown h2 hbase (fun q hq => (hown.lt q hq).1))

/-- A block of three cells, written anew. -/
def put3 (W : World) (R : Nat) (a b c : Value) : World := ((W.setCell ⟨R, 0, none⟩ a).setCell ⟨R, 1, none⟩ b).setCell ⟨R, 2, none⟩ c
theorem put3_blk {W : World} {R : Nat} {p q r : Value} {t : TypeId} (h : W.heap[R]? = some (.cells #[p, q, r] t)) (a b c : Value) : (put3 W R a b c).heap[R]? = some (.cells #[a, b, c] t) := setB (setB (setB h 0 a) 1 b) 2 c
theorem put3_far {W : World} {R k : Nat} (h : k ≠ R) (a b c : Value) : (put3 W R a b c).heap[k]? = W.heap[k]? := (set_far h _ _).trans ((set_far h _ _).trans (set_far h _ _))
theorem put3_below {n : Nat} {w W : World} {R : Nat} (h : Below n w W) (hR : n ≤ R) (a b c : Value) : Below n w (put3 W R a b c) :=
  ((h.setCell (p := ⟨R, 0, none⟩) hR _).setCell (p := ⟨R, 1, none⟩) hR _).setCell (p := ⟨R, 2, none⟩) hR _

set_option maxRecDepth 20000 in
set_option maxHeartbeats 2000000 in
theorem clone_any (x : ByteArray) (g : Int) (T : List Tg) (v : Value) (w : World) (hT : T.length * 24 ≤ 140737488355328) (hv : Tp w v T) :
    Calls Tryd.prog 36 #[.agg #[.string x, .int .i64 g, v]] w fun e W' => ∃ v', e = .returned (.agg #[.string x, .int .i64 g, v']) ∧ W'.ownsRow w.heap.size 94 2 v' T.length (tcs T) ∧ Below w.heap.size w W' := by
  have hba := (Below.refl w.heap.size w).alloc (Nat.le_refl _) (.cells #[.string x, .int .i64 g, v] 49)
  have hbb := hba.alloc hba.size (.cells #[.string ⟨#[]⟩, .int .i64 0, .slice none 0 0] 49)
  have hvv := hv.on hbb
  obtain ⟨va, vc, rfl⟩ := hv.slice
  have ha := heap_alloc_new w (.cells #[.string x, .int .i64 g, .slice va T.length vc] 49)
  have hb := heap_alloc_new (w.alloc (.cells #[.string x, .int .i64 g, .slice va T.length vc] 49)) (.cells #[.string ⟨#[]⟩, .int .i64 0, .slice none 0 0] 49)
  have hsz : (w.alloc (.cells #[.string x, .int .i64 g, .slice va T.length vc] 49)).heap.size = w.heap.size + 1 := by simp
  have hc := (Below.heap_alloc (w.alloc (.cells #[.string x, .int .i64 g, .slice va T.length vc] 49)) (.cells #[.string ⟨#[]⟩, .int .i64 0, .slice none 0 0] 49) w.heap.size (by omega)).trans ha
  rw [hsz] at hb
  have HX : Hid (_ ∧ _ ∧ _ ∧ _) := ⟨hbb, hvv, hb, hc⟩
  clear ha hb hc hbb hvv hba hv
  go_enter Tryd.func36, Tryd.ntmps36
  go_upto_region 1 with fail
  obtain ⟨hbb, hvv, hb, hc⟩ := HX.out
  obtain ⟨W2, hW2⟩ : ∃ W, (w.alloc (.cells #[.string x, .int .i64 g, .slice va T.length vc] 49)).alloc (.cells #[.string ⟨#[]⟩, .int .i64 0, .slice none 0 0] 49) = W := ⟨_, rfl⟩
  rw [hW2] at hbb hvv hb hc ⊢
  obtain ⟨Q, hQ⟩ : ∃ Q, w.heap.size + 1 = Q := ⟨_, rfl⟩
  rw [hQ] at hb ⊢
  have HQ : Hid (w.heap.size + 1 = Q) := hQ
  obtain ⟨R, hR⟩ : ∃ R, w.heap.size = R := ⟨_, rfl⟩
  have HB : Hid (Below R w W2) := by rw [← hR]; exact hbb
  rw [hR] at hc HQ ⊢
  have hQR : ¬ Q = R := by have := HQ.out; omega
  have hRQ : ¬ R = Q := by have := HQ.out; omega
  have hlt1 := (Array.getElem?_eq_some_iff.1 hc).1
  have hlt2 := (Array.getElem?_eq_some_iff.1 hb).1
  have c0 := cellB hc 0 _ rfl
  have c1 := cellB hc 1 _ rfl
  have c2 := cellB hc 2 _ rfl
  have HK : Hid (_ ∧ _) := ⟨hb, hc⟩
  clear hbb hb hc hQ HX hW2 hsz
  go_wp2_with (first
    | (at_builtin; refine wpList_append_tags 47 94 Tryd.underlying47 Tryd.info94 rfl _ _ rfl (Q + 1) _ 0 [] rfl (World.ownsRow_nil _ _ _ _) _ T rfl hvv (by omega) (by have := HQ.out; omega) ?_; intro v4 w4 hown4 hg4; obtain ⟨a4, c4, rfl⟩ := owns_slice hown4; have hd := (hg4.block R (by have := HQ.out; omega)).trans HK.out.2; have he := (hg4.block Q (by omega)).trans HK.out.1; have d0 := cellB hd 0 _ rfl; have d1 := cellB hd 1 _ rfl; have d2 := cellB hd 2 _ rfl; have e0 := cellB he 0 _ rfl; have e1 := cellB he 1 _ rfl; have e2 := cellB he 2 _ rfl; have fd := frozenB hd 2; have f0 := frozenB he 0; have f1 := frozenB he 1; have f2 := frozenB he 2))
  rw [Nat.zero_add, List.nil_append] at hown4
  have he2 := (set_far (w := w4) hQR 2 (.slice a4 T.length c4)).trans he
  have hr := put3_blk he2 (.string x) (.int .i64 g) (.slice a4 T.length c4)
  have x1 := cellB hr 0 _ rfl
  have x2 := cellB hr 1 _ rfl
  have x3 := cellB hr 2 _ rfl
  have hRlt : R < Q := by have := HQ.out; omega
  have hb4 : Below R w w4 := HB.out.trans (hg4.mono (by omega))
  have hb5 := put3_below (hb4.setCell (p := ⟨R, 2, none⟩) (Nat.le_refl _) (.slice a4 T.length c4)) (R := Q) (by omega) (.string x) (.int .i64 g) (.slice a4 T.length c4)
  have ho := owns_base (owns_kept (w' := put3 (w4.setCell ⟨R, 2, none⟩ (.slice a4 T.length c4)) Q (.string x) (.int .i64 g) (.slice a4 T.length c4)) hown4 (fun k hk => by
    have := (hown4.lt k hk).1
    exact (put3_far (by omega) _ _ _).trans (set_far (by omega) _ _))) (base' := R) (by omega)
  unfold put3 at x1 x2 x3 hb5 ho
  refine bodyPost_ret (v := .agg #[.string x, .int .i64 g, .slice a4 T.length c4]) (by simp [results, Tryd.f36, go_sem, x1, x2, x3]) rfl ⟨_, rfl, ?_, ?_⟩
  · rw [hR]; exact ho
  · rw [hR]; exact hb5
end Go.Proofs.YtmggfkhfiggloaaDoor
