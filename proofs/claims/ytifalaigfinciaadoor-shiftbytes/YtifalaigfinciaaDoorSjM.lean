import Derived.Test.YtifalaigfinciaaDoorSiB
import Derived.Test.YtifalaigfinciaaDoorSiH
/- Bytes read entry by entry: plain. -/
namespace Go.Proofs.YtifalaigfinciaaDoor
open Go.RowKit

/-- The entry that three texts are, as the callees tell it. -/
def eOf (a b c : List UInt8) : Bq := ⟨tnV a, tnV b, (cDecV c).1, (cDecV c).2.1, (cDecV c).2.2⟩
theorem loose_app : ∀ {A B : List (List UInt8)} {es : List Bq}, looseL A = some es → looseL (A ++ B) = (looseL B).map (es ++ ·)
  | [], B, es, h => by
    simp only [looseL, Option.some.injEq] at h
    subst h
    cases h : looseL B <;> simp [h]
  | [_], _, _, h => by cases h
  | [_, _], _, _, h => by cases h
  | a :: b :: c :: r, B, es, h => by
    obtain ⟨e, l', h1, h2, rfl⟩ := cat2_some h
    show cat2 (mk3 (some (tnV a)) (some (tnV b)) (cDecL c)) (looseL (r ++ B)) = _
    rw [loose_app h2, h1]
    cases looseL B <;> rfl
theorem ents_app : ∀ {A B : List (List UInt8)} {es : List Bq}, entsL A = some es → entsL (A ++ B) = (entsL B).map (es ++ ·)
  | [], B, es, h => by
    simp only [entsL, Option.some.injEq] at h
    subst h
    cases h : entsL B <;> simp [h]
  | [_], _, _, h => by cases h
  | [_, _], _, _, h => by cases h
  | a :: b :: c :: r, B, es, h => by
    obtain ⟨e, l', h1, h2, rfl⟩ := cat2_some h
    show cat2 (mk3 (toNumL a) (toNumL b) (cDecL c)) (entsL (r ++ B)) = _
    rw [ents_app h2, h1]
    cases entsL B <;> rfl
theorem mk3_none (o p : Option Int) : mk3 o p none = none := by cases o <;> cases p <;> rfl
theorem cat2_none (p : Option (List Bq)) : cat2 none p = none := rfl
theorem cDecE_0 {c : List UInt8} (h : cDecE c = 0) : cDecL c = some ((cDecV c).1, (cDecV c).2.1, (cDecV c).2.2) := by
  cases hc : cDecL c with
  | none => rw [cDecE, hc] at h; cases h
  | some y => rw [cDecV, hc]; rfl
theorem cDecE_n {c : List UInt8} (h : cDecE c ≠ 0) : cDecL c = none ∧ cDecE c = 4 := by
  cases hc : cDecL c with
  | none => exact ⟨rfl, by rw [cDecE, hc]; rfl⟩
  | some y => rw [cDecE, hc] at h; exact absurd rfl h
theorem tnE_0 {a : List UInt8} (h : tnE a = 0) : toNumL a = some (tnV a) := by
  cases ha : toNumL a with
  | none => rw [tnE, ha] at h; cases h
  | some y => rw [tnV, ha]; rfl
theorem tnE_n {a : List UInt8} (h : tnE a ≠ 0) : toNumL a = none := by
  cases ha : toNumL a with
  | none => rfl
  | some y => rw [tnE, ha] at h; exact absurd rfl h
/-- A list parted at three texts. -/
theorem part3 {L : List (List UInt8)} {q : Nat} {a b c : List UInt8} (h0 : L[q]? = some a) (h1 : L[q + 1]? = some b) (h2 : L[q + 2]? = some c) : L = L.take q ++ (a :: b :: c :: L.drop (q + 3)) ∧ L.take (q + 3) = L.take q ++ [a, b, c] := by
  have d0 : L.drop q = a :: L.drop (q + 1) := by
    have hk := (List.getElem?_eq_some_iff.1 h0).1
    rw [List.drop_eq_getElem_cons hk]; congr 1; rw [List.getElem?_eq_getElem hk] at h0; injection h0
  have d1 : L.drop (q + 1) = b :: L.drop (q + 2) := by
    have hk := (List.getElem?_eq_some_iff.1 h1).1
    rw [List.drop_eq_getElem_cons hk]; congr 1; rw [List.getElem?_eq_getElem hk] at h1; injection h1
  have d2 : L.drop (q + 2) = c :: L.drop (q + 3) := by
    have hk := (List.getElem?_eq_some_iff.1 h2).1
    rw [List.drop_eq_getElem_cons hk]; congr 1; rw [List.getElem?_eq_getElem hk] at h2; injection h2
  refine ⟨?_, ?_⟩
  · rw [← d2, ← d1, ← d0, List.take_append_drop]
  · rw [List.take_add_one, List.take_add_one, List.take_add_one, h0, h1, h2]
    simp
theorem loose_snoc {L : List (List UInt8)} {q : Nat} {a b c : List UInt8} {es : List Bq} (h : looseL (L.take q) = some es) (h0 : L[q]? = some a) (h1 : L[q + 1]? = some b) (h2 : L[q + 2]? = some c) (hc : cDecE c = 0) : looseL (L.take (q + 3)) = some (es ++ [eOf a b c]) := by
  rw [(part3 h0 h1 h2).2, loose_app h]
  show (cat2 (mk3 (some (tnV a)) (some (tnV b)) (cDecL c)) (looseL [])).map _ = _
  rw [cDecE_0 hc]
  rfl
theorem loose_stop {L : List (List UInt8)} {q : Nat} {a b c : List UInt8} {es : List Bq} (h : looseL (L.take q) = some es) (h0 : L[q]? = some a) (h1 : L[q + 1]? = some b) (h2 : L[q + 2]? = some c) (hc : cDecE c ≠ 0) : looseL L = none := by
  rw [(part3 h0 h1 h2).1, loose_app h]
  show (cat2 (mk3 (some (tnV a)) (some (tnV b)) (cDecL c)) (looseL _)).map _ = _
  rw [(cDecE_n hc).1, mk3_none]
  rfl
theorem ents_snoc {L : List (List UInt8)} {q : Nat} {a b c : List UInt8} {es : List Bq} (h : entsL (L.take q) = some es) (h0 : L[q]? = some a) (h1 : L[q + 1]? = some b) (h2 : L[q + 2]? = some c) (hok : okE a b c = true) : entsL (L.take (q + 3)) = some (es ++ [eOf a b c]) := by
  simp only [okE, Bool.and_eq_true, decide_eq_true_eq] at hok
  rw [(part3 h0 h1 h2).2, ents_app h]
  show (cat2 (mk3 (toNumL a) (toNumL b) (cDecL c)) (entsL [])).map _ = _
  rw [cDecE_0 hok.2.2, tnE_0 hok.1, tnE_0 hok.2.1]
  rfl
theorem ents_stop {L : List (List UInt8)} {q : Nat} {a b c : List UInt8} {es : List Bq} (h : entsL (L.take q) = some es) (h0 : L[q]? = some a) (h1 : L[q + 1]? = some b) (h2 : L[q + 2]? = some c) (hok : okE a b c = false) : entsL L = none := by
  rw [(part3 h0 h1 h2).1, ents_app h]
  show (cat2 (mk3 (toNumL a) (toNumL b) (cDecL c)) (entsL _)).map _ = _
  have hm : mk3 (toNumL a) (toNumL b) (cDecL c) = none := by
    by_cases h1 : tnE a = 0
    · by_cases h2 : tnE b = 0
      · have h3 : cDecE c ≠ 0 := fun h3 => by simp [okE, h1, h2, h3] at hok
        rw [(cDecE_n h3).1, mk3_none]
      · rw [tnE_n h2]; cases toNumL a <;> rfl
    · rw [tnE_n h1]; rfl
  rw [hm]
  rfl
theorem ents_len {L : List (List UInt8)} {l : List Bq} (h : entsL L = some l) : L.length = 3 * l.length := loose_len (loose_of h)
def decC (s : List UInt8) : Bq := match dec12 s with | some (c, _) => c | none => ⟨0, 0, [], 0, []⟩
def decL (s : List UInt8) : List Bq := match dec12 s with | some (_, l) => l | none => []
def decE (s : List UInt8) : Int := match dec12 s with | some _ => 0 | none => 4
theorem dec_no {s : List UInt8} (h : dec12 s = none) : decC s = ⟨0, 0, [], 0, []⟩ ∧ decL s = [] ∧ decE s = 4 := by simp [decC, decL, decE, h]
theorem dec_yes {s : List UInt8} {c : Bq} {l : List Bq} (h : dec12 s = some (c, l)) : decC s = c ∧ decL s = l ∧ decE s = 0 := by simp [decC, decL, decE, h]
/-- Where there are not as many texts as it takes. -/
theorem dec_count {s : List UInt8} (h : (texts s).length = 0 ∨ (texts s).length % 3 ≠ 0 ∨ 9 < (texts s).length / 3) : dec12 s = none := by
  cases hd : dec12 s with
  | none => rfl
  | some y =>
    obtain ⟨c, l⟩ := y
    obtain ⟨_, h2, h3, _⟩ := dec12_some hd
    have h4 := ents_len h2
    simp only [sizedB, Bool.and_eq_true, decide_eq_true_eq] at h3
    rw [List.length_cons] at h4
    omega
theorem dec_err {s : List UInt8} (h : errOf s ≠ 0) : dec12 s = none := by
  rcases err_cases s with h0 | ⟨_, h0⟩
  · exact absurd h0 h
  · exact dec_count (by rw [h0]; exact .inl rfl)
theorem dec_ents_none {s : List UInt8} (h : entsL (texts s) = none) : dec12 s = none := by
  rw [dec12, dec12T, h]
theorem dec_loose_none {s : List UInt8} (h : looseL (texts s) = none) : dec12 s = none := dec_not (fun c l => by rw [h]; simp)
theorem dec_ents {s : List UInt8} {c : Bq} {l : List Bq} (h : entsL (texts s) = some (c :: l)) : dec12 s = if sizedB c l.length = true then some (c, l) else none := by
  rw [dec12, dec12T, h]
theorem dec_loose_n {s : List UInt8} {c : Bq} {l : List Bq} (hL : looseL (texts s) = some (c :: l)) (h : ¬ (shE c l = 0 ∧ shV c l = s)) : dec12 s = none := by
  cases hd : dec12 s with
  | none => rfl
  | some y =>
    obtain ⟨c', l'⟩ := y
    obtain ⟨_, h2, _, h4, h5⟩ := dec12_some hd
    have h6 := loose_of h2
    rw [hL] at h6
    simp only [Option.some.injEq, List.cons.injEq] at h6
    obtain ⟨rfl, rfl⟩ := h6
    exact absurd ⟨h4, h5⟩ h
end Go.Proofs.YtifalaigfinciaaDoor
/- Which bytes are a change: the document's plain Decode, walked. -/
namespace Go.Proofs.YtifalaigfinciaaDoor
open Go.RowKit
attribute [local go_sem ↓] Go.wp_at_zero Go.wp_at_succ

theorem get3 {L : List (List UInt8)} {q : Nat} (h : q + 2 < L.length) : ∃ a b c, L[q]? = some a ∧ L[q + 1]? = some b ∧ L[q + 2]? = some c :=
  ⟨_, _, _, List.getElem?_eq_getElem (by omega), List.getElem?_eq_getElem (by omega), List.getElem?_eq_getElem h⟩
theorem texts_count (s : List UInt8) : (texts s).length ≤ s.length := by
  unfold texts
  split
  · rw [List.length_map]; exact items_count
  · simp

set_option maxRecDepth 20000 in
set_option maxHeartbeats 2000000 in
theorem rDecode12_any (s : List UInt8) (w : World) (hs : s.length ≤ 200000) :
    Calls Tryd.prog 12 #[.string (bs s)] w fun e W' => ∃ mu bu, e = .returned (.tuple #[.agg #[.int .i64 (decC s).n, .int .i64 (decC s).v, .string (bs (decC s).x), .int .i64 (decC s).g, mu, bu], .int .i64 (decE s)]) ∧ Tl W' mu (decC s).T ∧ Ml W'.heap.size W' bu (decL s) ∧ Below w.heap.size w W' := by
  have hb0 : Below w.heap.size w (w.alloc (.cells #[.int .i64 0, .int .i64 0, .string ⟨#[]⟩, .int .i64 0, .slice none 0 0, .slice none 0 0] 40)) := (Below.refl _ w).alloc (Nat.le_refl _) _
  have r0 := heap_alloc_new w (.cells #[.int .i64 0, .int .i64 0, .string ⟨#[]⟩, .int .i64 0, .slice none 0 0, .slice none 0 0] 40)
  obtain ⟨W0, hW0⟩ : ∃ W, w.alloc (.cells #[.int .i64 0, .int .i64 0, .string ⟨#[]⟩, .int .i64 0, .slice none 0 0, .slice none 0 0] 40) = W := ⟨_, rfl⟩
  have HW : Hid (w.alloc (.cells #[.int .i64 0, .int .i64 0, .string ⟨#[]⟩, .int .i64 0, .slice none 0 0, .slice none 0 0] 40) = W0) := hW0
  rw [hW0] at hb0 r0
  obtain ⟨Q, hQ⟩ : ∃ Q, w.heap.size = Q := ⟨_, rfl⟩
  have HQ : Hid (w.heap.size = Q) := hQ
  rw [hQ] at r0 hb0 ⊢
  have hlQ : Q < W0.heap.size := (Array.getElem?_eq_some_iff.1 r0).1
  have hU := rUnpack_any s W0 (by omega)
  have HLl : Hid (∀ t ∈ texts s, t.length ≤ 1000000) := fun t ht => by have := texts_mem ht; omega
  have hcnt := texts_count s
  have HE : Hid (errOf s ≠ 0 → dec12 s = none) := dec_err
  have HC : Hid (((texts s).length = 0 ∨ (texts s).length % 3 ≠ 0 ∨ 9 < (texts s).length / 3) → dec12 s = none) := dec_count
  have HN : Hid (entsL (texts s) = none → dec12 s = none) := dec_ents_none
  have HY : Hid (∀ c l, entsL (texts s) = some (c :: l) → dec12 s = if sizedB c l.length = true then some (c, l) else none) := fun c l h => dec_ents h
  have HNo : Hid (dec12 s = none → decC s = ⟨0, 0, [], 0, []⟩ ∧ decL s = [] ∧ decE s = 4) := dec_no
  have HYes : Hid (∀ c l, dec12 s = some (c, l) → decC s = c ∧ decL s = l ∧ decE s = 0) := fun c l h => dec_yes h
  obtain ⟨L, hL⟩ : ∃ x, texts s = x := ⟨_, rfl⟩
  obtain ⟨E, hE⟩ : ∃ x, errOf s = x := ⟨_, rfl⟩
  obtain ⟨DC, hDC⟩ : ∃ x, decC s = x := ⟨_, rfl⟩
  obtain ⟨DL, hDL⟩ : ∃ x, decL s = x := ⟨_, rfl⟩
  obtain ⟨DE, hDE⟩ : ∃ x, decE s = x := ⟨_, rfl⟩
  obtain ⟨D, hD⟩ : ∃ x, dec12 s = x := ⟨_, rfl⟩
  rw [hL] at HLl HC HN HY hU hcnt
  rw [hE] at HE hU
  rw [hDC, hDL, hDE] at HNo HYes
  rw [hD] at HE HC HN HY HNo HYes
  rw [hDC, hDL, hDE]
  have hcntL : L.length ≤ 200000 := by omega
  clear hDC hDL hDE hD hL hE hW0 hQ hcnt hs
  go_enter Tryd.func12, Tryd.ntmps12
  go_upto_region 1 with fail
  rw [HW.out, HQ.out]
  clear HW
  go_upto_region 2 with (first | (go_at_call 27; refine hU.mono ?_; clear hU; rintro e w1 ⟨v, rfl, hown, hb1⟩; obtain ⟨va, vc, rfl⟩ := owns_slice hown; have HSl : Hid (∀ W, Below w1.heap.size w1 W → Sl W (.slice va L.length vc) L) := fun W hW => Sl.of_owns (own_kept hown hW); have r1 := (hb1.block Q hlQ).trans r0))
  have hB1 := hb0.trans (hb1.mono (Nat.le_of_lt hlQ))
  clear hown hb0
  by_cases hbad : E ≠ 0 ∨ E = 0 ∧ (L.length < 3 ∨ 3 ≤ L.length ∧ L.length % 3 ≠ 0)
  · have hdn : D = none := by
      rcases hbad with h | ⟨_, h | ⟨_, h⟩⟩
      · exact HE.out h
      · by_cases h0 : L.length = 0
        · exact HC.out (.inl h0)
        · exact HC.out (.inr (.inl (by omega)))
      · exact HC.out (.inr (.inl h))
    have HZ : Hid (DC = ⟨0, 0, [], 0, []⟩ ∧ DL = [] ∧ DE = 4) := HNo.out hdn
    have hcs : (E != 0) = true ∨ (E = 0 ∧ decide ((L.length : Int) < 3) = true) ∨ (E = 0 ∧ decide ((L.length : Int) < 3) = false ∧ (((L.length : Int) % 3) != 0) = true) := by
      rcases hbad with h | ⟨h0, h | ⟨h1, h⟩⟩
      · exact .inl (by simpa using h)
      · exact .inr (.inl ⟨h0, by simp; omega⟩)
      · exact .inr (.inr ⟨h0, by simp; omega, by simp; omega⟩)
    obtain ⟨z0, z1, z2, z3, z4, z5, hBz⟩ := fin6 r1 hB1 (Nat.le_refl _) (.int .i64 0) (.int .i64 0) (.string ⟨#[]⟩) (.int .i64 0) (.slice none 0 0) (.slice none 0 0)
    unfold put6 at z0 z1 z2 z3 z4 z5 hBz
    have HF : Hid (_ ∧ _ ∧ _ ∧ _ ∧ _ ∧ _ ∧ _) := ⟨z0, z1, z2, z3, z4, z5, hBz⟩
    have f0 := frozenB r1 0
    have f1 := frozenB r1 1
    have f2 := frozenB r1 2
    have f3 := frozenB r1 3
    have f4 := frozenB r1 4
    have f5 := frozenB r1 5
    have s0 := cellB r1 0 _ rfl
    have s1 := cellB r1 1 _ rfl
    have s2 := cellB r1 2 _ rfl
    have s3 := cellB r1 3 _ rfl
    have s4 := cellB r1 4 _ rfl
    have s5 := cellB r1 5 _ rfl
    clear z0 z1 z2 z3 z4 z5 hBz hdn hbad HE HC HN HY HNo HYes hB1 HSl
    rcases hcs with h1 | ⟨rfl, h1⟩ | ⟨rfl, h1, h2⟩
    all_goals
      go_wp2
      obtain ⟨z0, z1, z2, z3, z4, z5, hBz⟩ := HF.out
      obtain ⟨rfl, rfl, rfl⟩ := HZ.out
      exact bodyPost_ret (v := .tuple #[.agg #[.int .i64 0, .int .i64 0, .string ⟨#[]⟩, .int .i64 0, .slice none 0 0, .slice none 0 0], .int .i64 4]) (by simp [results, Tryd.f12, go_sem, z0, z1, z2, z3, z4, z5]) rfl ⟨_, _, rfl, Tl.nil _, Ml.nil _ _, hBz⟩
  · have hE0 : E = 0 := by
      by_cases h : E = 0
      · exact h
      · exact absurd (.inl h) hbad
    subst hE0
    have hl3 : 3 ≤ L.length := by
      by_cases h : L.length < 3
      · exact absurd (.inr ⟨rfl, .inl h⟩) hbad
      · omega
    have hm3 : L.length % 3 = 0 := by
      by_cases h : L.length % 3 = 0
      · exact h
      · exact absurd (.inr ⟨rfl, .inr ⟨hl3, h⟩⟩) hbad
    clear hbad HE HC
    have q1 : decide ((L.length : Int) < 3) = false := by simp; omega
    have q2 : (((L.length : Int) % 3) != 0) = false := by simp; omega
    obtain ⟨a, b, c, g0, g1, g2⟩ := get3 (L := L) (q := 0) (by omega)
    have hT0 : Calls Tryd.prog 28 #[.slice va L.length vc, .int .i64 0] w1 fun e W' => ∃ u, e = .returned (.tuple #[.agg #[.int .i64 (eOf a b c).n, .int .i64 (eOf a b c).v, .string (bs (eOf a b c).x), .int .i64 (eOf a b c).g, u], .bool (okE a b c)]) ∧ Tp W' u (eOf a b c).T ∧ Fr w1.heap.size u ∧ Below w1.heap.size w1 W' := three_any L 0 a b c (.slice va L.length vc) w1 (HLl.out a (List.mem_of_getElem? g0)) (HLl.out b (List.mem_of_getElem? g1)) (HLl.out c (List.mem_of_getElem? g2)) (by omega) (HSl.out w1 (Below.refl _ _)) g0 g1 g2
    have HST0 : Hid (okE a b c = true → entsL (L.take 3) = some [eOf a b c]) := fun h => ents_snoc (L := L) (q := 0) (es := []) (by rw [List.take_zero]; rfl) g0 g1 g2 h
    have HSP0 : Hid (okE a b c = false → entsL L = none) := fun h => ents_stop (L := L) (q := 0) (es := []) (by rw [List.take_zero]; rfl) g0 g1 g2 h
    obtain ⟨e0, he0⟩ : ∃ x, eOf a b c = x := ⟨_, rfl⟩
    obtain ⟨OK, hOK⟩ : ∃ x, okE a b c = x := ⟨_, rfl⟩
    rw [he0, hOK] at hT0 HST0
    rw [hOK] at HSP0
    clear he0 hOK g0 g1 g2
    go_upto_region 5 with (first | (go_at_call 28; refine hT0.mono ?_; clear hT0; rintro e w2 ⟨u, rfl, hTp, hFr, hb2⟩; obtain ⟨ua, uc, rfl⟩ := hTp.tl.slice; have r2 := (hb2.block Q (by have := hb1.size; omega)).trans r1))
    have hQ1 : Q ≤ w1.heap.size := by have := hb1.size; omega
    have hQ2 : Q ≤ w2.heap.size := Nat.le_trans hQ1 hb2.size
    have hB2 := hB1.trans (hb2.mono hQ1)
    have HFrQ : Hid (∀ k, (Value.slice ua e0.T.length uc).ownBlock = some k → Q < k) := fun k hk => by have := hFr k hk; have := hb1.size; omega
    have ha3 := (Below.refl w2.heap.size w2).alloc (Nat.le_refl _) (.cells #[.int .i64 e0.n, .int .i64 e0.v, .string (bs e0.x), .int .i64 e0.g, .slice ua e0.T.length uc] 72)
    have rX := heap_alloc_new w2 (.cells #[.int .i64 e0.n, .int .i64 e0.v, .string (bs e0.x), .int .i64 e0.g, .slice ua e0.T.length uc] 72)
    have hT3 := hTp.tl.below ha3 (Nat.le_refl _)
    obtain ⟨W3, hW3⟩ : ∃ W, w2.alloc (.cells #[.int .i64 e0.n, .int .i64 e0.v, .string (bs e0.x), .int .i64 e0.g, .slice ua e0.T.length uc] 72) = W := ⟨_, rfl⟩
    rw [hW3] at ha3 rX hT3 ⊢
    have hB3 := hB2.trans (ha3.mono hQ2)
    have hb13 : Below w1.heap.size w1 W3 := hb2.trans (ha3.mono hb2.size)
    have r3 := (ha3.block Q (Array.getElem?_eq_some_iff.1 r2).1).trans r2
    obtain ⟨X1, hX1⟩ : ∃ X, w2.heap.size = X := ⟨_, rfl⟩
    rw [hX1] at rX ⊢
    have hQl3 : Q < W3.heap.size := (Array.getElem?_eq_some_iff.1 r3).1
    clear hW3 hX1 ha3 hTp hb2 hB2 r2 r1 hB1
    cases OK
    · have HZ : Hid (DC = ⟨0, 0, [], 0, []⟩ ∧ DL = [] ∧ DE = 4) := HNo.out (HN.out (HSP0.out rfl))
      obtain ⟨z0, z1, z2, z3, z4, z5, hBz⟩ := fin6 r3 hB3 (Nat.le_refl _) (.int .i64 0) (.int .i64 0) (.string ⟨#[]⟩) (.int .i64 0) (.slice none 0 0) (.slice none 0 0)
      unfold put6 at z0 z1 z2 z3 z4 z5 hBz
      have HF : Hid (_ ∧ _ ∧ _ ∧ _ ∧ _ ∧ _ ∧ _) := ⟨z0, z1, z2, z3, z4, z5, hBz⟩
      have f0 := frozenB r3 0
      have f1 := frozenB r3 1
      have f2 := frozenB r3 2
      have f3 := frozenB r3 3
      have f4 := frozenB r3 4
      have f5 := frozenB r3 5
      have s0 := cellB r3 0 _ rfl
      have s1 := cellB r3 1 _ rfl
      have s2 := cellB r3 2 _ rfl
      have s3 := cellB r3 3 _ rfl
      have s4 := cellB r3 4 _ rfl
      have s5 := cellB r3 5 _ rfl
      clear z0 z1 z2 z3 z4 z5 hBz HN HY HNo HYes HST0 HSP0 hB3 rX hT3 hFr HSl hb13 HFrQ
      go_wp2
      obtain ⟨z0, z1, z2, z3, z4, z5, hBz⟩ := HF.out
      obtain ⟨rfl, rfl, rfl⟩ := HZ.out
      exact bodyPost_ret (v := .tuple #[.agg #[.int .i64 0, .int .i64 0, .string ⟨#[]⟩, .int .i64 0, .slice none 0 0, .slice none 0 0], .int .i64 4]) (by simp [results, Tryd.f12, go_sem, z0, z1, z2, z3, z4, z5]) rfl ⟨_, _, rfl, Tl.nil _, Ml.nil _ _, hBz⟩
    · have HI0 : Hid (entsL (L.take 3) = some [e0]) := HST0.out rfl
      have x0 := cellB rX 0 _ rfl
      have x1 := cellB rX 1 _ rfl
      have x2 := cellB rX 2 _ rfl
      have x3 := cellB rX 3 _ rfl
      have x4 := cellB rX 4 _ rfl
      clear HST0 HSP0 hFr
      go_upto_region 8 with fail
      have ha4 := (Below.refl W3.heap.size W3).alloc (Nat.le_refl _) (.cells #[.int .i64 e0.n, .int .i64 e0.v, .string (bs e0.x), .int .i64 e0.g, .slice ua e0.T.length uc, .slice none 0 0] 40)
      have rO := heap_alloc_new W3 (.cells #[.int .i64 e0.n, .int .i64 e0.v, .string (bs e0.x), .int .i64 e0.g, .slice ua e0.T.length uc, .slice none 0 0] 40)
      obtain ⟨W4, hW4⟩ : ∃ W, W3.alloc (.cells #[.int .i64 e0.n, .int .i64 e0.v, .string (bs e0.x), .int .i64 e0.g, .slice ua e0.T.length uc, .slice none 0 0] 40) = W := ⟨_, rfl⟩
      rw [hW4] at ha4 rO ⊢
      obtain ⟨O, hO⟩ : ∃ O, W3.heap.size = O := ⟨_, rfl⟩
      have HO : Hid (W3.heap.size = O) := hO
      rw [hO] at rO ha4 hQl3 ⊢
      have hOl4 : O < W4.heap.size := (Array.getElem?_eq_some_iff.1 rO).1
      have HT3 : Hid (Tl W3 (.slice ua e0.T.length uc) e0.T) := hT3
      have HB3 : Hid (_) := hB3
      have hB3s := hB3.size
      have hb13s := hb13.size
      have HB13 : Hid (_) := hb13
      rw [hO] at hb13s
      obtain ⟨i0, hi, hz0, hz1, hz2⟩ := info_parts Tryd.info72
      have HI : Hid (Tryd.prog.info? 72 = some i0 ∧ i0.zero = some (.agg #[.int .i64 0, .int .i64 0, .string ⟨#[]⟩, .int .i64 0, .slice none 0 0]) ∧ i0.size = 5 ∧ i0.bytes = 64) := ⟨hi, hz0, hz1, hz2⟩
      clear hW4 hO x0 x1 x2 x3 x4 rX hT3 hB3 hb13 hi hz0 hz1 hz2
      go_wp2
      go_loopw [9] (fun p wr => ∃ (q : Nat) (R : List Rq) (u : Value), p = .int .i64 q ∧ q ≤ L.length ∧ q % 3 = 0 ∧ Hid (entsL (L.take q) = some (e0 :: R.map (·.1))) ∧ wr.heap[O]? = some (.cells #[.int .i64 e0.n, .int .i64 e0.v, .string (bs e0.x), .int .i64 e0.g, .slice ua e0.T.length uc, u] 40) ∧ Hid (Rw (O + 1) 72 wr u R) ∧ Below O W3 wr ∧ O + 1 ≤ wr.heap.size)
        (fun p _ => L.length - (intOf p).toNat)
      case atStart => exact ⟨3, [], .slice none 0 0, rfl, hl3, rfl, HI0.out, rO, Rw.nil _ _ _, ha4, hOl4⟩
      case round =>
        obtain ⟨q, R, u, rfl, hq, hq3, HEn, rO2, HRw, hB, hwl⟩ := hrel
        obtain ⟨oa, oc, rfl⟩ := owns_slice HRw.out.1
        have HRl : Hid (q = 3 * (R.length + 1)) := by
          show q = _
          have := ents_len HEn.out
          rw [List.length_take, List.length_cons, List.length_map] at this
          omega
        have rQ : wr.heap[Q]? = some (.cells #[.int .i64 0, .int .i64 0, .string ⟨#[]⟩, .int .i64 0, .slice none 0 0, .slice none 0 0] 40) := (hB.block Q hQl3).trans r3
        have hBQ : Below Q w wr := HB3.out.trans (hB.mono (Nat.le_of_lt hQl3))
        have hQr : Q ≤ wr.heap.size := Nat.le_of_lt (Array.getElem?_eq_some_iff.1 rQ).1
        by_cases hqe : q = L.length
        · have hTm : Tl wr (.slice ua e0.T.length uc) e0.T := HT3.out.below hB (by have := HO.out; omega)
          have hSz := sized_any e0 R.length (.slice ua e0.T.length uc) oa oc wr ⟨_, _, _, rfl⟩
          have hy := HY.out e0 (R.map (·.1)) (by have h := HEn.out; rw [hqe, List.take_length] at h; exact h)
          rw [List.length_map] at hy
          have HYY : Hid (_) := hy
          have o0 := cellB rO2 0 _ rfl
          have o1 := cellB rO2 1 _ rfl
          have o2 := cellB rO2 2 _ rfl
          have o3 := cellB rO2 3 _ rfl
          have o4 := cellB rO2 4 _ rfl
          have o5 := cellB rO2 5 _ rfl
          have hqi : ¬ ((q : Int) < (L.length : Int)) := by omega
          clear hy
          cases hs : sizedB e0 R.length
          · rw [if_pos hs] at hSz
            have HZ : Hid (DC = ⟨0, 0, [], 0, []⟩ ∧ DL = [] ∧ DE = 4) := HNo.out (by have h := HYY.out; rw [if_neg (by rw [hs]; simp)] at h; exact h)
            clear hs
            go_upto_region 16 with (first | (go_at_call 20; refine hSz.mono ?_; clear hSz; rintro e w5 ⟨rfl, hb5⟩; have rQ5 := (hb5.block Q (by have := (Array.getElem?_eq_some_iff.1 rQ).1; exact this)).trans rQ; have hB5 := hBQ.trans (hb5.mono hQr)))
            obtain ⟨z0, z1, z2, z3, z4, z5, hBz⟩ := fin6 rQ5 hB5 (Nat.le_refl _) (.int .i64 0) (.int .i64 0) (.string ⟨#[]⟩) (.int .i64 0) (.slice none 0 0) (.slice none 0 0)
            unfold put6 at z0 z1 z2 z3 z4 z5 hBz
            have HF : Hid (_ ∧ _ ∧ _ ∧ _ ∧ _ ∧ _ ∧ _) := ⟨z0, z1, z2, z3, z4, z5, hBz⟩
            have f0 := frozenB rQ5 0
            have f1 := frozenB rQ5 1
            have f2 := frozenB rQ5 2
            have f3 := frozenB rQ5 3
            have f4 := frozenB rQ5 4
            have f5 := frozenB rQ5 5
            have s0 := cellB rQ5 0 _ rfl
            have s1 := cellB rQ5 1 _ rfl
            have s2 := cellB rQ5 2 _ rfl
            have s3 := cellB rQ5 3 _ rfl
            have s4 := cellB rQ5 4 _ rfl
            have s5 := cellB rQ5 5 _ rfl
            clear z0 z1 z2 z3 z4 z5 hBz HN HY HNo HYes HYY hTm
            go_wp2
            obtain ⟨z0, z1, z2, z3, z4, z5, hBz⟩ := HF.out
            obtain ⟨rfl, rfl, rfl⟩ := HZ.out
            exact bodyPost_ret (v := .tuple #[.agg #[.int .i64 0, .int .i64 0, .string ⟨#[]⟩, .int .i64 0, .slice none 0 0, .slice none 0 0], .int .i64 4]) (by simp [results, Tryd.f12, go_sem, z0, z1, z2, z3, z4, z5]) rfl ⟨_, _, rfl, Tl.nil _, Ml.nil _ _, hBz⟩
          · rw [if_neg (by rw [hs]; simp)] at hSz
            have HZ : Hid (DC = e0 ∧ DL = R.map (·.1) ∧ DE = 0) := HYes.out _ _ (by have h := HYY.out; rw [if_pos hs] at h; exact h)
            clear hs
            go_upto_region 17 with (first | (go_at_call 20; refine hSz.mono ?_; clear hSz; rintro e w5 ⟨rfl, hb5⟩; have rQ5 := (hb5.block Q (by have := (Array.getElem?_eq_some_iff.1 rQ).1; exact this)).trans rQ; have rO5 := (hb5.block O (by omega)).trans rO2; have hB5 := hBQ.trans (hb5.mono hQr)))
            have hT5 := (hTm.below hb5 (Nat.le_refl _)).put6 (B := Q) (fun k hk hl => by have h1 := HFrQ.out k hk; omega) (.int .i64 e0.n) (.int .i64 e0.v) (.string (bs e0.x)) (.int .i64 e0.g) (.slice ua e0.T.length uc) (.slice oa R.length oc)
            have hM5 := ((HRw.out.below hb5).put6 (B := Q) (by omega) (.int .i64 e0.n) (.int .i64 e0.v) (.string (bs e0.x)) (.int .i64 e0.g) (.slice ua e0.T.length uc) (.slice oa R.length oc)).ml
            obtain ⟨z0, z1, z2, z3, z4, z5, hBz⟩ := fin6 rQ5 hB5 (Nat.le_refl _) (.int .i64 e0.n) (.int .i64 e0.v) (.string (bs e0.x)) (.int .i64 e0.g) (.slice ua e0.T.length uc) (.slice oa R.length oc)
            unfold put6 at z0 z1 z2 z3 z4 z5 hBz hT5 hM5
            have HF : Hid (_ ∧ _ ∧ _ ∧ _ ∧ _ ∧ _ ∧ _ ∧ _ ∧ _) := ⟨z0, z1, z2, z3, z4, z5, hBz, hT5, hM5⟩
            have f0 := frozenB rQ5 0
            have f1 := frozenB rQ5 1
            have f2 := frozenB rQ5 2
            have f3 := frozenB rQ5 3
            have f4 := frozenB rQ5 4
            have f5 := frozenB rQ5 5
            have s0 := cellB rQ5 0 _ rfl
            have s1 := cellB rQ5 1 _ rfl
            have s2 := cellB rQ5 2 _ rfl
            have s3 := cellB rQ5 3 _ rfl
            have s4 := cellB rQ5 4 _ rfl
            have s5 := cellB rQ5 5 _ rfl
            clear o0 o1 o2 o3 o4 o5
            have o0 := cellB rO5 0 _ rfl
            have o1 := cellB rO5 1 _ rfl
            have o2 := cellB rO5 2 _ rfl
            have o3 := cellB rO5 3 _ rfl
            have o4 := cellB rO5 4 _ rfl
            have o5 := cellB rO5 5 _ rfl
            clear z0 z1 z2 z3 z4 z5 hBz hT5 hM5 hTm HN HY HNo HYes HYY
            go_wp2
            obtain ⟨z0, z1, z2, z3, z4, z5, hBz, hT5, hM5⟩ := HF.out
            obtain ⟨rfl, rfl, rfl⟩ := HZ.out
            exact bodyPost_ret (v := .tuple #[.agg #[.int .i64 DC.n, .int .i64 DC.v, .string (bs DC.x), .int .i64 DC.g, .slice ua DC.T.length uc, .slice oa R.length oc], .int .i64 0]) (by simp [results, Tryd.f12, go_sem, z0, z1, z2, z3, z4, z5]) rfl ⟨_, _, rfl, hT5, hM5, hBz⟩
        · have hql : q + 2 < L.length := by omega
          obtain ⟨a', b', c', g0, g1, g2⟩ := get3 hql
          have hb1r : Below w1.heap.size w1 wr := HB13.out.trans (hB.mono hb13s)
          have hTk : Calls Tryd.prog 28 #[.slice va L.length vc, .int .i64 q] wr fun e W' => ∃ u, e = .returned (.tuple #[.agg #[.int .i64 (eOf a' b' c').n, .int .i64 (eOf a' b' c').v, .string (bs (eOf a' b' c').x), .int .i64 (eOf a' b' c').g, u], .bool (okE a' b' c')]) ∧ Tp W' u (eOf a' b' c').T ∧ Fr wr.heap.size u ∧ Below wr.heap.size wr W' := three_any L q a' b' c' (.slice va L.length vc) wr (HLl.out a' (List.mem_of_getElem? g0)) (HLl.out b' (List.mem_of_getElem? g1)) (HLl.out c' (List.mem_of_getElem? g2)) (by omega) (HSl.out wr hb1r) g0 g1 g2
          have HST : Hid (okE a' b' c' = true → entsL (L.take (q + 3)) = some ((e0 :: R.map (·.1)) ++ [eOf a' b' c'])) := fun h => ents_snoc HEn.out g0 g1 g2 h
          have HSP : Hid (okE a' b' c' = false → entsL L = none) := fun h => ents_stop HEn.out g0 g1 g2 h
          obtain ⟨b0, hb0⟩ : ∃ x, eOf a' b' c' = x := ⟨_, rfl⟩
          obtain ⟨OK, hOK⟩ : ∃ x, okE a' b' c' = x := ⟨_, rfl⟩
          rw [hb0, hOK] at hTk HST
          rw [hOK] at HSP
          have hq6 : (q : Int) ≤ 200000 := by omega
          have hqi : (q : Int) < (L.length : Int) := by omega
          clear hb0 hOK g0 g1 g2 hb1r
          go_upto_region 12 with (first | (go_at_call 28; refine hTk.mono ?_; clear hTk; rintro e w5 ⟨u5, rfl, hTp5, hFr5, hb5⟩; obtain ⟨sa, sc, rfl⟩ := hTp5.tl.slice))
          have ha6 := (Below.refl w5.heap.size w5).alloc (Nat.le_refl _) (.cells #[.int .i64 b0.n, .int .i64 b0.v, .string (bs b0.x), .int .i64 b0.g, .slice sa b0.T.length sc] 72)
          have rX6 := heap_alloc_new w5 (.cells #[.int .i64 b0.n, .int .i64 b0.v, .string (bs b0.x), .int .i64 b0.g, .slice sa b0.T.length sc] 72)
          have hT6 := hTp5.tl.below ha6 (Nat.le_refl _)
          obtain ⟨W6, hW6⟩ : ∃ W, w5.alloc (.cells #[.int .i64 b0.n, .int .i64 b0.v, .string (bs b0.x), .int .i64 b0.g, .slice sa b0.T.length sc] 72) = W := ⟨_, rfl⟩
          rw [hW6] at ha6 rX6 hT6 ⊢
          have hb6 : Below wr.heap.size wr W6 := hb5.trans (ha6.mono hb5.size)
          obtain ⟨X, hX⟩ : ∃ X, w5.heap.size = X := ⟨_, rfl⟩
          rw [hX] at rX6 ⊢
          have rQ6 := (hb6.block Q (Array.getElem?_eq_some_iff.1 rQ).1).trans rQ
          have rO6 := (hb6.block O (by omega)).trans rO2
          have hRw6 := HRw.out.below hb6
          have hBQ6 := hBQ.trans (hb6.mono hQr)
          have hs6 := hb6.size
          have hB6 : Below O W3 W6 := hB.trans (hb6.mono (by omega))
          clear hW6 hX ha6 hTp5
          cases OK
          · have HZ : Hid (DC = ⟨0, 0, [], 0, []⟩ ∧ DL = [] ∧ DE = 4) := HNo.out (HN.out (HSP.out rfl))
            obtain ⟨z0, z1, z2, z3, z4, z5, hBz⟩ := fin6 rQ6 hBQ6 (Nat.le_refl _) (.int .i64 0) (.int .i64 0) (.string ⟨#[]⟩) (.int .i64 0) (.slice none 0 0) (.slice none 0 0)
            unfold put6 at z0 z1 z2 z3 z4 z5 hBz
            have HF : Hid (_ ∧ _ ∧ _ ∧ _ ∧ _ ∧ _ ∧ _) := ⟨z0, z1, z2, z3, z4, z5, hBz⟩
            have f0 := frozenB rQ6 0
            have f1 := frozenB rQ6 1
            have f2 := frozenB rQ6 2
            have f3 := frozenB rQ6 3
            have f4 := frozenB rQ6 4
            have f5 := frozenB rQ6 5
            have s0 := cellB rQ6 0 _ rfl
            have s1 := cellB rQ6 1 _ rfl
            have s2 := cellB rQ6 2 _ rfl
            have s3 := cellB rQ6 3 _ rfl
            have s4 := cellB rQ6 4 _ rfl
            have s5 := cellB rQ6 5 _ rfl
            clear z0 z1 z2 z3 z4 z5 hBz HN HY HNo HYes HST HSP hT6 hRw6 rX6
            go_wp2
            obtain ⟨z0, z1, z2, z3, z4, z5, hBz⟩ := HF.out
            obtain ⟨rfl, rfl, rfl⟩ := HZ.out
            exact bodyPost_ret (v := .tuple #[.agg #[.int .i64 0, .int .i64 0, .string ⟨#[]⟩, .int .i64 0, .slice none 0 0, .slice none 0 0], .int .i64 4]) (by simp [results, Tryd.f12, go_sem, z0, z1, z2, z3, z4, z5]) rfl ⟨_, _, rfl, Tl.nil _, Ml.nil _ _, hBz⟩
          · have HE2 : Hid (entsL (L.take (q + 3)) = some (e0 :: (R ++ [((b0, sa, sc) : Rq)]).map (·.1))) := by show _ = _; rw [HST.out rfl, List.map_append]; rfl
            have x0 := cellB rX6 0 _ rfl
            have x1 := cellB rX6 1 _ rfl
            have x2 := cellB rX6 2 _ rfl
            have x3 := cellB rX6 3 _ rfl
            have x4 := cellB rX6 4 _ rfl
            have o5 := cellB rO6 5 _ rfl
            have haN := (Below.refl W6.heap.size W6).alloc (Nat.le_refl _) (.cells #[.int .i64 b0.n, .int .i64 b0.v, .string (bs b0.x), .int .i64 b0.g, .slice sa b0.T.length sc] 72)
            have hownN := hRw6.1.alloc (.cells #[.int .i64 b0.n, .int .i64 b0.v, .string (bs b0.x), .int .i64 b0.g, .slice sa b0.T.length sc] 72)
            have rON := (haN.block O (Nat.lt_of_lt_of_le (by omega) hs6)).trans rO6
            have hsN := haN.size
            have hlON : O < (W6.alloc (.cells #[.int .i64 b0.n, .int .i64 b0.v, .string (bs b0.x), .int .i64 b0.g, .slice sa b0.T.length sc] 72)).heap.size := by omega
            have hBN : O + 1 ≤ (W6.alloc (.cells #[.int .i64 b0.n, .int .i64 b0.v, .string (bs b0.x), .int .i64 b0.g, .slice sa b0.T.length sc] 72)).heap.size := by omega
            have hOo : some O ≠ (Value.slice oa R.length oc).ownBlock := fun h => by have := (HRw.out.1.lt O h.symm).1; omega
            have hml : R.length + 1 ≤ maxLen := by have := HRl.out; unfold maxLen; omega
            have hmb : (R.length + 1) * 64 ≤ 140737488355328 := by have := HRl.out; omega
            obtain ⟨XS, hXS⟩ : ∃ x, R.flatMap m5 = x := ⟨_, rfl⟩
            have HXS : Hid (R.flatMap m5 = XS) := hXS
            rw [hXS] at hownN
            have HT6 : Hid (_) := hT6
            have HRw6 : Hid (_) := hRw6
            have HBQ6 : Hid (_) := hB6
            clear hXS HST HSP hT6 hRw6 hBQ6
            go_wp2_with (first | (at_builtin; refine wpList_append_lies _ rfl _ _ 38 rfl (O + 1) 72 i0 (.agg #[.int .i64 0, .int .i64 0, .string ⟨#[]⟩, .int .i64 0, .slice none 0 0]) 5 64 Tryd.underlying38 HI.out.1 HI.out.2.1 HI.out.2.2.1 HI.out.2.2.2 rfl (by decide) _ R.length XS rfl hownN ⟨W6.heap.size, 0, none⟩ 1 1 [.int .i64 b0.n, .int .i64 b0.v, .string (bs b0.x), .int .i64 b0.g, .slice sa b0.T.length sc] rfl rfl (cells_new W6 #[.int .i64 b0.n, .int .i64 b0.v, .string (bs b0.x), .int .i64 b0.g, .slice sa b0.T.length sc] 72) (by simp [Value.oneCell']) (by decide) hml hmb hBN _ rfl ?_; intro ga ca w7 hown7 hgrow hat hlt7; have rO7 := (hgrow.block O hlON hOo).trans rON; have t5 := cellB rO7 5 _ rfl; have ft := frozenB rO7 5))
            have haB := (Below.refl W6.heap.size W6).alloc (Nat.le_refl _) (.cells #[.int .i64 b0.n, .int .i64 b0.v, .string (bs b0.x), .int .i64 b0.g, .slice sa b0.T.length sc] 72)
            have hRN : Rw (O + 1) 72 (W6.alloc (.cells #[.int .i64 b0.n, .int .i64 b0.v, .string (bs b0.x), .int .i64 b0.g, .slice sa b0.T.length sc] 72)) (.slice oa R.length oc) R := Rw.below HRw6.out haB
            have hR7 := hRN.snoc (b0, sa, sc) (Tl.below HT6.out haB (Nat.le_refl _)) (fun _ q hq => ⟨by have := hFr5 q hq; omega, fun he => by have h1 := hFr5 q hq; have h3 := (HRw.out.1.lt q he).2; omega⟩) (by rw [HXS.out]; exact hown7) hgrow hat rfl
            have HR8 : Hid (_) := hR7.set (B := O) (Nat.lt_succ_self _) 5 (.slice (some ⟨ga, 0, none⟩) (R.length + 1) ca)
            have r8 := set1 rO7 5 (.slice (some ⟨ga, 0, none⟩) (R.length + 1) ca)
            have hs7 := hgrow.size
            have HB8 : Hid (Below O W3 (w7.setCell ⟨O, 5, none⟩ (.slice (some ⟨ga, 0, none⟩) (R.length + 1) ca))) := by
              have h2 := (HBQ6.out.trans (haB.mono (by omega))).grown hgrow (by omega) (fun q hq => by have := (HRw6.out.1.lt q hq).1; omega)
              exact h2.setCell (p := ⟨O, 5, none⟩) (Nat.le_refl _) _
            have HS8 : Hid (O + 1 ≤ (w7.setCell ⟨O, 5, none⟩ (.slice (some ⟨ga, 0, none⟩) (R.length + 1) ca)).heap.size) := by show _ ≤ _; simp only [World.setCell, Array.size_modify]; omega
            clear hR7 hRN hown7 hgrow hat hlt7 rO7 hownN rON haN hs7 x0 x1 x2 x3 x4 o5 t5 ft
            go_roundw
            case rel => exact ⟨q + 3, R ++ [(b0, sa, sc)], .slice (some ⟨ga, 0, none⟩) (R.length + 1) ca, by go_num, by omega, by omega, HE2, r8, HR8, HB8.out, HS8.out⟩
            case measure => simp [intOf]; omega
end Go.Proofs.YtifalaigfinciaaDoor
/- Which bytes are a change: the program's Decode, walked. -/
namespace Go.Proofs.YtifalaigfinciaaDoor
open Go.RowKit
attribute [local go_sem ↓] Go.wp_at_zero Go.wp_at_succ

/-- Tags that lie from base on, and not where the row u lies. -/
def Tw (base : Nat) (w : World) (u v : Value) (T : List Tg) : Prop := Tl w v T ∧ (T ≠ [] → ∀ q, v.ownBlock = some q → base ≤ q ∧ u.ownBlock ≠ some q)
theorem Tw.below {base : Nat} {w w' : World} {u v : Value} {T : List Tg} (h : Tw base w u v T) (hb : Below w.heap.size w w') : Tw base w' u v T := ⟨h.1.below hb (Nat.le_refl _), h.2⟩
theorem Tw.set {base : Nat} {w : World} {u v : Value} {T : List Tg} (h : Tw base w u v T) {B : Nat} (hB : B < base) (j : Nat) (x : Value) : Tw base (w.setCell ⟨B, j, none⟩ x) u v T :=
  ⟨h.1.keep (by simp [World.setCell]) (fun hl k hk => Below.heap_setCell _ _ _ _ (by have := (h.2 hl k hk).1; show k ≠ B; omega)), h.2⟩
theorem Tw.snoc {base : Nat} {w w' : World} {u v : Value} {T : List Tg} (h : Tw base w u v T) {g n cap H : Nat} (hg : w.grownBy w' u.ownBlock) (hat : u.ownBlock = some g ∨ g = H) (hH : w.heap.size = H) : Tw base w' (.slice (some ⟨g, 0, none⟩) n cap) v T := by
  refine ⟨h.1.keep hg.size (fun hl k hk => hg.block k (h.1.lt hl k hk) (fun he => (h.2 hl k hk).2 he.symm)), fun hl q hq => ⟨(h.2 hl q hq).1, fun he => ?_⟩⟩
  have hgq : g = q := by simpa [Value.ownBlock] using he
  subst hgq
  rcases hat with hat | hat
  · exact (h.2 hl g hq).2 hat
  · have := h.1.lt hl g hq; omega
def Zb : Bq := ⟨0, 0, [], 0, []⟩

set_option maxRecDepth 20000 in
set_option maxHeartbeats 2000000 in
theorem Decode12_any (s : List UInt8) (w : World) (hs : s.length ≤ 200000) (he : Env w) :
    Calls Tryd.prog 11 #[.string (bs s)] w fun e W' => ∃ mu bu, e = .returned (.tuple #[.agg #[.int .i64 (decC s).n, .int .i64 (decC s).v, .string (bs (decC s).x), .int .i64 (decC s).g, mu, bu], .int .i64 (decE s)]) ∧ Tl W' mu (decC s).T ∧ Ml W'.heap.size W' bu (decL s) ∧ Below w.heap.size w W' := by
  have hb0 : Below w.heap.size w (w.alloc (.cells #[.int .i64 0, .int .i64 0, .string ⟨#[]⟩, .int .i64 0, .slice none 0 0, .slice none 0 0] 27)) := (Below.refl _ w).alloc (Nat.le_refl _) _
  have r0 := heap_alloc_new w (.cells #[.int .i64 0, .int .i64 0, .string ⟨#[]⟩, .int .i64 0, .slice none 0 0, .slice none 0 0] 27)
  obtain ⟨W0, hW0⟩ : ∃ W, w.alloc (.cells #[.int .i64 0, .int .i64 0, .string ⟨#[]⟩, .int .i64 0, .slice none 0 0, .slice none 0 0] 27) = W := ⟨_, rfl⟩
  have HW : Hid (w.alloc (.cells #[.int .i64 0, .int .i64 0, .string ⟨#[]⟩, .int .i64 0, .slice none 0 0, .slice none 0 0] 27) = W0) := hW0
  rw [hW0] at hb0 r0
  have hb0e := hb0
  have HEnv : Hid (∀ W, Below w.heap.size w W → Env W) := fun W hW => he.next hW
  obtain ⟨Q, hQ⟩ : ∃ Q, w.heap.size = Q := ⟨_, rfl⟩
  have HQ : Hid (w.heap.size = Q) := hQ
  rw [hQ] at r0 hb0 HEnv ⊢
  have hlQ : Q < W0.heap.size := (Array.getElem?_eq_some_iff.1 r0).1
  have hU := Unpack_any s W0 (by omega) (he.next hb0e)
  have HLl : Hid (∀ t ∈ texts s, t.length ≤ 1000000) := fun t ht => by have := texts_mem ht; omega
  have hcnt := texts_count s
  have HE : Hid (errOf s ≠ 0 → dec12 s = none) := dec_err
  have HC : Hid (((texts s).length = 0 ∨ (texts s).length % 3 ≠ 0 ∨ 9 < (texts s).length / 3) → dec12 s = none) := dec_count
  have HN : Hid (looseL (texts s) = none → dec12 s = none) := dec_loose_none
  have HY1 : Hid (∀ c l, looseL (texts s) = some (c :: l) → shE c l = 0 → shV c l = s → dec12 s = some (c, l)) := fun c l h h1 h2 => (dec_loose h hs).1 ⟨h1, h2⟩
  have HY2 : Hid (∀ c l, looseL (texts s) = some (c :: l) → ¬ (shE c l = 0 ∧ shV c l = s) → dec12 s = none) := fun c l h h1 => dec_loose_n h h1
  have HOk : Hid (∀ l, looseL (texts s) = some l → ∀ b ∈ l, b.Ok) := fun l h => loose_ok h (fun t ht => Nat.le_trans (texts_mem ht) hs)
  have HNo : Hid (dec12 s = none → decC s = ⟨0, 0, [], 0, []⟩ ∧ decL s = [] ∧ decE s = 4) := dec_no
  have HYes : Hid (∀ c l, dec12 s = some (c, l) → decC s = c ∧ decL s = l ∧ decE s = 0) := fun c l h => dec_yes h
  obtain ⟨L, hL⟩ : ∃ x, texts s = x := ⟨_, rfl⟩
  obtain ⟨E, hE⟩ : ∃ x, errOf s = x := ⟨_, rfl⟩
  obtain ⟨DC, hDC⟩ : ∃ x, decC s = x := ⟨_, rfl⟩
  obtain ⟨DL, hDL⟩ : ∃ x, decL s = x := ⟨_, rfl⟩
  obtain ⟨DE, hDE⟩ : ∃ x, decE s = x := ⟨_, rfl⟩
  obtain ⟨D, hD⟩ : ∃ x, dec12 s = x := ⟨_, rfl⟩
  rw [hL] at HLl HC HN HY1 HY2 HOk hU hcnt
  rw [hE] at HE hU
  rw [hDC, hDL, hDE] at HNo HYes
  rw [hD] at HE HC HN HY1 HY2 HNo HYes
  rw [hDC, hDL, hDE]
  have hcntL : L.length ≤ 200000 := by omega
  clear hDC hDL hDE hD hL hE hW0 hQ hcnt hs he hb0e
  go_enter Tryd.func11, Tryd.ntmps11
  go_upto_region 1 with fail
  rw [HW.out, HQ.out]
  clear HW
  go_upto_region 2 with (first | (go_at_call 25; refine hU.mono ?_; clear hU; rintro e w1 ⟨v, rfl, hown, hb1⟩; obtain ⟨va, vc, rfl⟩ := owns_slice hown; have HOw := hown; have HSl : Hid (∀ W, Below w1.heap.size w1 W → Sl W (.slice va L.length vc) L) := fun W hW => Sl.of_owns (own_kept hown hW); have r1 := (hb1.block Q hlQ).trans r0))
  have hB1 := hb0.trans (hb1.mono (Nat.le_of_lt hlQ))
  have HOW : Hid (_) := HOw
  clear hown hb0 HOw
  by_cases hbad : E ≠ 0 ∨ E = 0 ∧ (L.length = 0 ∨ L.length ≠ 0 ∧ (L.length % 3 ≠ 0 ∨ L.length % 3 = 0 ∧ 9 < L.length / 3))
  · have hdn : D = none := by
      rcases hbad with h | ⟨_, h | ⟨_, h | ⟨_, h⟩⟩⟩
      · exact HE.out h
      · exact HC.out (.inl h)
      · exact HC.out (.inr (.inl h))
      · exact HC.out (.inr (.inr h))
    have HZ : Hid (DC = ⟨0, 0, [], 0, []⟩ ∧ DL = [] ∧ DE = 4) := HNo.out hdn
    have hcs : (E != 0) = true ∨ (E = 0 ∧ ((L.length : Int) == 0) = true) ∨ (E = 0 ∧ ((L.length : Int) == 0) = false ∧ (((L.length : Int) % 3) != 0) = true) ∨ (E = 0 ∧ ((L.length : Int) == 0) = false ∧ (((L.length : Int) % 3) != 0) = false ∧ decide ((9 : Int) < (L.length : Int) / 3) = true) := by
      rcases hbad with h | ⟨h0, h | ⟨h1, h | ⟨h2, h⟩⟩⟩
      · exact .inl (by simpa using h)
      · exact .inr (.inl ⟨h0, by rw [h]; rfl⟩)
      · exact .inr (.inr (.inl ⟨h0, by rw [beq_eq_false_iff_ne]; omega, by simp; omega⟩))
      · exact .inr (.inr (.inr ⟨h0, by rw [beq_eq_false_iff_ne]; omega, by simp; omega, by simp; omega⟩))
    obtain ⟨z0, z1, z2, z3, z4, z5, hBz⟩ := fin6 r1 hB1 (Nat.le_refl _) (.int .i64 0) (.int .i64 0) (.string ⟨#[]⟩) (.int .i64 0) (.slice none 0 0) (.slice none 0 0)
    unfold put6 at z0 z1 z2 z3 z4 z5 hBz
    have HF : Hid (_ ∧ _ ∧ _ ∧ _ ∧ _ ∧ _ ∧ _) := ⟨z0, z1, z2, z3, z4, z5, hBz⟩
    have f0 := frozenB r1 0
    have f1 := frozenB r1 1
    have f2 := frozenB r1 2
    have f3 := frozenB r1 3
    have f4 := frozenB r1 4
    have f5 := frozenB r1 5
    have s0 := cellB r1 0 _ rfl
    have s1 := cellB r1 1 _ rfl
    have s2 := cellB r1 2 _ rfl
    have s3 := cellB r1 3 _ rfl
    have s4 := cellB r1 4 _ rfl
    have s5 := cellB r1 5 _ rfl
    clear z0 z1 z2 z3 z4 z5 hBz hdn hbad HE HC HN HY1 HY2 HOk HNo HYes hB1 HSl HOW
    rcases hcs with h1 | ⟨rfl, h1⟩ | ⟨rfl, h1, h2⟩ | ⟨rfl, h1, h2, h3⟩
    all_goals
      go_wp2
      obtain ⟨z0, z1, z2, z3, z4, z5, hBz⟩ := HF.out
      obtain ⟨rfl, rfl, rfl⟩ := HZ.out
      exact bodyPost_ret (v := .tuple #[.agg #[.int .i64 0, .int .i64 0, .string ⟨#[]⟩, .int .i64 0, .slice none 0 0, .slice none 0 0], .int .i64 4]) (by simp [results, Tryd.f11, go_sem, z0, z1, z2, z3, z4, z5]) rfl ⟨_, _, rfl, Tl.nil _, Ml.nil _ _, hBz⟩
  · have hE0 : E = 0 := by
      by_cases h : E = 0
      · exact h
      · exact absurd (.inl h) hbad
    subst hE0
    have hl0 : L.length ≠ 0 := fun h => hbad (.inr ⟨rfl, .inl h⟩)
    have hm3 : L.length % 3 = 0 := by
      by_cases h : L.length % 3 = 0
      · exact h
      · exact absurd (.inr ⟨rfl, .inr ⟨hl0, .inl h⟩⟩) hbad
    have hl9 : L.length / 3 ≤ 9 := by
      by_cases h : 9 < L.length / 3
      · exact absurd (.inr ⟨rfl, .inr ⟨hl0, .inr ⟨hm3, h⟩⟩⟩) hbad
      · omega
    clear hbad HE HC
    have q0 : ((L.length : Int) == 0) = false := by rw [beq_eq_false_iff_ne]; omega
    have q1 : (((L.length : Int) % 3) != 0) = false := by simp; omega
    have q2 : decide ((9 : Int) < (L.length : Int) / 3) = false := by simp; omega
    have hl27 : L.length ≤ 29 := by omega
    obtain ⟨vb, vo, hva, hvl, hvcap⟩ : ∃ vb vo, va = some ⟨vb, vo, none⟩ ∧ vb < w1.heap.size ∧ L.length ≤ vc := by
      rcases HOW.out.2 with ⟨h, h0⟩ | ⟨g, cap, cur, h, _, h2, h3, _⟩
      · exact absurd h0 hl0
      · injection h with h4 h5 h6
        subst h4 h6
        exact ⟨g, 0, rfl, (Array.getElem?_eq_some_iff.1 h2).1, h3⟩
    subst hva
    go_upto_region 5 with fail
    have ha4 := (Below.refl w1.heap.size w1).alloc (Nat.le_refl _) (.cells #[.int .i64 0, .int .i64 0, .string ⟨#[]⟩, .int .i64 0, .slice none 0 0, .slice none 0 0] 27)
    have rO := heap_alloc_new w1 (.cells #[.int .i64 0, .int .i64 0, .string ⟨#[]⟩, .int .i64 0, .slice none 0 0, .slice none 0 0] 27)
    obtain ⟨W4, hW4⟩ : ∃ W, w1.alloc (.cells #[.int .i64 0, .int .i64 0, .string ⟨#[]⟩, .int .i64 0, .slice none 0 0, .slice none 0 0] 27) = W := ⟨_, rfl⟩
    rw [hW4] at ha4 rO ⊢
    obtain ⟨O, hO⟩ : ∃ O, w1.heap.size = O := ⟨_, rfl⟩
    have HO : Hid (w1.heap.size = O) := hO
    have hQO : Q < O := by have := hb1.size; omega
    rw [hO] at rO ha4 HSl hvl ⊢
    have hOl4 : O < W4.heap.size := (Array.getElem?_eq_some_iff.1 rO).1
    have HB1 : Hid (_) := hB1
    obtain ⟨i0, hi, hz0, hz1, hz2⟩ := info_parts Tryd.info55
    have HI : Hid (Tryd.prog.info? 55 = some i0 ∧ i0.zero = some (.agg #[.int .i64 0, .int .i64 0, .string ⟨#[]⟩, .int .i64 0, .slice none 0 0]) ∧ i0.size = 5 ∧ i0.bytes = 64) := ⟨hi, hz0, hz1, hz2⟩
    clear hW4 hO hB1 hi hz0 hz1 hz2 HOW
    go_wp2
    go_loopw [7] (fun p wr => ∃ (q : Nat) (e0 : Bq) (ua : Option Addr) (uc : Nat) (R : List Rq) (u : Value), p = .int .i64 q ∧ q ≤ L.length ∧ q % 3 = 0 ∧ Hid ((q = 0 ∧ e0 = Zb ∧ R = []) ∨ (3 ≤ q ∧ looseL (L.take q) = some (e0 :: R.map (·.1)))) ∧ wr.heap[O]? = some (.cells #[.int .i64 e0.n, .int .i64 e0.v, .string (bs e0.x), .int .i64 e0.g, .slice ua e0.T.length uc, u] 27) ∧ Hid (Rw (O + 1) 55 wr u R) ∧ Hid (Tw (O + 1) wr u (.slice ua e0.T.length uc) e0.T) ∧ Below O w1 wr ∧ O + 1 ≤ wr.heap.size)
      (fun p _ => L.length - (intOf p).toNat)
    case atStart => exact ⟨0, Zb, none, 0, [], .slice none 0 0, rfl, Nat.zero_le _, rfl, .inl ⟨rfl, rfl, rfl⟩, rO, Rw.nil _ _ _, ⟨Tl.nil _, fun h => absurd rfl h⟩, ha4, hOl4⟩
    case round =>
      obtain ⟨q, e0, ua, uc, R, u, rfl, hq, hq3, HEn, rO2, HRw, HTw, hB, hwl⟩ := hrel
      obtain ⟨oa, oc, rfl⟩ := owns_slice HRw.out.1
      have rQ : wr.heap[Q]? = some (.cells #[.int .i64 0, .int .i64 0, .string ⟨#[]⟩, .int .i64 0, .slice none 0 0, .slice none 0 0] 27) := (hB.block Q hQO).trans r1
      have hBQ : Below Q w wr := HB1.out.trans (hB.mono (Nat.le_of_lt hQO))
      have hQr : Q ≤ wr.heap.size := Nat.le_of_lt (Array.getElem?_eq_some_iff.1 rQ).1
      have HRl : Hid (R.length ≤ 9) := by
        show R.length ≤ 9
        rcases HEn.out with ⟨_, _, h⟩ | ⟨_, h⟩
        · rw [h]; simp
        · have := loose_len h
          rw [List.length_take, List.length_cons, List.length_map] at this
          omega
      by_cases hqe : q = L.length
      · have hL0 : looseL L = some (e0 :: R.map (·.1)) := by
          rcases HEn.out with ⟨h, _⟩ | ⟨_, h⟩
          · exact absurd (hqe.symm.trans h) hl0
          · rw [hqe, List.take_length] at h; exact h
        have hok := HOk.out _ hL0
        have hEc := shEncode_any e0 (R.map (·.1)) (.slice ua e0.T.length uc) (.slice oa R.length oc) wr (hok e0 (by simp)) (fun b hb => hok b (by simp [hb])) (HEnv.out wr hBQ).p HTw.out.1 HRw.out.ml
        have hyes := HY1.out _ _ hL0
        have hno := HY2.out _ _ hL0
        obtain ⟨SE, hSE⟩ : ∃ x, shE e0 (R.map (·.1)) = x := ⟨_, rfl⟩
        obtain ⟨SV, hSV⟩ : ∃ x, shV e0 (R.map (·.1)) = x := ⟨_, rfl⟩
        rw [hSE, hSV] at hEc hyes hno
        have hcs : (SE ≠ 0 ∧ (SE != 0) = true) ∨ (SE = 0 ∧ SV ≠ s ∧ ((bs SV).toList == (bs s).toList) = false) ∨ (SE = 0 ∧ SV = s) := by
          by_cases h1 : SE = 0
          · by_cases h2 : SV = s
            · exact .inr (.inr ⟨h1, h2⟩)
            · exact .inr (.inl ⟨h1, h2, str_other h2⟩)
          · exact .inl ⟨h1, by simpa using h1⟩
        have o0 := cellB rO2 0 _ rfl
        have o1 := cellB rO2 1 _ rfl
        have o2 := cellB rO2 2 _ rfl
        have o3 := cellB rO2 3 _ rfl
        have o4 := cellB rO2 4 _ rfl
        have o5 := cellB rO2 5 _ rfl
        have hqi : ¬ ((q : Int) < (L.length : Int)) := by omega
        have HCS : Hid (_) := hcs
        have HYY : Hid (_) := hyes
        have HNN : Hid (_) := hno
        clear hok hL0 hyes hno hSE hSV hcs
        go_upto_region 15 with (first | (go_at_call 8; refine hEc.mono ?_; clear hEc; rintro e w5 ⟨rfl, hb5⟩; have rQ5 := (hb5.block Q (by have := (Array.getElem?_eq_some_iff.1 rQ).1; exact this)).trans rQ; have rO5 := (hb5.block O (by omega)).trans rO2; have hB5 := hBQ.trans (hb5.mono hQr)))
        by_cases hgood : SE = 0 ∧ SV = s
        · obtain ⟨rfl, hSs⟩ := hgood
          subst hSs
          have hss := str_same SV
          have HZ : Hid (DC = e0 ∧ DL = R.map (·.1) ∧ DE = 0) := HYes.out _ _ (HYY.out rfl rfl)
          have hT5 := (HTw.out.1.below hb5 (Nat.le_refl _)).put6 (B := Q) (fun k hk hl => by have h1 := (HTw.out.2 hl k hk).1; omega) (.int .i64 e0.n) (.int .i64 e0.v) (.string (bs e0.x)) (.int .i64 e0.g) (.slice ua e0.T.length uc) (.slice oa R.length oc)
          have hM5 := ((HRw.out.below hb5).put6 (B := Q) (by omega) (.int .i64 e0.n) (.int .i64 e0.v) (.string (bs e0.x)) (.int .i64 e0.g) (.slice ua e0.T.length uc) (.slice oa R.length oc)).ml
          obtain ⟨z0, z1, z2, z3, z4, z5, hBz⟩ := fin6 rQ5 hB5 (Nat.le_refl _) (.int .i64 e0.n) (.int .i64 e0.v) (.string (bs e0.x)) (.int .i64 e0.g) (.slice ua e0.T.length uc) (.slice oa R.length oc)
          unfold put6 at z0 z1 z2 z3 z4 z5 hBz hT5 hM5
          have HF : Hid (_ ∧ _ ∧ _ ∧ _ ∧ _ ∧ _ ∧ _ ∧ _ ∧ _) := ⟨z0, z1, z2, z3, z4, z5, hBz, hT5, hM5⟩
          have f0 := frozenB rQ5 0
          have f1 := frozenB rQ5 1
          have f2 := frozenB rQ5 2
          have f3 := frozenB rQ5 3
          have f4 := frozenB rQ5 4
          have f5 := frozenB rQ5 5
          have s0 := cellB rQ5 0 _ rfl
          have s1 := cellB rQ5 1 _ rfl
          have s2 := cellB rQ5 2 _ rfl
          have s3 := cellB rQ5 3 _ rfl
          have s4 := cellB rQ5 4 _ rfl
          have s5 := cellB rQ5 5 _ rfl
          clear o0 o1 o2 o3 o4 o5
          have o0 := cellB rO5 0 _ rfl
          have o1 := cellB rO5 1 _ rfl
          have o2 := cellB rO5 2 _ rfl
          have o3 := cellB rO5 3 _ rfl
          have o4 := cellB rO5 4 _ rfl
          have o5 := cellB rO5 5 _ rfl
          clear z0 z1 z2 z3 z4 z5 hBz hT5 hM5 HN HY1 HY2 HNo HYes HYY HNN HCS HOk
          go_wp2
          obtain ⟨z0, z1, z2, z3, z4, z5, hBz, hT5, hM5⟩ := HF.out
          obtain ⟨rfl, rfl, rfl⟩ := HZ.out
          exact bodyPost_ret (v := .tuple #[.agg #[.int .i64 DC.n, .int .i64 DC.v, .string (bs DC.x), .int .i64 DC.g, .slice ua DC.T.length uc, .slice oa R.length oc], .int .i64 0]) (by simp [results, Tryd.f11, go_sem, z0, z1, z2, z3, z4, z5]) rfl ⟨_, _, rfl, hT5, hM5, hBz⟩
        · have HZ : Hid (DC = ⟨0, 0, [], 0, []⟩ ∧ DL = [] ∧ DE = 4) := HNo.out (HNN.out hgood)
          obtain ⟨z0, z1, z2, z3, z4, z5, hBz⟩ := fin6 rQ5 hB5 (Nat.le_refl _) (.int .i64 0) (.int .i64 0) (.string ⟨#[]⟩) (.int .i64 0) (.slice none 0 0) (.slice none 0 0)
          unfold put6 at z0 z1 z2 z3 z4 z5 hBz
          have HF : Hid (_ ∧ _ ∧ _ ∧ _ ∧ _ ∧ _ ∧ _) := ⟨z0, z1, z2, z3, z4, z5, hBz⟩
          have f0 := frozenB rQ5 0
          have f1 := frozenB rQ5 1
          have f2 := frozenB rQ5 2
          have f3 := frozenB rQ5 3
          have f4 := frozenB rQ5 4
          have f5 := frozenB rQ5 5
          have s0 := cellB rQ5 0 _ rfl
          have s1 := cellB rQ5 1 _ rfl
          have s2 := cellB rQ5 2 _ rfl
          have s3 := cellB rQ5 3 _ rfl
          have s4 := cellB rQ5 4 _ rfl
          have s5 := cellB rQ5 5 _ rfl
          have HGD : Hid (¬ (SE = 0 ∧ SV = s)) := hgood
          clear z0 z1 z2 z3 z4 z5 hBz HN HY1 HY2 HNo HYes HYY HNN HOk hgood
          have hcs2 : (SE != 0) = true ∨ (SE = 0 ∧ ((bs SV).toList == (bs s).toList) = false) := by
            rcases HCS.out with ⟨_, h⟩ | ⟨h1, _, h2⟩ | ⟨h1, h2⟩
            · exact .inl h
            · exact .inr ⟨h1, h2⟩
            · exact absurd ⟨h1, h2⟩ HGD.out
          clear HCS HGD
          rcases hcs2 with h1 | ⟨rfl, h1⟩
          all_goals
            go_wp2
            obtain ⟨z0, z1, z2, z3, z4, z5, hBz⟩ := HF.out
            obtain ⟨rfl, rfl, rfl⟩ := HZ.out
            exact bodyPost_ret (v := .tuple #[.agg #[.int .i64 0, .int .i64 0, .string ⟨#[]⟩, .int .i64 0, .slice none 0 0, .slice none 0 0], .int .i64 4]) (by simp [results, Tryd.f11, go_sem, z0, z1, z2, z3, z4, z5]) rfl ⟨_, _, rfl, Tl.nil _, Ml.nil _ _, hBz⟩
      · have hql : q + 2 < L.length := by omega
        obtain ⟨a, b, c, g0, g1, g2⟩ := get3 hql
        have hSl : Sl wr (.slice (some ⟨vb, vo + q, none⟩) 3 (vc - q)) [a, b, c] := by
          obtain ⟨g, o, cap, h1, hlt, c0, c1, c2⟩ := (HSl.out wr hB).three g0 g1 g2
          injection h1 with h1 _ h2
          injection h1 with h1
          injection h1 with h3 h4 _
          subst h3 h4
          refine .inr ⟨vb, vo + q, vc - q, rfl, hlt, fun i t ht => ?_⟩
          match i, ht with
          | 0, ht => simp at ht; subst ht; exact c0
          | 1, ht => simp at ht; subst ht; exact c1
          | 2, ht => simp at ht; subst ht; exact c2
          | i + 3, ht => simp at ht
        have hRE : Calls Tryd.prog 26 #[.slice (some ⟨vb, vo + q, none⟩) 3 (vc - q)] wr fun e W' => ∃ u, e = .returned (.tuple #[.int .i64 (eOf a b c).n, .int .i64 (eOf a b c).v, .agg #[.string (bs (eOf a b c).x), .int .i64 (eOf a b c).g, u], .int .i64 (cDecE c)]) ∧ Tp W' u (eOf a b c).T ∧ Fr wr.heap.size u ∧ Below wr.heap.size wr W' := readEntry_any a b c _ wr (HLl.out a (List.mem_of_getElem? g0)) (HLl.out b (List.mem_of_getElem? g1)) (HLl.out c (List.mem_of_getElem? g2)) (HEnv.out wr hBQ) hSl
        have HST : Hid (cDecE c = 0 → (q = 0 → looseL (L.take (q + 3)) = some [eOf a b c]) ∧ (3 ≤ q → looseL (L.take (q + 3)) = some (e0 :: (R.map (·.1) ++ [eOf a b c])))) := fun h => by
          rcases HEn.out with ⟨h0, _⟩ | ⟨h3, h4⟩
          · subst h0
            exact ⟨fun _ => loose_snoc (es := []) (by rw [List.take_zero]; rfl) g0 g1 g2 h, fun h => by omega⟩
          · exact ⟨fun h => by omega, fun _ => loose_snoc h4 g0 g1 g2 h⟩
        have HSP : Hid (cDecE c ≠ 0 → looseL L = none) := fun h => by
          rcases HEn.out with ⟨h0, _⟩ | ⟨h3, h4⟩
          · subst h0
            exact loose_stop (es := []) (by rw [List.take_zero]; rfl) g0 g1 g2 h
          · exact loose_stop h4 g0 g1 g2 h
        obtain ⟨b0, hb0⟩ : ∃ x, eOf a b c = x := ⟨_, rfl⟩
        obtain ⟨CE, hCE⟩ : ∃ x, cDecE c = x := ⟨_, rfl⟩
        rw [hb0, hCE] at hRE HST
        rw [hCE] at HSP
        have hq6 : (q : Int) ≤ 29 := by omega
        have hqi : (q : Int) < (L.length : Int) := by omega
        have hqi3 : (q : Int) + 3 ≤ (L.length : Int) := by omega
        have hqc : (q : Int) + 3 ≤ (vc : Int) := by omega
        have hcq : ¬ vc = q := by omega
        clear hb0 hCE g0 g1 g2 hSl
        go_upto_region 9 with (first | (go_at_call 26; refine hRE.mono ?_; clear hRE; rintro e w5 ⟨u5, rfl, hTp5, hFr5, hb5⟩; obtain ⟨sa, sc, rfl⟩ := hTp5.tl.slice))
        have ha6 := (Below.refl w5.heap.size w5).alloc (Nat.le_refl _) (.cells #[.string (bs b0.x), .int .i64 b0.g, .slice sa b0.T.length sc] 24)
        have rX6 := heap_alloc_new w5 (.cells #[.string (bs b0.x), .int .i64 b0.g, .slice sa b0.T.length sc] 24)
        have hT6 := hTp5.tl.below ha6 (Nat.le_refl _)
        obtain ⟨W6, hW6⟩ : ∃ W, w5.alloc (.cells #[.string (bs b0.x), .int .i64 b0.g, .slice sa b0.T.length sc] 24) = W := ⟨_, rfl⟩
        rw [hW6] at ha6 rX6 hT6 ⊢
        have hb6 : Below wr.heap.size wr W6 := hb5.trans (ha6.mono hb5.size)
        obtain ⟨X, hX⟩ : ∃ X, w5.heap.size = X := ⟨_, rfl⟩
        rw [hX] at rX6 ⊢
        have rQ6 := (hb6.block Q (Array.getElem?_eq_some_iff.1 rQ).1).trans rQ
        have rO6 := (hb6.block O (by omega)).trans rO2
        have HRw6 : Hid (Rw (O + 1) 55 W6 (.slice oa R.length oc) R) := HRw.out.below hb6
        have HTw6 : Hid (Tw (O + 1) W6 (.slice oa R.length oc) (.slice ua e0.T.length uc) e0.T) := HTw.out.below hb6
        have hBQ6 := hBQ.trans (hb6.mono hQr)
        have hs6 := hb6.size
        have HB6 : Hid (Below O w1 W6) := hB.trans (hb6.mono (by omega))
        have HT6 : Hid (Tl W6 (.slice sa b0.T.length sc) b0.T) := hT6
        clear hW6 hX ha6 hTp5 hT6
        by_cases hce : CE = 0
        · subst hce
          have x0 := cellB rX6 0 _ rfl
          have x1 := cellB rX6 1 _ rfl
          have x2 := cellB rX6 2 _ rfl
          by_cases hq0 : q = 0
          · subst hq0
            have HE2 : Hid (looseL (L.take 3) = some [b0]) := (HST.out rfl).1 rfl
            have r8 := put6_blk rO6 (.int .i64 b0.n) (.int .i64 b0.v) (.string (bs b0.x)) (.int .i64 b0.g) (.slice sa b0.T.length sc) (.slice none 0 0)
            have hT8 := HT6.out.put6 (B := O) (fun k hk _ => by have := hFr5 k hk; omega) (.int .i64 b0.n) (.int .i64 b0.v) (.string (bs b0.x)) (.int .i64 b0.g) (.slice sa b0.T.length sc) (.slice none 0 0)
            have hB8 := put6_below HB6.out (Nat.le_refl _) (.int .i64 b0.n) (.int .i64 b0.v) (.string (bs b0.x)) (.int .i64 b0.g) (.slice sa b0.T.length sc) (.slice none 0 0)
            have hS8 : O + 1 ≤ (put6 W6 O (.int .i64 b0.n) (.int .i64 b0.v) (.string (bs b0.x)) (.int .i64 b0.g) (.slice sa b0.T.length sc) (.slice none 0 0)).heap.size := by rw [put6_size]; omega
            have hW8 : Tw (O + 1) (put6 W6 O (.int .i64 b0.n) (.int .i64 b0.v) (.string (bs b0.x)) (.int .i64 b0.g) (.slice sa b0.T.length sc) (.slice none 0 0)) (.slice none 0 0) (.slice sa b0.T.length sc) b0.T := ⟨hT8, fun _ k hk => ⟨by have := hFr5 k hk; omega, by simp [Value.ownBlock]⟩⟩
            unfold put6 at r8 hB8 hS8 hW8
            have HF : Hid (_ ∧ _ ∧ _ ∧ _) := ⟨r8, hB8, hS8, hW8⟩
            have f0 := frozenB rO6 0
            have f1 := frozenB rO6 1
            have f2 := frozenB rO6 2
            have f3 := frozenB rO6 3
            have f4 := frozenB rO6 4
            have f5 := frozenB rO6 5
            have s0 := cellB rO6 0 _ rfl
            have s1 := cellB rO6 1 _ rfl
            have s2 := cellB rO6 2 _ rfl
            have s3 := cellB rO6 3 _ rfl
            have s4 := cellB rO6 4 _ rfl
            have s5 := cellB rO6 5 _ rfl
            clear r8 hT8 hB8 hS8 hW8 HST HSP
            go_wp2
            go_roundw
            case rel => exact ⟨3, b0, sa, sc, [], .slice none 0 0, by go_num, by omega, rfl, .inr ⟨Nat.le_refl _, HE2.out⟩, HF.out.1, Rw.nil _ _ _, HF.out.2.2.2, HF.out.2.1, HF.out.2.2.1⟩
            case measure => simp [intOf]; omega
          · have HE2 : Hid (looseL (L.take (q + 3)) = some (e0 :: (R ++ [((b0, sa, sc) : Rq)]).map (·.1))) := by show _ = _; rw [(HST.out rfl).2 (by omega), List.map_append]; rfl
            have hq0b : ((q : Int) == 0) = false := by rw [beq_eq_false_iff_ne]; omega
            have o5 := cellB rO6 5 _ rfl
            have haN := (Below.refl W6.heap.size W6).alloc (Nat.le_refl _) (.cells #[.int .i64 b0.n, .int .i64 b0.v, .string (bs b0.x), .int .i64 b0.g, .slice sa b0.T.length sc] 55)
            have hownN := HRw6.out.1.alloc (.cells #[.int .i64 b0.n, .int .i64 b0.v, .string (bs b0.x), .int .i64 b0.g, .slice sa b0.T.length sc] 55)
            have rON := (haN.block O (Nat.lt_of_lt_of_le (by omega) hs6)).trans rO6
            have hsN := haN.size
            have hlON : O < (W6.alloc (.cells #[.int .i64 b0.n, .int .i64 b0.v, .string (bs b0.x), .int .i64 b0.g, .slice sa b0.T.length sc] 55)).heap.size := by omega
            have hBN : O + 1 ≤ (W6.alloc (.cells #[.int .i64 b0.n, .int .i64 b0.v, .string (bs b0.x), .int .i64 b0.g, .slice sa b0.T.length sc] 55)).heap.size := by omega
            have hOo : some O ≠ (Value.slice oa R.length oc).ownBlock := fun h => by have := (HRw.out.1.lt O h.symm).1; omega
            have hml : R.length + 1 ≤ maxLen := by have := HRl.out; unfold maxLen; omega
            have hmb : (R.length + 1) * 64 ≤ 140737488355328 := by have := HRl.out; omega
            obtain ⟨XS, hXS⟩ : ∃ x, R.flatMap m5 = x := ⟨_, rfl⟩
            have HXS : Hid (R.flatMap m5 = XS) := hXS
            rw [hXS] at hownN
            clear hXS HST HSP hBQ6
            go_wp2_with (first | (at_builtin; refine wpList_append_lies _ rfl _ _ 25 rfl (O + 1) 55 i0 (.agg #[.int .i64 0, .int .i64 0, .string ⟨#[]⟩, .int .i64 0, .slice none 0 0]) 5 64 Tryd.underlying25 HI.out.1 HI.out.2.1 HI.out.2.2.1 HI.out.2.2.2 rfl (by decide) _ R.length XS rfl hownN ⟨W6.heap.size, 0, none⟩ 1 1 [.int .i64 b0.n, .int .i64 b0.v, .string (bs b0.x), .int .i64 b0.g, .slice sa b0.T.length sc] rfl rfl (cells_new W6 #[.int .i64 b0.n, .int .i64 b0.v, .string (bs b0.x), .int .i64 b0.g, .slice sa b0.T.length sc] 55) (by simp [Value.oneCell']) (by decide) hml hmb hBN _ rfl ?_; intro ga ca w7 hown7 hgrow hat hlt7; have rO7 := (hgrow.block O hlON hOo).trans rON; have t5 := cellB rO7 5 _ rfl; have ft := frozenB rO7 5))
            have haB := (Below.refl W6.heap.size W6).alloc (Nat.le_refl _) (.cells #[.int .i64 b0.n, .int .i64 b0.v, .string (bs b0.x), .int .i64 b0.g, .slice sa b0.T.length sc] 55)
            have hRN : Rw (O + 1) 55 (W6.alloc (.cells #[.int .i64 b0.n, .int .i64 b0.v, .string (bs b0.x), .int .i64 b0.g, .slice sa b0.T.length sc] 55)) (.slice oa R.length oc) R := Rw.below HRw6.out haB
            have hTN : Tw (O + 1) (W6.alloc (.cells #[.int .i64 b0.n, .int .i64 b0.v, .string (bs b0.x), .int .i64 b0.g, .slice sa b0.T.length sc] 55)) (.slice oa R.length oc) (.slice ua e0.T.length uc) e0.T := Tw.below HTw6.out haB
            have hR7 := hRN.snoc (b0, sa, sc) (Tl.below HT6.out haB (Nat.le_refl _)) (fun _ q hq => ⟨by have := hFr5 q hq; omega, fun he => by have h1 := hFr5 q hq; have h3 := (HRw.out.1.lt q he).2; omega⟩) (by rw [HXS.out]; exact hown7) hgrow hat rfl
            have HR8 : Hid (_) := hR7.set (B := O) (Nat.lt_succ_self _) 5 (.slice (some ⟨ga, 0, none⟩) (R.length + 1) ca)
            have HT8 : Hid (_) := (hTN.snoc (n := R.length + 1) (cap := ca) hgrow hat rfl).set (B := O) (Nat.lt_succ_self _) 5 (.slice (some ⟨ga, 0, none⟩) (R.length + 1) ca)
            have r8 := set1 rO7 5 (.slice (some ⟨ga, 0, none⟩) (R.length + 1) ca)
            have hs7 := hgrow.size
            have HB8 : Hid (Below O w1 (w7.setCell ⟨O, 5, none⟩ (.slice (some ⟨ga, 0, none⟩) (R.length + 1) ca))) := by
              have h2 := (HB6.out.trans (haB.mono (by omega))).grown hgrow (by omega) (fun q hq => by have := (HRw6.out.1.lt q hq).1; omega)
              exact h2.setCell (p := ⟨O, 5, none⟩) (Nat.le_refl _) _
            have HS8 : Hid (O + 1 ≤ (w7.setCell ⟨O, 5, none⟩ (.slice (some ⟨ga, 0, none⟩) (R.length + 1) ca)).heap.size) := by show _ ≤ _; simp only [World.setCell, Array.size_modify]; omega
            clear hR7 hRN hTN hown7 hgrow hat hlt7 rO7 hownN rON haN hs7 x0 x1 x2 o5 t5 ft
            go_roundw
            case rel => exact ⟨q + 3, e0, ua, uc, R ++ [(b0, sa, sc)], .slice (some ⟨ga, 0, none⟩) (R.length + 1) ca, by go_num, by omega, by omega, .inr ⟨by omega, HE2.out⟩, r8, HR8, HT8, HB8.out, HS8.out⟩
            case measure => simp [intOf]; omega
        · have hceb : (CE != 0) = true := by simpa using hce
          have HZ : Hid (DC = ⟨0, 0, [], 0, []⟩ ∧ DL = [] ∧ DE = 4) := HNo.out (HN.out (HSP.out hce))
          obtain ⟨z0, z1, z2, z3, z4, z5, hBz⟩ := fin6 rQ6 hBQ6 (Nat.le_refl _) (.int .i64 0) (.int .i64 0) (.string ⟨#[]⟩) (.int .i64 0) (.slice none 0 0) (.slice none 0 0)
          unfold put6 at z0 z1 z2 z3 z4 z5 hBz
          have HF : Hid (_ ∧ _ ∧ _ ∧ _ ∧ _ ∧ _ ∧ _) := ⟨z0, z1, z2, z3, z4, z5, hBz⟩
          have f0 := frozenB rQ6 0
          have f1 := frozenB rQ6 1
          have f2 := frozenB rQ6 2
          have f3 := frozenB rQ6 3
          have f4 := frozenB rQ6 4
          have f5 := frozenB rQ6 5
          have s0 := cellB rQ6 0 _ rfl
          have s1 := cellB rQ6 1 _ rfl
          have s2 := cellB rQ6 2 _ rfl
          have s3 := cellB rQ6 3 _ rfl
          have s4 := cellB rQ6 4 _ rfl
          have s5 := cellB rQ6 5 _ rfl
          clear z0 z1 z2 z3 z4 z5 hBz HN HY1 HY2 HOk HNo HYes HST HSP rX6 hce
          go_wp2
          obtain ⟨z0, z1, z2, z3, z4, z5, hBz⟩ := HF.out
          obtain ⟨rfl, rfl, rfl⟩ := HZ.out
          exact bodyPost_ret (v := .tuple #[.agg #[.int .i64 0, .int .i64 0, .string ⟨#[]⟩, .int .i64 0, .slice none 0 0, .slice none 0 0], .int .i64 4]) (by simp [results, Tryd.f11, go_sem, z0, z1, z2, z3, z4, z5]) rfl ⟨_, _, rfl, Tl.nil _, Ml.nil _ _, hBz⟩
end Go.Proofs.YtifalaigfinciaaDoor
