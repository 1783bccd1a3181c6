/- The document's pool answers as the program's. -/
import Derived.Test.YtbibfhhnnjojnaaBtT
namespace Go.Proofs.Ytbibfhhnnjojnaa
open Go.RowKit

theorem hitB_any (p : Rq → Bool) (l : List Rq) : hitB p l = l.any p := by
  unfold hitB
  rw [List.findIdx?_isSome]
theorem dropL_up {l : List Rq} {D : Nat → Int} (h : Inv l D) (c n : Int) : dropL c n l = rmL (upP c n) l := (rm_filter (h.uniq (p := upP c n) (c := c) (fun _ ha => upP_c ha))).symm
theorem dropL_of {l : List Rq} {D : Nat → Int} (h : Inv l D) {c n : Int} (h1 : ∀ a ∈ l, ofP c a = true → a.2.1 < n) : dropL c n l = rmL (ofP c) l := by
  rw [rm_filter (h.uniq (p := ofP c) (c := c) (fun a ha => ofP_c ha))]
  apply List.filter_congr
  intro a ha
  congr 1
  cases ho : ofP c a
  · have : a.1 ≠ c := fun e => by simp [ofP, e] at ho
    simp [upP, this]
  · have := h1 a ha ho
    have hc := ofP_c ho
    simp [upP, hc]; omega
theorem dropL_ex {l : List Rq} {D : Nat → Int} (h : Inv l D) {c n : Int} {i : Nat} (hi : l.findIdx? (exP c n) = some i) : dropL c n l = rmL (exP c n) l := by
  rw [rm_filter (h.uniq (p := exP c n) (c := c) (fun a ha => exP_c ha))]
  have hst := List.findIdx?_eq_some_iff_getElem.1 hi
  obtain ⟨hil, hp, _⟩ := hst
  have hmem : l[i] ∈ l := List.getElem_mem hil
  apply List.filter_congr
  intro a ha
  congr 1
  by_cases hc : a.1 = c
  · have hai : a = l[i] := by
      obtain ⟨j, hj, e⟩ := List.getElem_of_mem ha
      have hone := h.one
      rw [List.pairwise_iff_getElem] at hone
      by_cases hji : j = i
      · subst hji; exact e.symm
      · exfalso
        have hci := exP_c hp
        rcases Nat.lt_or_gt_of_ne hji with h1 | h1
        · exact hone j i hj hil h1 (by rw [e, hc, hci])
        · exact hone i j hil hj h1 (by rw [e, hc, hci])
    rw [hai]
    rw [hp]
    simp [exP] at hp
    simp [upP, hp.1, hp.2]
  · simp [upP, exP, hc]
theorem drop_hit {l : List Rq} {D : Nat → Int} (h : Inv l D) (c n : Int) : decide ((dropL c n l).length < l.length) = hitB (upP c n) l := by
  rw [dropL_up h]
  unfold hitB rmL
  cases hi : l.findIdx? (upP c n) with
  | none => simp
  | some i =>
    have := idx_lt hi
    simp only [Option.isSome_some, decide_eq_true_eq]
    rw [List.length_eraseIdx_of_lt this]; omega
theorem drop_hit2 {l : List Rq} {D : Nat → Int} (h : Inv l D) {c n : Int} {i : Nat} (hi : l.findIdx? (exP c n) = some i) : decide ((dropL c n l).length < l.length) = true := by
  rw [dropL_ex h hi]
  unfold rmL
  rw [hi]
  have := idx_lt hi
  simp only [decide_eq_true_eq]
  rw [List.length_eraseIdx_of_lt this]; omega
/-- What is done, told twice. -/
structure Lk (F : List Rq) (D : Nat → Int) : Prop where
  ok : ∀ d ∈ F, 0 ≤ d.1 ∧ d.1 < 64
  eq : ∀ c : Nat, c < 64 → lastF F c = D c
theorem Lk.new : Lk [] (fun _ => 0) := ⟨by simp, fun _ _ => rfl⟩
theorem lastF_none {F : List Rq} {c : Int} (h : ∀ d ∈ F, d.1 ≠ c) : lastF F c = 0 := by
  unfold lastF
  suffices ∀ m, F.foldl (fun m d => if d.1 = c ∧ m < d.2.1 then d.2.1 else m) m = m by exact this 0
  induction F with
  | nil => intro m; rfl
  | cons a r ih =>
    intro m
    rw [List.foldl_cons, if_neg (fun e => h a (List.mem_cons_self ..) e.1)]
    exact ih (fun d hd => h d (List.mem_cons_of_mem _ hd)) m
theorem Lk.last {F : List Rq} {D : Nat → Int} (h : Lk F D) (c : Int) : lastF F c = lastV D c := by
  unfold lastV
  cases hc : callB c
  · rw [if_neg (by decide)]
    apply lastF_none
    intro d hd e
    have := h.ok d hd
    rw [e] at this
    simp [callB] at hc
    omega
  · rw [if_pos rfl]
    have hb := callB_t hc
    have := h.eq c.toNat (by omega)
    rw [show ((c.toNat : Nat) : Int) = c by omega] at this
    exact this
theorem Lk.at {F : List Rq} {D : Nat → Int} (h : Lk F D) {c n : Int} (hok : okB c n = true) : lastF F c = D c.toNat := by
  have hb := okB_t hok
  have := h.eq c.toNat (by omega)
  rw [show ((c.toNat : Nat) : Int) = c by omega] at this
  exact this
theorem Lk.done {F : List Rq} {D : Nat → Int} (h : Lk F D) {c n : Int} (hok : okB c n = true) : Lk (F ++ [(c, n, [])]) (updM D c.toNat n) := by
  have hb := okB_t hok
  refine ⟨fun d hd => ?_, fun q hq => ?_⟩
  · rcases List.mem_append.1 hd with hd | hd
    · exact h.ok d hd
    · simp at hd; subst hd; exact ⟨hb.1, hb.2.1⟩
  · rw [lastF_snoc, h.eq q hq]
    unfold updM upd
    by_cases e : q = c.toNat
    · rw [if_pos e, ← e]
      have e2 : c = (q : Int) := by omega
      show (if c = (q : Int) ∧ D q < n then n else D q) = _
      by_cases e3 : D q < n
      · rw [if_pos ⟨e2, e3⟩]; omega
      · rw [if_neg (fun h => e3 h.2)]; omega
    · rw [if_neg e]
      show (if c = (q : Int) ∧ D q < n then n else D q) = _
      rw [if_neg (fun h => e (by have := h.1; omega))]
theorem rAdd_all {base : Nat} {w : World} {R : Nat} {vl vd : Value} {l F : List Rq} {D : Nat → Int} (h : RefAt base w R vl vd l F) (hi : Inv l D) (hk : Lk F D) (hF : F.length ≤ 1000) (c n : Int) (t : List UInt8) (b1 : Bool) (e1 : Int) (l1 : List Rq) (hR : addR c n t l D = (b1, e1, l1)) :
    Calls Try.prog 10 #[.pointer (some ⟨R, 0, none⟩), .agg #[.int .i64 c, .int .i64 n, .string (bs t)]] w fun e W' => e = .returned (.tuple #[.bool b1, .int .i64 e1]) ∧ ∃ vl', RefAt base W' R vl' vd l1 F ∧ Mvd (fpR R vl vd) (fpR R vl' vd) w W' := by
  have hl : l.length ≤ 1000 := Nat.le_trans hi.len (by decide)
  have stay : ∀ (b : Bool) (x : Int), (Calls Try.prog 10 #[.pointer (some ⟨R, 0, none⟩), .agg #[.int .i64 c, .int .i64 n, .string (bs t)]] w fun e W' => e = .returned (.tuple #[.bool b, .int .i64 x]) ∧ Below w.heap.size w W') → Calls Try.prog 10 #[.pointer (some ⟨R, 0, none⟩), .agg #[.int .i64 c, .int .i64 n, .string (bs t)]] w fun e W' => e = .returned (.tuple #[.bool b, .int .i64 x]) ∧ ∃ vl', RefAt base W' R vl' vd l F ∧ Mvd (fpR R vl vd) (fpR R vl' vd) w W' := by
    intro b x hC
    refine hC.mono ?_
    rintro e W' ⟨rfl, hb⟩
    exact ⟨rfl, vl, h.next hb, Mvd.of_below hb _⟩
  unfold addR at hR
  by_cases h1 : okB c n = false
  · rw [if_pos h1] at hR
    injection hR with a1 a2
    injection a2 with a2 a3
    subst a1 a2 a3
    exact stay _ _ (rAdd_no _ c n t h1 w)
  · rw [if_neg h1] at hR
    have hok : okB c n = true := by simpa using h1
    by_cases h2 : 4000 < t.length
    · rw [if_pos h2] at hR
      injection hR with a1 a2
      injection a2 with a2 a3
      subst a1 a2 a3
      exact stay _ _ (rAdd_long _ c n t hok h2 w)
    · rw [if_neg h2] at hR
      have hla := hk.at hok
      by_cases h3 : n ≤ D c.toNat
      · rw [if_pos h3] at hR
        injection hR with a1 a2
        injection a2 with a2 a3
        subst a1 a2 a3
        exact stay _ _ (rAdd_old h hF c n t hok (by omega) (by rw [hla]; exact h3))
      · rw [if_neg h3] at hR
        have hD : lastF F c < n := by rw [hla]; omega
        cases hx : l.findIdx? (ofP c) with
        | some i =>
          rw [hx] at hR
          have hil := idx_lt hx
          obtain ⟨a, ha⟩ : ∃ a, l[i]? = some a := ⟨_, List.getElem?_eq_getElem hil⟩
          simp only [ha, Option.getD_some] at hR
          by_cases h4 : n ≤ a.2.1
          · rw [if_pos h4] at hR
            injection hR with a1 a2
            injection a2 with a2 a3
            subst a1 a2 a3
            exact stay _ _ (rAdd_there h hl hF c n t hok (by omega) hD i a hx ha h4)
          · rw [if_neg h4] at hR
            injection hR with a1 a2
            injection a2 with a2 a3
            subst a1 a2 a3
            have hac : a.1 = c := by
              obtain ⟨_, hp, _⟩ := List.findIdx?_eq_some_iff_getElem.1 hx
              obtain ⟨_, ek⟩ := List.getElem?_eq_some_iff.1 ha
              rw [ek] at hp
              exact ofP_c hp
            have hlt1 : ∀ b ∈ l, ofP c b = true → b.2.1 < n := by
              intro b hb hp
              have hbc := ofP_c hp
              obtain ⟨j, hj, e⟩ := List.getElem_of_mem hb
              obtain ⟨_, ek⟩ := List.getElem?_eq_some_iff.1 ha
              have hone := hi.one
              rw [List.pairwise_iff_getElem] at hone
              by_cases hji : j = i
              · subst hji; rw [← e, ek]; omega
              · exfalso
                rcases Nat.lt_or_gt_of_ne hji with h5 | h5
                · exact hone j i hj hil h5 (by rw [e, ek, hbc, hac])
                · exact hone i j hil hj h5 (by rw [e, ek, hbc, hac])
            rw [← dropL_of hi hlt1]
            have hth : l.any (ofP c) = true := by rw [← hitB_any]; unfold hitB; rw [hx]; rfl
            exact rAdd_ok h hl hF c n t hok (by omega) hD hlt1 true hth (.inl rfl)
        | none =>
          rw [hx] at hR
          have hth : l.any (ofP c) = false := by rw [← hitB_any]; unfold hitB; rw [hx]; rfl
          have hlt1 : ∀ b ∈ l, ofP c b = true → b.2.1 < n := by
            intro b hb hp
            exfalso
            rw [List.any_eq_false] at hth
            exact hth b hb hp
          by_cases h4 : 24 ≤ l.length
          · simp only [if_pos h4] at hR
            injection hR with a1 a2
            injection a2 with a2 a3
            subst a1 a2 a3
            exact stay _ _ (rAdd_full h hl hF c n t hok (by omega) hD hlt1 hth h4)
          · simp only [if_neg h4] at hR
            injection hR with a1 a2
            injection a2 with a2 a3
            subst a1 a2 a3
            rw [← dropL_of hi hlt1]
            exact rAdd_ok h hl hF c n t hok (by omega) hD hlt1 false hth (.inr ⟨rfl, by omega⟩)
theorem rFinish_all {base : Nat} {w : World} {R : Nat} {vl vd : Value} {l F : List Rq} {D : Nat → Int} (h : RefAt base w R vl vd l F) (hi : Inv l D) (hk : Lk F D) (hF : F.length ≤ 1000) (c n : Int) (b1 : Bool) (e1 : Int) (l1 : List Rq) (D1 : Nat → Int) (hR : doneR c n l D = (b1, e1, l1, D1)) :
    Calls Try.prog 13 #[.pointer (some ⟨R, 0, none⟩), .int .i64 c, .int .i64 n] w fun e W' => e = .returned (.tuple #[.bool b1, .int .i64 e1]) ∧ ∃ vl' vd' F1, RefAt base W' R vl' vd' l1 F1 ∧ Mvd (fpR R vl vd) (fpR R vl' vd') w W' ∧ Lk F1 D1 ∧ F1.length ≤ F.length + 1 := by
  have hl : l.length ≤ 1000 := Nat.le_trans hi.len (by decide)
  unfold doneR at hR
  by_cases h1 : okB c n = false
  · rw [if_pos h1] at hR
    injection hR with a1 a2
    injection a2 with a2 a3
    injection a3 with a3 a4
    subst a1 a2 a3 a4
    refine (rFinish_no _ h1 w).mono ?_
    rintro e W' ⟨rfl, rfl⟩
    exact ⟨rfl, vl, vd, F, h, Mvd.of_below (Below.refl _ _) _, hk, by omega⟩
  · rw [if_neg h1] at hR
    have hok : okB c n = true := by simpa using h1
    injection hR with a1 a2
    injection a2 with a2 a3
    injection a3 with a3 a4
    subst a1 a2 a3 a4
    have := rFinish_any h hl hF hok
    rw [drop_hit hi, dropL_up hi] at this
    refine this.mono ?_
    rintro e W' ⟨rfl, vl', vd', h', hm⟩
    exact ⟨rfl, vl', vd', _, h', hm, hk.done hok, by rw [List.length_append]; simp⟩
theorem rForget_all {base : Nat} {w : World} {R : Nat} {vl vd : Value} {l F : List Rq} {D : Nat → Int} (h : RefAt base w R vl vd l F) (hi : Inv l D) (c n : Int) (b1 : Bool) (e1 : Int) (l1 : List Rq) (hR : forR c n l = (b1, e1, l1)) :
    Calls Try.prog 15 #[.pointer (some ⟨R, 0, none⟩), .int .i64 c, .int .i64 n] w fun e W' => e = .returned (.tuple #[.bool b1, .int .i64 e1]) ∧ ∃ vl', RefAt base W' R vl' vd l1 F ∧ Mvd (fpR R vl vd) (fpR R vl' vd) w W' := by
  have hl : l.length ≤ 1000 := Nat.le_trans hi.len (by decide)
  unfold forR at hR
  by_cases h1 : okB c n = false
  · rw [if_pos h1] at hR
    injection hR with a1 a2
    injection a2 with a2 a3
    subst a1 a2 a3
    refine (rForget_no _ h1 w).mono ?_
    rintro e W' ⟨rfl, rfl⟩
    exact ⟨rfl, vl, h, Mvd.of_below (Below.refl _ _) _⟩
  · rw [if_neg h1] at hR
    have hok : okB c n = true := by simpa using h1
    injection hR with a1 a2
    injection a2 with a2 a3
    subst a1 a2 a3
    refine rForget_any h hl hok _ _ ?_
    cases hx : l.findIdx? (exP c n) with
    | none => left; exact ⟨rfl, by unfold hitB; rw [hx]; rfl, by unfold rmL; rw [hx]⟩
    | some i => right; exact ⟨i, rfl, by rw [drop_hit2 hi hx]; unfold hitB; rw [hx]; rfl, (dropL_ex hi hx).symm⟩
end Go.Proofs.Ytbibfhhnnjojnaa
