/- The document's own window: At, walked. -/
import Derived.Test.YtobojfkoffhljaaWrC
namespace Go.Proofs.Ytobojfkoffhljaa
open Go.RowKit
attribute [local go_sem ↓] Go.wp_at_zero Go.wp_at_succ

theorem rAt_bad {base : Nat} {w : World} {R : Nat} {low : Int} {vl vd : Value} {l F : List Rq} (h : RefAt base w R low vl vd l F) (h0 : 0 ≤ low) (h1 : low ≤ 1099511627768) {view n : Int} (hE : askE low view n ≠ 0) : Calls Try.prog 26 #[.pointer (some ⟨R, 0, none⟩), .int .i64 view, .int .i64 n] w fun e W' => e = .returned (.int .i64 (askE low view n)) ∧ W' = w := by
  have hA := rAsk_any h h0 h1 view n
  obtain ⟨e0, he0⟩ : ∃ e0 : Int, askE low view n = e0 := ⟨_, rfl⟩
  rw [he0] at hA hE ⊢
  have hz1 : (e0 == 0) = false := by simp [hE]
  clear he0 h
  go_enter Try.func26, Try.ntmps26
  go_wp2_with (first | (go_at_call 40; refine hA.mono ?_; rintro e w1 ⟨rfl, h9⟩; replace h9 := h9.symm; subst h9))
  go_ret
  exact ⟨rfl, rfl⟩
/-- Is it this place? -/
def plP (view n : Int) (a : Rq) : Bool := decide (a.1 = view) && decide (a.2.1 = n)
set_option maxRecDepth 20000 in
set_option maxHeartbeats 4000000 in
theorem rAt_ok {base : Nat} {w : World} {R : Nat} {low : Int} {vl vd : Value} {l F : List Rq} (h : RefAt base w R low vl vd l F) (hl : l.length ≤ 1000) (h0 : 0 ≤ low) (h1 : low ≤ 1099511627768) {view n : Int} (hE : askE low view n = 0) : Calls Try.prog 26 #[.pointer (some ⟨R, 0, none⟩), .int .i64 view, .int .i64 n] w fun e W' => e = .returned (.int .i64 0) ∧ ∃ vl', RefAt base W' R low vl' vd (if l.any (plP view n) = true then l else l ++ [(view, n, [])]) F ∧ Mvd (fpR R vl vd) (fpR R vl' vd) w W' := by
  have hA := rAsk_any h h0 h1 view n
  rw [hE] at hA
  obtain ⟨la, lc, rfl⟩ := owns_slice h.own
  obtain ⟨i9, hi9, hz0, hz1, hz2⟩ := info_parts Try.info42
  have c1 := cellB h.blk 1 (.slice la l.length lc) rfl
  have HH : Hid (_) := h
  clear h hE h0 h1
  go_enter Try.func26, Try.ntmps26
  go_wp2_with (first | (go_at_call 40; refine hA.mono ?_; rintro e w1 ⟨rfl, h9⟩; replace h9 := h9.symm; subst h9))
  go_loopg [22] l.length (fun gk i wr => ∃ k : Nat, k + gk = l.length ∧ i = .int .i64 k ∧ Hid (∀ a ∈ l.take k, plP view n a = false) ∧ Below w.heap.size w wr)
  case atStart => exact ⟨0, by omega, rfl, by show ∀ a ∈ _, _; simp, Below.refl _ _⟩
  case round =>
    obtain ⟨k, hk, rfl, hno, hB⟩ := hrel
    clear hA
    by_cases hlt : k < l.length
    · obtain ⟨⟨c5, n5, t5⟩, hx⟩ : ∃ a, l[k]? = some a := ⟨_, List.getElem?_eq_getElem hlt⟩
      obtain ⟨gb, gc, hgv, hg1, hg2, y0, y1, y2⟩ := row_at (owns_next HH.out.own hB) hx
      injection hgv with f1 _ f2
      subst f1 f2
      simp only at y0 y1 y2
      have q0 : (0 : Int) ≤ (k : Int) := by omega
      have q1 : (k : Int) < (l.length : Int) := by omega
      have HB1 : Hid (_) := hB.alloc hB.size (.cells #[.int .i64 c5, .int .i64 n5, .string (bs t5)] 42)
      have hcc : (c5 = view ∧ n5 = n) ∨ ((c5 == view) = false ∧ plP view n (c5, n5, t5) = false) ∨ (c5 = view ∧ (n5 == n) = false ∧ plP view n (c5, n5, t5) = false) := by
        by_cases e1 : c5 = view
        · by_cases e2 : n5 = n
          · exact .inl ⟨e1, e2⟩
          · exact .inr (.inr ⟨e1, by simp [e2], by simp [plP, e2]⟩)
        · exact .inr (.inl ⟨by simp [e1], by simp [plP, e1]⟩)
      have HN : Hid (plP view n (c5, n5, t5) = false → ∀ a ∈ l.take (k + 1), plP view n a = false) := by
        intro hp
        rw [take_snoc hx]
        intro a ha
        rcases List.mem_append.1 ha with h9 | h9
        · exact hno.out a h9
        · simp at h9; subst h9; exact hp
      have HM : Hid ((c5, n5, t5) ∈ l) := List.mem_of_getElem? hx
      clear hx hg1 hno
      rcases hcc with ⟨e1, e2⟩ | ⟨e1, e3⟩ | ⟨e1, e2, e3⟩
      · have HT : Hid (l.any (plP view n) = true) := List.any_eq_true.2 ⟨_, HM.out, by simp [plP, e1, e2]⟩
        subst e1 e2
        clear HM HN
        go_wp2
        go_ret
        have hfin := HH.out.next HB1.out
        exact ⟨rfl, _, by first | exact hfin | (rw [if_pos HT.out]; exact hfin), Mvd.of_below HB1.out _⟩
      · have HN2 : Hid (_) := HN.out e3
        clear e3 HN HM
        go_wp2
        go_roundg (l.length - (k + 1))
        case measure => omega
        case rel => exact ⟨k + 1, by omega, by go_num, HN2.out, HB1.out⟩
      · have HN2 : Hid (_) := HN.out e3
        subst e1
        clear e3 HN HM
        go_wp2
        go_roundg (l.length - (k + 1))
        case measure => omega
        case rel => exact ⟨k + 1, by omega, by go_num, HN2.out, HB1.out⟩
    · have hkl : k = l.length := by omega
      clear hk
      subst hkl
      have HT : Hid (¬ l.any (plP view n) = true) := by
        have hn := hno.out
        rw [List.take_length] at hn
        show ¬ _
        rw [List.any_eq_true]
        rintro ⟨a, ha, hp⟩
        rw [hn a ha] at hp
        cases hp
      clear hno hlt
      have h1 := HH.out.next hB
      have hba : Below wr.heap.size wr (wr.alloc (.cells #[.int .i64 view, .int .i64 n, .string ⟨#[]⟩] 42)) := (Below.refl _ _).alloc (Nat.le_refl _) _
      have h2 := h1.next hba
      have hown := h2.own
      have c2 := cellB h1.blk 1 (.slice la l.length lc) rfl
      have hml : l.length + 1 ≤ maxLen := by unfold maxLen; omega
      have hkb : (l.length + 1) * 32 ≤ 140737488355328 := by omega
      have hwl : base ≤ (wr.alloc (.cells #[.int .i64 view, .int .i64 n, .string ⟨#[]⟩] 42)).heap.size := h2.le
      obtain ⟨Q, hQr⟩ : ∃ Q, rcs l = Q := ⟨_, rfl⟩
      have HQ : Hid (rcs l = Q) := hQr
      rw [hQr] at hown
      have HX : Hid (_ ∧ _) := ⟨h2, hB.trans (hba.mono hB.size)⟩
      clear h1 h2 hba hQr hB
      go_wp2_with (first
        | (at_builtin; refine wpList_append_lies _ rfl _ _ 30 rfl base 42 i9 (.agg #[.int .i64 0, .int .i64 0, .string ⟨#[]⟩]) 3 32 Try.underlying30 hi9 hz0 hz1 hz2 rfl (by decide) (.slice la l.length lc) l.length Q rfl hown ⟨wr.heap.size, 0, none⟩ 1 1 [.int .i64 view, .int .i64 n, .string ⟨#[]⟩] rfl rfl (World.news_of_block (heap_alloc_new _ _)) (by simp [Value.oneCell']) (by decide) hml hkb hwl _ rfl ?_; intro ga ca w6 hown7 hgrow hat hlt6; have rc6 := (hgrow.block R HX.out.1.lt (fun e => HX.out.1.n1 e.symm)).trans HX.out.1.blk; have f1 := frozenB rc6 1; have s1 := cellB rc6 1 _ rfl))
      obtain ⟨h1, hba⟩ := HX.out
      have hgR : ga ≠ R := by
        rcases hat with e | e
        · exact fun e2 => h1.n1 (by rw [e, e2])
        · have := h1.lt; omega
      have hgv : vd.ownBlock ≠ some ga := by
        intro e2
        rcases hat with e | e
        · exact h1.n3 ga e e2
        · have := (h1.dn.lt ga e2).2; omega
      have hR7 : RefAt base (w6.setCell ⟨R, 1, none⟩ (.slice (some ⟨ga, 0, none⟩) (l.length + 1) ca)) R low (.slice (some ⟨ga, 0, none⟩) (l.length + 1) ca) vd (l ++ [(view, n, [])]) F := by
        refine ⟨setB rc6 1 _, ?_, ?_, fun e => hgR (Option.some.inj e), h1.n2, fun k e1 e2 => hgv (by rw [e2]; exact e1.symm), h1.base⟩
        · rw [rcs_append, List.length_append, HQ.out]
          exact owns_kept hown7 (fun k hk => set_far (by rw [← Option.some.inj hk]; exact hgR) _ _)
        · exact owns_kept h1.dn (fun k hk => (set_far (fun e => h1.n2 (by rw [← e]; exact hk)) _ _).trans (hgrow.block k (h1.dn.lt k hk).2 (fun e => h1.n3 k e.symm hk)))
      have hM7 : Mvd (fpR R (.slice la l.length lc) vd) (fpR R (.slice (some ⟨ga, 0, none⟩) (l.length + 1) ca) vd) w (w6.setCell ⟨R, 1, none⟩ (.slice (some ⟨ga, 0, none⟩) (l.length + 1) ca)) := by
        have hsz := hba.size
        refine ⟨hgrow.os.trans hba.os, hgrow.tape.trans hba.tape, hgrow.output.trans hba.output, by simp only [World.setCell, Array.size_modify]; exact Nat.le_trans hsz hgrow.size, fun k hk hn => (set_far (fun e => hn (.inl e)) _ _).trans ((hgrow.block k (Nat.lt_of_lt_of_le hk hsz) (fun e => hn (.inr (.inl e.symm)))).trans (hba.block k hk)), fun k hk => ?_⟩
        rcases hk with e | e | e
        · exact .inl (.inl e)
        · have e9 : ga = k := Option.some.inj e
          rcases hat with e2 | e2
          · exact .inl (.inr (.inl (by rw [e2, e9])))
          · exact .inr (by omega)
        · exact .inl (.inr (.inr e))
      go_ret
      exact ⟨rfl, _, by first | exact hR7 | (rw [if_neg HT.out]; exact hR7), hM7⟩
end Go.Proofs.Ytobojfkoffhljaa
