/- The document's own pool: Finish, Forget, Add, walked. -/
import Derived.Test.YtbibfhhnnjojnaaBtP
namespace Go.Proofs.Ytbibfhhnnjojnaa
open Go.RowKit
attribute [local go_sem ↓] Go.wp_at_zero Go.wp_at_succ

theorem rwrong_ok {c n : Int} (h : okB c n = true) (w : World) : Calls Try.prog 27 #[.int .i64 c, .int .i64 n] w fun e W' => e = .returned (.bool false) ∧ W' = w := by
  have := rwrong_any c n w
  rw [h] at this
  exact this
theorem rwrong_no {c n : Int} (h : okB c n = false) (w : World) : Calls Try.prog 27 #[.int .i64 c, .int .i64 n] w fun e W' => e = .returned (.bool true) ∧ W' = w := by
  have := rwrong_any c n w
  rw [h] at this
  exact this
theorem rFinish_no (p : Option Addr) {c n : Int} (h : okB c n = false) (w : World) : Calls Try.prog 13 #[.pointer p, .int .i64 c, .int .i64 n] w fun e W' => e = .returned (.tuple #[.bool false, .int .i64 1]) ∧ W' = w := by
  have hF := rwrong_no h w
  clear h
  go_enter Try.func13, Try.ntmps13
  go_wp2_with (first | (go_at_call 27; refine hF.mono ?_; rintro e w1 ⟨rfl, rfl⟩))
  exact bodyPost_ret (v := .tuple #[.bool false, .int .i64 1]) (by simp [results, Try.f13, go_sem]) rfl ⟨rfl, rfl⟩
theorem rForget_no (p : Option Addr) {c n : Int} (h : okB c n = false) (w : World) : Calls Try.prog 15 #[.pointer p, .int .i64 c, .int .i64 n] w fun e W' => e = .returned (.tuple #[.bool false, .int .i64 1]) ∧ W' = w := by
  have hF := rwrong_no h w
  clear h
  go_enter Try.func15, Try.ntmps15
  go_wp2_with (first | (go_at_call 27; refine hF.mono ?_; rintro e w1 ⟨rfl, rfl⟩))
  exact bodyPost_ret (v := .tuple #[.bool false, .int .i64 1]) (by simp [results, Try.f15, go_sem]) rfl ⟨rfl, rfl⟩
set_option maxRecDepth 20000 in
set_option maxHeartbeats 4000000 in
theorem rFinish_any {base : Nat} {w : World} {R : Nat} {vl vd : Value} {l F : List Rq} (h : RefAt base w R vl vd l F) (hl : l.length ≤ 1000) (hF : F.length ≤ 1000) {c n : Int} (hok : okB c n = true) :
    Calls Try.prog 13 #[.pointer (some ⟨R, 0, none⟩), .int .i64 c, .int .i64 n] w fun e W' => e = .returned (.tuple #[.bool (decide ((dropL c n l).length < l.length)), .int .i64 0]) ∧ ∃ vl' vd', RefAt base W' R vl' vd' (dropL c n l) (F ++ [(c, n, [])]) ∧ Mvd (fpR R vl vd) (fpR R vl' vd') w W' := by
  have hQ := rwrong_ok hok w
  obtain ⟨da, dc, rfl⟩ := owns_slice h.dn
  obtain ⟨i9, hi9, hz0, hz1, hz2⟩ := info_parts Try.info39
  have hml : F.length + 1 ≤ maxLen := by unfold maxLen; omega
  have hkb : (F.length + 1) * 32 ≤ 140737488355328 := by omega
  have hba : Below w.heap.size w (w.alloc (.cells #[.int .i64 c, .int .i64 n, .string ⟨#[]⟩] 39)) := (Below.refl _ _).alloc (Nat.le_refl _) _
  have h1 := h.next hba
  have hown := h1.dn
  have c1 := cellB h.blk 1 (.slice da F.length dc) rfl
  have hwl : base ≤ (w.alloc (.cells #[.int .i64 c, .int .i64 n, .string ⟨#[]⟩] 39)).heap.size := h1.le
  have HX : Hid (_ ∧ _) := ⟨h1, hba⟩
  obtain ⟨Q, hQr⟩ : ∃ Q, rcs F = Q := ⟨_, rfl⟩
  have HQ : Hid (rcs F = Q) := hQr
  rw [hQr] at hown
  have HD : Hid (∀ W vd', RefAt base W R vl vd' l (F ++ [(c, n, [])]) → Calls Try.prog 28 #[.pointer (some ⟨R, 0, none⟩), .int .i64 c, .int .i64 n] W fun e W' => e = .returned (.bool (decide ((dropL c n l).length < l.length))) ∧ ∃ vl', RefAt base W' R vl' vd' (dropL c n l) (F ++ [(c, n, [])]) ∧ Mvd (fpR R vl vd') (fpR R vl' vd') W W') := fun W vd' hW => rdrop_any hW hl c n
  obtain ⟨b, hb⟩ : ∃ b, decide ((dropL c n l).length < l.length) = b := ⟨_, rfl⟩
  rw [hb] at HD ⊢
  clear hok hQr hba h1 h hb
  go_enter Try.func13, Try.ntmps13
  go_upto_region 4 with (first
    | (go_at_call 27; refine hQ.mono ?_; rintro e w1 ⟨rfl, h9⟩; replace h9 := h9.symm; subst h9)
    | (at_builtin; refine wpList_append_lies _ rfl _ _ 27 rfl base 39 i9 (.agg #[.int .i64 0, .int .i64 0, .string ⟨#[]⟩]) 3 32 Try.underlying27 hi9 hz0 hz1 hz2 rfl (by decide) (.slice da F.length dc) F.length Q rfl hown ⟨w.heap.size, 0, none⟩ 1 1 [.int .i64 c, .int .i64 n, .string ⟨#[]⟩] rfl rfl (World.news_of_block (heap_alloc_new _ _)) (by simp [Value.oneCell']) (by decide) hml hkb hwl _ rfl ?_; intro ga ca w6 hown7 hgrow hat hlt6; have rc6 := (hgrow.block R HX.out.1.lt (fun e => HX.out.1.n2 e.symm)).trans HX.out.1.blk; have f1 := frozenB rc6 1; have s1 := cellB rc6 1 _ rfl))
  obtain ⟨h1, hba⟩ := HX.out
  have hgR : ga ≠ R := by
    rcases hat with e | e
    · exact fun e2 => h1.n2 (by rw [e, e2])
    · have := h1.lt; omega
  have hgv : vl.ownBlock ≠ some ga := by
    intro e2
    rcases hat with e | e
    · exact h1.n3 ga e2 e
    · have := (h1.own.lt ga e2).2; omega
  have hR7 : RefAt base (w6.setCell ⟨R, 1, none⟩ (.slice (some ⟨ga, 0, none⟩) (F.length + 1) ca)) R vl (.slice (some ⟨ga, 0, none⟩) (F.length + 1) ca) l (F ++ [(c, n, [])]) := by
    refine ⟨setB rc6 1 _, ?_, ?_, h1.n1, fun e => hgR (Option.some.inj e), fun k e1 e2 => hgv (by rw [e1]; exact e2.symm), h1.base⟩
    · exact owns_kept h1.own (fun k hk => (set_far (fun e => h1.n1 (by rw [← e]; exact hk)) _ _).trans (hgrow.block k (h1.own.lt k hk).2 (fun e => h1.n3 k hk e.symm)))
    · rw [rcs_append, List.length_append, HQ.out]
      exact owns_kept hown7 (fun k hk => set_far (by rw [← Option.some.inj hk]; exact hgR) _ _)
  have hM7 : Mvd (fpR R vl (.slice da F.length dc)) (fpR R vl (.slice (some ⟨ga, 0, none⟩) (F.length + 1) ca)) w (w6.setCell ⟨R, 1, none⟩ (.slice (some ⟨ga, 0, none⟩) (F.length + 1) ca)) := by
    have hsz := hba.size
    refine ⟨hgrow.os.trans hba.os, hgrow.tape.trans hba.tape, hgrow.output.trans hba.output, by simp only [World.setCell, Array.size_modify]; exact Nat.le_trans hsz hgrow.size, fun k hk hn => (set_far (fun e => hn (.inl e)) _ _).trans ((hgrow.block k (Nat.lt_of_lt_of_le hk hsz) (fun e => hn (.inr (.inr e.symm)))).trans (hba.block k hk)), fun k hk => ?_⟩
    rcases hk with e | e | e
    · exact .inl (.inl e)
    · exact .inl (.inr (.inl e))
    · have e2 : ga = k := Option.some.inj e
      rcases hat with e3 | e3
      · exact .inl (.inr (.inr (by rw [e3, e2])))
      · right; rw [← e2, e3]; exact hsz
  have hD := HD.out _ _ hR7
  clear HD HX h1 hba rc6 f1 s1 hown7 hgrow hat hlt6 hR7 hown c1
  obtain ⟨W7, hW7⟩ : ∃ W, w6.setCell ⟨R, 1, none⟩ (.slice (some ⟨ga, 0, none⟩) (F.length + 1) ca) = W := ⟨_, rfl⟩
  rw [hW7] at hM7 hD ⊢
  clear hW7
  go_wp2_with (first
    | (go_at_call 28; refine hD.mono ?_; rintro e w8 ⟨rfl, vl', h8, hm8⟩))
  exact bodyPost_ret (v := .tuple #[.bool b, .int .i64 0]) (by simp [results, Try.f13, go_sem]) rfl ⟨rfl, vl', _, h8, hM7.trans hm8⟩
set_option maxRecDepth 20000 in
set_option maxHeartbeats 4000000 in
theorem rForget_any {base : Nat} {w : World} {R : Nat} {vl vd : Value} {l F : List Rq} (h : RefAt base w R vl vd l F) (hl : l.length ≤ 1000) {c n : Int} (hok : okB c n = true) (b : Bool) (l1 : List Rq)
    (hcs : (l.findIdx? (exP c n) = none ∧ b = false ∧ l1 = l) ∨ (∃ i, l.findIdx? (exP c n) = some i ∧ b = decide ((dropL c n l).length < l.length) ∧ l1 = dropL c n l)) :
    Calls Try.prog 15 #[.pointer (some ⟨R, 0, none⟩), .int .i64 c, .int .i64 n] w fun e W' => e = .returned (.tuple #[.bool b, .int .i64 0]) ∧ ∃ vl', RefAt base W' R vl' vd l1 F ∧ Mvd (fpR R vl vd) (fpR R vl' vd) w W' := by
  have hQ := rwrong_ok hok w
  obtain ⟨la, lc, rfl⟩ := owns_slice h.own
  have c0 := cellB h.blk 0 (.slice la l.length lc) rfl
  have HD : Hid (∀ W, Below w.heap.size w W → Calls Try.prog 28 #[.pointer (some ⟨R, 0, none⟩), .int .i64 c, .int .i64 n] W fun e W' => e = .returned (.bool (decide ((dropL c n l).length < l.length))) ∧ ∃ vl', RefAt base W' R vl' vd (dropL c n l) F ∧ Mvd (fpR R (.slice la l.length lc) vd) (fpR R vl' vd) w W') := by
    intro W hW
    refine (rdrop_any (h.next hW) hl c n).mono ?_
    rintro e W' ⟨rfl, vl', h', hm⟩
    exact ⟨rfl, vl', h', (Mvd.of_below hW _).trans hm⟩
  have HC : Hid (_) := hcs
  have HH : Hid (_) := h
  clear hok hcs h
  go_enter Try.func15, Try.ntmps15
  go_wp2_with (first
    | (go_at_call 27; refine hQ.mono ?_; rintro e w1 ⟨rfl, h9⟩; replace h9 := h9.symm; subst h9))
  go_loopg [18] l.length (fun gk i wr => ∃ k : Nat, k + gk = l.length ∧ i = .int .i64 k ∧ Hid (NoHit (exP c n) l k) ∧ Below w.heap.size w wr)
  case atStart => exact ⟨0, by omega, rfl, fun i a hi => absurd hi (Nat.not_lt_zero _), Below.refl _ _⟩
  case round =>
    obtain ⟨k, hk, rfl, HN, hB⟩ := hrel
    by_cases hlt : k < l.length
    · obtain ⟨⟨c5, n5, t5⟩, hx⟩ : ∃ a, l[k]? = some a := ⟨_, List.getElem?_eq_getElem hlt⟩
      obtain ⟨gb, gc, hgv, hg1, hg2, y0, y1, y2⟩ := row_at (owns_next HH.out.own hB) hx
      injection hgv with f1 _ f2
      subst f1 f2
      simp only at y0 y1 y2
      have q0 : (0 : Int) ≤ (k : Int) := by omega
      have q1 : (k : Int) < (l.length : Int) := by omega
      have hBa := hB.alloc hB.size (.cells #[.int .i64 c5, .int .i64 n5, .string (bs t5)] 39)
      have HBa : Hid (_) := hBa
      have hcc : (c5 = c ∧ n5 = n ∧ exP c n (c5, n5, t5) = true) ∨ (c5 ≠ c ∧ exP c n (c5, n5, t5) = false) ∨ (c5 = c ∧ n5 ≠ n ∧ exP c n (c5, n5, t5) = false) := by
        by_cases e1 : c5 = c
        · by_cases e2 : n5 = n
          · left; exact ⟨e1, e2, by simp [exP, e1, e2]⟩
          · right; right; exact ⟨e1, e2, by simp [exP, e2]⟩
        · right; left; exact ⟨e1, by simp [exP, e1]⟩
      clear hBa hg1
      rcases hcc with ⟨e1, e2, e3⟩ | ⟨e1, e3⟩ | ⟨e1, e2, e3⟩
      · have hi := idx_hit HN.out hx e3
        have hbl : b = decide ((dropL c n l).length < l.length) ∧ l1 = dropL c n l := by
          rcases HC.out with ⟨h1, _⟩ | ⟨i, _, h2, h3⟩
          · rw [hi] at h1; cases h1
          · exact ⟨h2, h3⟩
        have hD := HD.out _ HBa.out
        rw [← hbl.1, ← hbl.2] at hD
        subst e1 e2
        clear hx e3 hi hbl HD HC
        go_wp2_with (first
          | (go_at_call 28; refine hD.mono ?_; rintro e w8 ⟨rfl, vl', h8, hm8⟩))
        exact bodyPost_ret (v := .tuple #[.bool b, .int .i64 0]) (by simp [results, Try.f15, go_sem]) rfl ⟨rfl, vl', h8, hm8⟩
      · have HN2 : Hid (NoHit (exP c n) l (k + 1)) := NoHit.succ HN.out hx e3
        have s1 : (c5 == c) = false := by simp [e1]
        clear hx e3
        go_wp2
        go_roundg (l.length - (k + 1))
        case measure => omega
        case rel => exact ⟨k + 1, by omega, by go_num, HN2, HBa.out⟩
      · have HN2 : Hid (NoHit (exP c n) l (k + 1)) := NoHit.succ HN.out hx e3
        have s2 : (n5 == n) = false := by simp [e2]
        subst e1
        clear hx e3
        go_wp2
        go_roundg (l.length - (k + 1))
        case measure => omega
        case rel => exact ⟨k + 1, by omega, by go_num, HN2, HBa.out⟩
    · have hkl : k = l.length := by omega
      subst hkl
      have hi := idx_none HN.out
      have hbl : b = false ∧ l1 = l := by
        rcases HC.out with ⟨_, h1, h2⟩ | ⟨i, h1, _⟩
        · exact ⟨h1, h2⟩
        · rw [hi] at h1; cases h1
      obtain ⟨rfl, rfl⟩ := hbl
      go_wp2
      exact bodyPost_ret (v := .tuple #[.bool false, .int .i64 0]) (by simp [results, Try.f15, go_sem]) rfl ⟨rfl, _, HH.out.next hB, Mvd.of_below hB _⟩
end Go.Proofs.Ytbibfhhnnjojnaa
