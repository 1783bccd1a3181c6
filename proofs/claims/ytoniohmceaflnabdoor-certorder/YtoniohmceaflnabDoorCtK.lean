import Derived.Test.YtoniohmceaflnabDoorCtJ
namespace Go.Proofs.YtoniohmceaflnabDoor
open Go.RowKit
attribute [local go_sem ↓] Go.wp_at_zero Go.wp_at_succ

theorem split_at (n : Int) : ∀ l : List Tg, ∃ m, m ≤ l.length ∧ (l.takeWhile fun a => decide (a.1 < n)) = l.take m ∧ (l.dropWhile fun a => decide (a.1 < n)) = l.drop m ∧ (∀ i t, i < m → l[i]? = some t → t.1 < n) ∧ (∀ t, l[m]? = some t → n ≤ t.1)
  | [] => ⟨0, Nat.le_refl _, rfl, rfl, fun i t h => by omega, fun t h => by simp at h⟩
  | a :: l => by
    by_cases h : a.1 < n
    · obtain ⟨m, h1, h2, h3, h4, h5⟩ := split_at n l
      have hd : decide (a.1 < n) = true := by simpa using h
      refine ⟨m + 1, by simpa using h1, by simp [hd, h2], by simp [hd, h3], fun i t hi ht => ?_, fun t ht => h5 t (by simpa using ht)⟩
      cases i with
      | zero => simp at ht; subst ht; exact h
      | succ i => exact h4 i t (by omega) (by simpa using ht)
    · have hd : decide (a.1 < n) = false := by simpa using h
      exact ⟨0, Nat.zero_le _, by simp [hd], by simp [hd], fun i t h => by omega, fun t ht => by simp at ht; subst ht; omega⟩

/-- append(own, tags...), and what lies elsewhere is as it was. -/
theorem wpList_append_tags2 {w : World} {ops : Array Oper} {rest : List Oper} {o : Oper} {a : Act} {Q : Exit → Act → World → Prop} (T E : TypeId) (hT : Tryd.prog.underlying T = some (.slice E))
    (hinf : (Tryd.prog.info? E).map (fun i => (i.zero, i.size, i.bytes)) = some (some (.agg #[.int .i64 0, .string ⟨#[]⟩]), 2, 24)) (hgd : o.guard = none) (s x : Operand)
    (ho : o.op = .call { callee := .builtin .append, args := #[s, x], argTypes := #[T, T] }) (base : Nat) (v : Value) (n : Nat) (xs : List Value) (hs : a.eval s = v) (hown : w.ownsRow base E 2 v n xs)
    (u : Value) (l : List Tg) (hx : a.eval x = u) (hu : Tp w u l) (hn : n + l.length ≤ 1000000) (hbase : base ≤ w.heap.size)
    (h : ∀ v' w', w'.ownsRow base E 2 v' (n + l.length) (xs ++ tcs l) → Below base w w' → (∀ p : Addr, p.block < w.heap.size → some p.block ≠ v.ownBlock → w'.cell? p = w.cell? p) → wpList Tryd.prog ops Q rest (a.put o.dst v') w') : wpList Tryd.prog ops Q (o :: rest) a w := by
  obtain ⟨i0, hi, hz0, hz1, hz2⟩ := info_parts hinf
  rcases hu with ⟨rfl, rfl⟩ | ⟨rfl, ad, cap, rfl⟩ | ⟨b, off, cap, rfl, hcap, hlt, hc⟩
  · refine wpList_append_own_none hgd s x T ho base E i0 2 hT hi v n xs hs hown hx (h v w ?_ (Below.refl _ _) (fun _ _ _ => rfl))
    simpa [tcs] using hown
  · refine wpList_append_own w hgd s x T ho base E i0 (.agg #[.int .i64 0, .string ⟨#[]⟩]) 2 24 hT hi hz0 hz1 hz2 rfl (by decide) v n xs hs hown ad 0 cap [] hx rfl (by simp) (by simp) (by unfold maxLen; omega) (by omega) hbase ?_
    intro v' w' h1 h2 _
    exact h v' w' h1 ((Below.refl base w).grown h2 hbase (fun q hq => (hown.lt q hq).1)) (fun p hp hne => h2.cell_far p hp hne)
  · refine wpList_append_own w hgd s x T ho base E i0 (.agg #[.int .i64 0, .string ⟨#[]⟩]) 2 24 hT hi hz0 hz1 hz2 rfl (by decide) v n xs hs hown ⟨b, off, none⟩ l.length cap (tcs l) hx (tcs_len l) ?_ (tcs_one l) (by unfold maxLen; omega) (by omega) hbase ?_
    · intro j y hy
      rw [Addr.add_mid]
      obtain ⟨i, t, ht, ⟨rfl, rfl⟩ | ⟨rfl, rfl⟩⟩ := tcs_back l j y hy
      · exact (hc i t ht).1
      · exact (hc i t ht).2
    · intro v' w' h1 h2 _
      exact h v' w' h1 ((Below.refl base w).grown h2 hbase (fun q hq => (hown.lt q hq).1)) (fun p hp hne => h2.cell_far p hp hne)

set_option maxRecDepth 20000 in
set_option maxHeartbeats 4000000 in
theorem rAdd_any (x : List UInt8) (g : Int) (l : List Tg) (v : Value) (sg sn : Int) (st tg : List UInt8) (w : World) (hll : l.length ≤ 140737488355328) (hv : Tl w v l) :
    Calls Tryd.prog 10 #[.agg #[.string (bs x), .int .i64 g, v], .agg #[.int .i64 sg, .int .i64 sn], .string (bs st), .string (bs tg)] w fun e W' => ∃ X G T u, e = .returned (.tuple #[.agg #[.string (bs X), .int .i64 G, u], .int .i64 (addE x g l sg sn st tg)]) ∧
      ((addE x g l sg sn st tg = 0 ∧ X = x ∧ G = g ∧ T = insT sn tg l ∧ ∀ k, u.ownBlock = some k → w.heap.size ≤ k) ∨ (addE x g l sg sn st tg ≠ 0 ∧ X = [] ∧ G = 0 ∧ T = [])) ∧ Tp W' u T ∧ Below w.heap.size w W' := by
  obtain ⟨va, vc, rfl⟩ := hv.slice
  have hb1 : Below w.heap.size w (w.alloc (.cells #[.string (bs x), .int .i64 g, .slice va l.length vc] 36)) := (Below.refl _ w).alloc (Nat.le_refl _) _
  have hb2 := hb1.alloc hb1.size (.cells #[.int .i64 sg, .int .i64 sn] 26)
  have hb3 := hb2.alloc hb2.size (.cells #[.string ⟨#[]⟩, .int .i64 0, .slice none 0 0] 36)
  have hbb : Below (w.heap.size + 1) (w.alloc (.cells #[.string (bs x), .int .i64 g, .slice va l.length vc] 36)) (((w.alloc (.cells #[.string (bs x), .int .i64 g, .slice va l.length vc] 36)).alloc (.cells #[.int .i64 sg, .int .i64 sn] 26)).alloc (.cells #[.string ⟨#[]⟩, .int .i64 0, .slice none 0 0] 36)) := ((Below.refl _ _).alloc (by simp) _).alloc (by simp) _
  have hbc : Below (w.heap.size + 2) ((w.alloc (.cells #[.string (bs x), .int .i64 g, .slice va l.length vc] 36)).alloc (.cells #[.int .i64 sg, .int .i64 sn] 26)) (((w.alloc (.cells #[.string (bs x), .int .i64 g, .slice va l.length vc] 36)).alloc (.cells #[.int .i64 sg, .int .i64 sn] 26)).alloc (.cells #[.string ⟨#[]⟩, .int .i64 0, .slice none 0 0] 36)) := (Below.refl _ _).alloc (by simp) _
  have c0 := (hbb.cell (p := ⟨w.heap.size, 0, none⟩) (by simp)).trans (cell_new w _ 36 0 (.string (bs x)) rfl _ rfl)
  have c1 := (hbb.cell (p := ⟨w.heap.size, 1, none⟩) (by simp)).trans (cell_new w _ 36 1 (.int .i64 g) rfl _ rfl)
  have c2 := (hbb.cell (p := ⟨w.heap.size, 2, none⟩) (by simp)).trans (cell_new w _ 36 2 (.slice va l.length vc) rfl _ rfl)
  have d0 := (hbc.cell (p := ⟨w.heap.size + 1, 0, none⟩) (by simp)).trans (cell_new (w.alloc (.cells #[.string (bs x), .int .i64 g, .slice va l.length vc] 36)) #[.int .i64 sg, .int .i64 sn] 26 0 (.int .i64 sg) rfl (w.heap.size + 1) (by simp))
  have d1 := (hbc.cell (p := ⟨w.heap.size + 1, 1, none⟩) (by simp)).trans (cell_new (w.alloc (.cells #[.string (bs x), .int .i64 g, .slice va l.length vc] 36)) #[.int .i64 sg, .int .i64 sn] 26 1 (.int .i64 sn) rfl (w.heap.size + 1) (by simp))
  have r0 : (((w.alloc (.cells #[.string (bs x), .int .i64 g, .slice va l.length vc] 36)).alloc (.cells #[.int .i64 sg, .int .i64 sn] 26)).alloc (.cells #[.string ⟨#[]⟩, .int .i64 0, .slice none 0 0] 36)).heap[w.heap.size + 2]? = some (.cells #[.string ⟨#[]⟩, .int .i64 0, .slice none 0 0] 36) := by
    have := heap_alloc_new ((w.alloc (.cells #[.string (bs x), .int .i64 g, .slice va l.length vc] 36)).alloc (.cells #[.int .i64 sg, .int .i64 sn] 26)) (.cells #[.string ⟨#[]⟩, .int .i64 0, .slice none 0 0] 36)
    simpa using this
  have hz : w.heap.size + 3 ≤ (((w.alloc (.cells #[.string (bs x), .int .i64 g, .slice va l.length vc] 36)).alloc (.cells #[.int .i64 sg, .int .i64 sn] 26)).alloc (.cells #[.string ⟨#[]⟩, .int .i64 0, .slice none 0 0] 36)).heap.size := by simp
  have hv3 := hv.below hb3 (Nat.le_refl _)
  have hfa := form_any (bs x) g l _ _ hll hv3
  clear hbb hbc hb1 hb2
  obtain ⟨R, hR⟩ : ∃ R, addE x g l sg sn st tg = R := ⟨_, rfl⟩
  rw [hR]
  have HR : Hid (addE x g l sg sn st tg = R) := hR
  clear hR
  by_cases hf : faultL g l = 0
  · rw [hf] at hfa
    have HF : Hid (faultL g l = 0) := hf
    obtain ⟨g0, g4, hl16, hmem⟩ := fault_zero hf
    clear hf hmem
    go_enter Tryd.func10, Tryd.ntmps10
    go_wp2_with fail
    refine hfa.mono ?_
    clear hfa
    rintro e w1 ⟨rfl, hb1⟩
    have hB1 := hb3.trans (hb1.mono hb3.size)
    have k0 := (hb1.cell (p := ⟨w.heap.size, 0, none⟩) (by show w.heap.size < _; omega)).trans c0
    have k1 := (hb1.cell (p := ⟨w.heap.size, 1, none⟩) (by show w.heap.size < _; omega)).trans c1
    have k2 := (hb1.cell (p := ⟨w.heap.size, 2, none⟩) (by show w.heap.size < _; omega)).trans c2
    have m0 := (hb1.cell (p := ⟨w.heap.size + 1, 0, none⟩) (by show w.heap.size + 1 < _; omega)).trans d0
    have m1 := (hb1.cell (p := ⟨w.heap.size + 1, 1, none⟩) (by show w.heap.size + 1 < _; omega)).trans d1
    have r1 := (hb1.block (w.heap.size + 2) (by omega)).trans r0
    have hz1 := Nat.le_trans hz hb1.size
    have hv1 := hv3.below hb1 (Nat.le_refl _)
    clear c0 c1 c2 d0 d1 r0 hb1 hb3 hz hv3
    go_wp2_with fail
    refine (Is_any sg sn w1).mono ?_
    rintro e w2 ⟨rfl, hb2⟩
    have hB2 := hB1.trans (hb2.mono hB1.size)
    have k0' := (hb2.cell (p := ⟨w.heap.size, 0, none⟩) (by show w.heap.size < _; omega)).trans k0
    have k1' := (hb2.cell (p := ⟨w.heap.size, 1, none⟩) (by show w.heap.size < _; omega)).trans k1
    have k2' := (hb2.cell (p := ⟨w.heap.size, 2, none⟩) (by show w.heap.size < _; omega)).trans k2
    have m0' := (hb2.cell (p := ⟨w.heap.size + 1, 0, none⟩) (by show w.heap.size + 1 < _; omega)).trans m0
    have m1' := (hb2.cell (p := ⟨w.heap.size + 1, 1, none⟩) (by show w.heap.size + 1 < _; omega)).trans m1
    have r2 := (hb2.block (w.heap.size + 2) (by omega)).trans r1
    have hz2 := Nat.le_trans hz1 hb2.size
    have hv2 := hv1.below hb2 (Nat.le_refl _)
    have f1 := frozen_block r2 0
    have f2 := frozen_block r2 1
    have f3 := frozen_block r2 2
    have s1 := cell_block r2 0 _ rfl
    have s2 := cell_block r2 1 _ rfl
    have s3 := cell_block r2 2 _ rfl
    clear k0 k1 k2 m0 m1 r1 hb2 hB1 hz1 hv1
    have hr := set3 r2 (.string ⟨#[]⟩) (.int .i64 0) (.slice none 0 0)
    have z1 := cell_block hr 0 _ rfl
    have z2 := cell_block hr 1 _ rfl
    have z3 := cell_block hr 2 _ rfl
    have hBz : Below w.heap.size w (((w2.setCell ⟨w.heap.size + 2, 0, none⟩ (.string ⟨#[]⟩)).setCell ⟨w.heap.size + 2, 1, none⟩ (.int .i64 0)).setCell ⟨w.heap.size + 2, 2, none⟩ (.slice none 0 0)) := ((hB2.setCell (p := ⟨w.heap.size + 2, 0, none⟩) (by show w.heap.size ≤ w.heap.size + 2; omega) _).setCell (p := ⟨w.heap.size + 2, 1, none⟩) (by show w.heap.size ≤ w.heap.size + 2; omega) _).setCell (p := ⟨w.heap.size + 2, 2, none⟩) (by show w.heap.size ≤ w.heap.size + 2; omega) _
    obtain ⟨WW, hWW⟩ : ∃ WW, (((w2.setCell ⟨w.heap.size + 2, 0, none⟩ (.string ⟨#[]⟩)).setCell ⟨w.heap.size + 2, 1, none⟩ (.int .i64 0)).setCell ⟨w.heap.size + 2, 2, none⟩ (.slice none 0 0)) = WW := ⟨_, rfl⟩
    rw [hWW] at z1 z2 z3 hBz
    have HW : Hid ((((w2.setCell ⟨w.heap.size + 2, 0, none⟩ (.string ⟨#[]⟩)).setCell ⟨w.heap.size + 2, 1, none⟩ (.int .i64 0)).setCell ⟨w.heap.size + 2, 2, none⟩ (.slice none 0 0)) = WW) := hWW
    clear hr hWW
    by_cases hp : isP sg sn
    · rw [decide_eq_true hp]
      have HP : Hid (isP sg sn) := hp
      clear hp
      by_cases c1 : sg = g
      · subst c1
        by_cases c2 : st = x
        · subst c2
          have q2 := str_same st
          by_cases c3 : tg.length = 16
          · have q3 : (((bs tg).size : Int) != 16) = false := by rw [bs_size, c3]; rfl
            have HFL : Hid (addFL st sg l sg sn st tg = 0) := by show addFL st sg l sg sn st tg = 0; simp [addFL, HF.out, HP.out, c3]
            clear z1 z2 z3 hBz HW
            go_wp2_with fail
            obtain ⟨m, hm, tw, dw, hlo, hhi⟩ := split_at sn l
            have HI : Hid (insT sn tg l = l.take m ++ (sn, tg) :: l.drop m) := by show insT sn tg l = _; rw [insT, tw, dw]
            have HLO : Hid (∀ i t, i < m → l[i]? = some t → t.1 < sn) := hlo
            have HHI : Hid (∀ t, l[m]? = some t → sn ≤ t.1) := hhi
            clear tw dw hlo hhi f1 f2 f3 s1 s2 s3
            go_loopw [11, 12, 44] (fun d p i wr => ∃ (k : Nat) (T : List Tg), i = .int .i64 k ∧ p = .bool (decide (m < k)) ∧ k ≤ l.length ∧ Hid (sn ∉ (l.take k).map (·.1)) ∧ wr.ownsRow w2.heap.size 63 2 d T.length (tcs T) ∧ Hid (T = if k ≤ m then l.take k else l.take m ++ (sn, tg) :: (l.drop m).take (k - m)) ∧ T.length ≤ k + 1 ∧ Below w2.heap.size w2 wr)
              (fun _ _ i _ => l.length - (intOf i).toNat)
            case atStart => exact ⟨0, [], rfl, by simp, Nat.zero_le _, (show sn ∉ (l.take 0).map (·.1) by simp), by simpa [tcs] using World.ownsRow_nil w2 w2.heap.size 63 2, (show [] = if 0 ≤ m then l.take 0 else _ by simp), by simp, Below.refl _ _⟩
            case round =>
              obtain ⟨k, T, rfl, rfl, hk, HM, hown, HT, hTl, hB⟩ := hrel
              obtain ⟨ua, uc, rfl⟩ := owns_slice hown
              have hB9 := hB2.trans (hB.mono hB2.size)
              have hzr := hB.size
              by_cases hk1 : k = l.length
              · subst hk1
                have HM0 : Hid (sn ∉ l.map (·.1)) := by have h := HM.out; rw [List.take_length] at h; exact h
                by_cases hmk : m < l.length
                · have dm : decide (m < l.length) = true := by simpa using hmk
                  have x8 := (hB.cell (p := ⟨w.heap.size, 0, none⟩) (by show w.heap.size < _; omega)).trans k0'
                  have y8 := (hB.cell (p := ⟨w.heap.size, 1, none⟩) (by show w.heap.size < _; omega)).trans k1'
                  have rb := (hB.block (w.heap.size + 2) (by omega)).trans r2
                  have fa := frozen_block rb 0
                  have fb := frozen_block rb 1
                  have fc := frozen_block rb 2
                  have sa := cell_block rb 0 _ rfl
                  have sb := cell_block rb 1 _ rfl
                  have sc := cell_block rb 2 _ rfl
                  go_wp2
                  have hr := set3 rb (.string (bs st)) (.int .i64 sg) (.slice ua T.length uc)
                  have q1 := cell_block hr 0 _ rfl
                  have q2 := cell_block hr 1 _ rfl
                  have q3 := cell_block hr 2 _ rfl
                  have hb9 := hB2.trans (hB.mono hB2.size)
                  have hBz : Below w.heap.size w (((wr.setCell ⟨w.heap.size + 2, 0, none⟩ (.string (bs st))).setCell ⟨w.heap.size + 2, 1, none⟩ (.int .i64 sg)).setCell ⟨w.heap.size + 2, 2, none⟩ (.slice ua T.length uc)) := ((hb9.setCell (p := ⟨w.heap.size + 2, 0, none⟩) (by show w.heap.size ≤ w.heap.size + 2; omega) _).setCell (p := ⟨w.heap.size + 2, 1, none⟩) (by show w.heap.size ≤ w.heap.size + 2; omega) _).setCell (p := ⟨w.heap.size + 2, 2, none⟩) (by show w.heap.size ≤ w.heap.size + 2; omega) _
                  have hoz := owns_set (owns_set (owns_set hown (B := w.heap.size + 2) (by omega) 0 (.string (bs st))) (B := w.heap.size + 2) (by omega) 1 (.int .i64 sg)) (B := w.heap.size + 2) (by omega) 2 (.slice ua T.length uc)
                  have hTz : Tp _ (.slice ua T.length uc) (insT sn tg l) := Tp.of_owns (e := 63) (base := w2.heap.size) (by have h := HT.out; have h2 : (l.drop m).take (l.length - m) = l.drop m := List.take_of_length_le (Nat.le_of_eq List.length_drop); rw [if_neg (by omega), h2] at h; rw [HI.out, ← h]; exact hoz)
                  have e0 : R = 0 := by rw [← HR.out, addE, if_neg (fun h => h HFL.out), if_neg HM0.out]
                  rw [e0]
                  obtain ⟨WW, hWW⟩ : ∃ WW, (((wr.setCell ⟨w.heap.size + 2, 0, none⟩ (.string (bs st))).setCell ⟨w.heap.size + 2, 1, none⟩ (.int .i64 sg)).setCell ⟨w.heap.size + 2, 2, none⟩ (.slice ua T.length uc)) = WW := ⟨_, rfl⟩
                  rw [hWW] at q1 q2 q3 hBz hTz
                  show bodyPost _ _ _ _ _ (((wr.setCell ⟨w.heap.size + 2, 0, none⟩ (.string (bs st))).setCell ⟨w.heap.size + 2, 1, none⟩ (.int .i64 sg)).setCell ⟨w.heap.size + 2, 2, none⟩ (.slice ua T.length uc))
                  rw [hWW]
                  exact bodyPost_ret (v := .tuple #[.agg #[.string (bs st), .int .i64 sg, .slice ua T.length uc], .int .i64 0]) (by simp [results, Tryd.f10, go_sem, q1, q2, q3]) rfl ⟨st, sg, _, _, rfl, .inl ⟨rfl, rfl, rfl, rfl, fun k hk => Nat.le_trans hB2.size (hown.lt k hk).1⟩, hTz, hBz⟩
                · have dm : decide (m < l.length) = false := by simpa using hmk
                  have n1 := (hB.cell (p := ⟨w.heap.size + 1, 1, none⟩) (by show w.heap.size + 1 < _; omega)).trans m1'
                  go_wp2_with (first | (at_builtin; refine wpList_append_tags 34 63 Tryd.underlying34 Tryd.info63 rfl _ _ rfl w2.heap.size _ T.length _ rfl (hown.alloc _) _ [(sn, tg)] rfl (Tp_new_at _ sn tg 63 (wr.heap.size) (by simp)) (by simp; omega) (by simp; omega) ?_; intro v9 w9 hown9 hg9; rw [List.length_singleton] at hown9; obtain ⟨a9, c9, rfl⟩ := owns_slice hown9; have hb9' := (hB.alloc hB.size (.cells #[.int .i64 sn, .string (bs tg)] 63)).trans hg9; have x8 := (hb9'.cell (p := ⟨w.heap.size, 0, none⟩) (by show w.heap.size < _; omega)).trans k0'; have y8 := (hb9'.cell (p := ⟨w.heap.size, 1, none⟩) (by show w.heap.size < _; omega)).trans k1'; have rb := (hb9'.block (w.heap.size + 2) (by omega)).trans r2; have fa := frozen_block rb 0; have fb := frozen_block rb 1; have fc := frozen_block rb 2; have sa := cell_block rb 0 _ rfl; have sb := cell_block rb 1 _ rfl; have sc := cell_block rb 2 _ rfl))
                  have hr := set3 rb (.string (bs st)) (.int .i64 sg) (.slice a9 (T.length + 1) c9)
                  have q1 := cell_block hr 0 _ rfl
                  have q2 := cell_block hr 1 _ rfl
                  have q3 := cell_block hr 2 _ rfl
                  have hb9 := hB2.trans (hb9'.mono hB2.size)
                  have hBz : Below w.heap.size w (((w9.setCell ⟨w.heap.size + 2, 0, none⟩ (.string (bs st))).setCell ⟨w.heap.size + 2, 1, none⟩ (.int .i64 sg)).setCell ⟨w.heap.size + 2, 2, none⟩ (.slice a9 (T.length + 1) c9)) := ((hb9.setCell (p := ⟨w.heap.size + 2, 0, none⟩) (by show w.heap.size ≤ w.heap.size + 2; omega) _).setCell (p := ⟨w.heap.size + 2, 1, none⟩) (by show w.heap.size ≤ w.heap.size + 2; omega) _).setCell (p := ⟨w.heap.size + 2, 2, none⟩) (by show w.heap.size ≤ w.heap.size + 2; omega) _
                  have hoz := owns_set (owns_set (owns_set hown9 (B := w.heap.size + 2) (by omega) 0 (.string (bs st))) (B := w.heap.size + 2) (by omega) 1 (.int .i64 sg)) (B := w.heap.size + 2) (by omega) 2 (.slice a9 (T.length + 1) c9)
                  have hTz : Tp _ (.slice a9 (T.length + 1) c9) (insT sn tg l) := Tp.of_owns (e := 63) (base := w2.heap.size) (by have h := HT.out; rw [if_pos (by omega), List.take_length] at h; have hml : m = l.length := (by omega); rw [HI.out, hml, List.take_length, List.drop_length, List.length_append, List.length_singleton, tcs_append, ← h]; exact hoz)
                  have e0 : R = 0 := by rw [← HR.out, addE, if_neg (fun h => h HFL.out), if_neg HM0.out]
                  rw [e0]
                  obtain ⟨WW, hWW⟩ : ∃ WW, (((w9.setCell ⟨w.heap.size + 2, 0, none⟩ (.string (bs st))).setCell ⟨w.heap.size + 2, 1, none⟩ (.int .i64 sg)).setCell ⟨w.heap.size + 2, 2, none⟩ (.slice a9 (T.length + 1) c9)) = WW := ⟨_, rfl⟩
                  rw [hWW] at q1 q2 q3 hBz hTz
                  show bodyPost _ _ _ _ _ (((w9.setCell ⟨w.heap.size + 2, 0, none⟩ (.string (bs st))).setCell ⟨w.heap.size + 2, 1, none⟩ (.int .i64 sg)).setCell ⟨w.heap.size + 2, 2, none⟩ (.slice a9 (T.length + 1) c9))
                  rw [hWW]
                  exact bodyPost_ret (v := .tuple #[.agg #[.string (bs st), .int .i64 sg, .slice a9 (T.length + 1) c9], .int .i64 0]) (by simp [results, Tryd.f10, go_sem, q1, q2, q3]) rfl ⟨st, sg, _, _, rfl, .inl ⟨rfl, rfl, rfl, rfl, fun k hk => Nat.le_trans hB2.size (hown9.lt k hk).1⟩, hTz, hBz⟩
              · have hk2 : k < l.length := by omega
                obtain ⟨b, o, rfl, hlt⟩ := hv2.some (by omega)
                obtain ⟨t, ht⟩ : ∃ t, l[k]? = some t := ⟨_, List.getElem?_eq_getElem hk2⟩
                obtain ⟨e1, e2⟩ := (hv2.below hB (Nat.le_refl _)).cells ht
                have n1 := (hB.cell (p := ⟨w.heap.size + 1, 1, none⟩) (by show w.heap.size + 1 < _; omega)).trans m1'
                have hlw : w.heap.size + 1 < wr.heap.size := by omega
                have htk : l.take (k + 1) = l.take k ++ [t] := by rw [List.take_add_one, ht]; rfl
                have HTK : Hid (l.take (k + 1) = l.take k ++ [t]) := htk
                have HK : Hid (l[k]? = some t) := ht
                obtain ⟨n, s⟩ := t
                simp only at e1 e2
                have hBA := hB.alloc hB.size (.cells #[.int .i64 n, .string (bs s)] 63)
                have hownA := hown.alloc (.cells #[.int .i64 n, .string (bs s)] 63)
                clear ht htk
                by_cases hn : n = sn
                · subst hn
                  have hmm : n ∈ l.map (·.1) := List.mem_map.2 ⟨(n, s), List.mem_of_getElem? HK.out, rfl⟩
                  have e0 : R = 42 := by rw [← HR.out, addE, if_neg (fun h => h HFL.out), if_pos hmm]
                  have HE0 : Hid (R = 42) := e0
                  clear hmm e0
                  have rb := (hBA.block (w.heap.size + 2) (by omega)).trans r2
                  have rbw := (hB.block (w.heap.size + 2) (by omega)).trans r2
                  have hl2 : w.heap.size + 2 < wr.heap.size := by omega
                  have fa := frozen_block rbw 0
                  have fb := frozen_block rbw 1
                  have fc := frozen_block rbw 2
                  have sa := cell_block rbw 0 _ rfl
                  have sb := cell_block rbw 1 _ rfl
                  have sc := cell_block rbw 2 _ rfl
                  go_wp2
                  have hr := set3 rbw (.string ⟨#[]⟩) (.int .i64 0) (.slice none 0 0)
                  have hlr := (Array.getElem?_eq_some_iff.1 hr).1
                  have hba := (Below.refl _ (((wr.setCell ⟨w.heap.size + 2, 0, none⟩ (.string ⟨#[]⟩)).setCell ⟨w.heap.size + 2, 1, none⟩ (.int .i64 0)).setCell ⟨w.heap.size + 2, 2, none⟩ (.slice none 0 0))).alloc (Nat.le_refl _) (.cells #[.int .i64 n, .string (bs s)] 63)
                  have z1 := (hba.cell (p := ⟨w.heap.size + 2, 0, none⟩) hlr).trans (cell_block hr 0 _ rfl)
                  have z2 := (hba.cell (p := ⟨w.heap.size + 2, 1, none⟩) hlr).trans (cell_block hr 1 _ rfl)
                  have z3 := (hba.cell (p := ⟨w.heap.size + 2, 2, none⟩) hlr).trans (cell_block hr 2 _ rfl)
                  have hBy := ((hB9.setCell (p := ⟨w.heap.size + 2, 0, none⟩) (by show w.heap.size ≤ w.heap.size + 2; omega) (.string ⟨#[]⟩)).setCell (p := ⟨w.heap.size + 2, 1, none⟩) (by show w.heap.size ≤ w.heap.size + 2; omega) (.int .i64 0)).setCell (p := ⟨w.heap.size + 2, 2, none⟩) (by show w.heap.size ≤ w.heap.size + 2; omega) (.slice none 0 0)
                  have hBz := hBy.alloc hBy.size (.cells #[.int .i64 n, .string (bs s)] 63)
                  rw [HE0.out]
                  obtain ⟨WW, hWW⟩ : ∃ WW, ((((wr.setCell ⟨w.heap.size + 2, 0, none⟩ (.string ⟨#[]⟩)).setCell ⟨w.heap.size + 2, 1, none⟩ (.int .i64 0)).setCell ⟨w.heap.size + 2, 2, none⟩ (.slice none 0 0)).alloc (.cells #[.int .i64 n, .string (bs s)] 63)) = WW := ⟨_, rfl⟩
                  rw [hWW] at z1 z2 z3 hBz
                  show bodyPost _ _ _ _ _ ((((wr.setCell ⟨w.heap.size + 2, 0, none⟩ (.string ⟨#[]⟩)).setCell ⟨w.heap.size + 2, 1, none⟩ (.int .i64 0)).setCell ⟨w.heap.size + 2, 2, none⟩ (.slice none 0 0)).alloc (.cells #[.int .i64 n, .string (bs s)] 63))
                  rw [hWW]
                  exact bodyPost_ret (v := .tuple #[.agg #[.string ⟨#[]⟩, .int .i64 0, .slice none 0 0], .int .i64 42]) (by simp [results, Tryd.f10, go_sem, z1, z2, z3]) rfl ⟨[], 0, [], .slice none 0 0, rfl, .inr ⟨by decide, rfl, rfl, rfl⟩, Tp.nil _, hBz⟩
                · have hq : (n == sn) = false := by simpa using hn
                  have HM2 : Hid (sn ∉ (l.take (k + 1)).map (·.1)) := by
                    show sn ∉ (l.take (k + 1)).map (·.1)
                    rw [HTK.out, List.map_append]
                    intro h
                    rcases List.mem_append.1 h with h | h
                    · exact HM.out h
                    · simp at h; exact hn h.symm
                  by_cases hmk : k = m
                  · subst hmk
                    have dm : decide (k < k) = false := by simp
                    have hgt : sn < n := by have := HHI.out _ HK.out; simp only at this; omega
                    have hTk : T.length ≤ k := by have h := HT.out; rw [if_pos (Nat.le_refl _)] at h; rw [h, List.length_take]; omega
                    have hne : some wr.heap.size ≠ (Value.slice ua T.length uc).ownBlock := fun h => absurd (hown.lt _ h.symm).2 (Nat.lt_irrefl _)
                    have hbx := (Below.refl (wr.heap.size + 1) (wr.alloc (.cells #[.int .i64 n, .string (bs s)] 63))).alloc (by simp) (.cells #[.int .i64 sn, .string (bs tg)] 63)
                    go_wp2_with (first | (at_builtin; refine wpList_append_tags 34 63 Tryd.underlying34 Tryd.info63 rfl _ _ rfl w2.heap.size _ (T.length + 1) _ rfl (hown7.alloc _) _ [(n, s)] rfl (Tp_new_at _ n s 63 (w7.heap.size) (by simp)) (by simp; omega) (by simp; omega) ?_; intro v8 w8 hown8 hg8; rw [List.length_singleton] at hown8; obtain ⟨a8, c8, rfl⟩ := owns_slice hown8; have hb8 := (hb7.alloc hb7.size (.cells #[.int .i64 n, .string (bs s)] 63)).trans hg8) | (at_builtin; refine wpList_append_tags2 34 63 Tryd.underlying34 Tryd.info63 rfl _ _ rfl w2.heap.size _ T.length _ rfl (hownA.alloc _) _ [(sn, tg)] rfl (Tp_new_at _ sn tg 63 (wr.heap.size + 1) (by simp)) (by simp; omega) (by simp; omega) ?_; intro v7 w7 hown7 hg7 hfar; rw [List.length_singleton] at hown7; obtain ⟨a7, c7, rfl⟩ := owns_slice hown7; have hb7 := (hBA.alloc hBA.size (.cells #[.int .i64 sn, .string (bs tg)] 63)).trans hg7; have hs7 := hb7.size; have y0 := ((hfar ⟨wr.heap.size, 0, none⟩ (by show wr.heap.size < _; simp; omega) hne).trans (hbx.cell (p := ⟨wr.heap.size, 0, none⟩) (by show wr.heap.size < wr.heap.size + 1; omega))).trans (cell_new wr _ 63 0 (.int .i64 n) rfl _ rfl); have y1 := ((hfar ⟨wr.heap.size, 1, none⟩ (by show wr.heap.size < _; simp; omega) hne).trans (hbx.cell (p := ⟨wr.heap.size, 1, none⟩) (by show wr.heap.size < wr.heap.size + 1; omega))).trans (cell_new wr _ 63 1 (.string (bs s)) rfl _ rfl)))
                    have hT2 : T ++ [(sn, tg)] ++ [(n, s)] = if k + 1 ≤ k then l.take (k + 1) else l.take k ++ (sn, tg) :: (l.drop k).take (k + 1 - k) := by
                      have h := HT.out
                      rw [if_pos (Nat.le_refl _)] at h
                      have hd : (l.drop k).take (k + 1 - k) = [(n, s)] := by
                        rw [show k + 1 - k = 1 from by omega, List.drop_eq_getElem_cons hk2]
                        have := HK.out
                        rw [List.getElem?_eq_getElem hk2] at this
                        rw [Option.some.inj this]
                        rfl
                      rw [if_neg (by omega), hd, h]
                      simp
                    go_roundw
                    case rel => exact ⟨k + 1, T ++ [(sn, tg)] ++ [(n, s)], by go_num, by simp, hk2, HM2, by rw [List.length_append, List.length_append, List.length_singleton, List.length_singleton, tcs_append, tcs_append]; exact hown8, hT2, by simp; omega, hb8⟩
                    case measure => simp [intOf]; omega
                  · by_cases hml : k < m
                    · have dm : decide (m < k) = false := by simp; omega
                      have hgt : n < sn := HLO.out k _ hml HK.out
                      go_wp2_with (first | (at_builtin; refine wpList_append_tags 34 63 Tryd.underlying34 Tryd.info63 rfl _ _ rfl w2.heap.size _ T.length _ rfl (hownA.alloc _) _ [(n, s)] rfl (Tp_new_at _ n s 63 (wr.heap.size + 1) (by simp)) (by simp; omega) (by simp; omega) ?_; intro v7 w7 hown7 hg7; rw [List.length_singleton] at hown7; obtain ⟨a7, c7, rfl⟩ := owns_slice hown7; have hb7 := (hBA.alloc hBA.size (.cells #[.int .i64 n, .string (bs s)] 63)).trans hg7; have hs7 := hb7.size))
                      have hT2 : T ++ [(n, s)] = if k + 1 ≤ m then l.take (k + 1) else l.take m ++ (sn, tg) :: (l.drop m).take (k + 1 - m) := by
                        have h := HT.out
                        rw [if_pos (by omega)] at h
                        rw [if_pos (by omega), HTK.out, h]
                      go_roundw
                      case rel => exact ⟨k + 1, T ++ [(n, s)], by go_num, by simp; omega, hk2, HM2, by rw [List.length_append, List.length_singleton, tcs_append]; exact hown7, hT2, by simp; omega, hb7⟩
                      case measure => simp [intOf]; omega
                    · have dm : decide (m < k) = true := by simp; omega
                      go_wp2_with (first | (at_builtin; refine wpList_append_tags 34 63 Tryd.underlying34 Tryd.info63 rfl _ _ rfl w2.heap.size _ T.length _ rfl (hownA.alloc _) _ [(n, s)] rfl (Tp_new_at _ n s 63 (wr.heap.size + 1) (by simp)) (by simp; omega) (by simp; omega) ?_; intro v7 w7 hown7 hg7; rw [List.length_singleton] at hown7; obtain ⟨a7, c7, rfl⟩ := owns_slice hown7; have hb7 := (hBA.alloc hBA.size (.cells #[.int .i64 n, .string (bs s)] 63)).trans hg7; have hs7 := hb7.size))
                      have hT2 : T ++ [(n, s)] = if k + 1 ≤ m then l.take (k + 1) else l.take m ++ (sn, tg) :: (l.drop m).take (k + 1 - m) := by
                        have h := HT.out
                        rw [if_neg (by omega)] at h
                        rw [if_neg (by omega), h, show k + 1 - m = (k - m) + 1 from by omega, List.take_add_one, List.getElem?_drop, show m + (k - m) = k from by omega, HK.out]
                        simp
                      go_roundw
                      case rel => exact ⟨k + 1, T ++ [(n, s)], by go_num, by simp; omega, hk2, HM2, by rw [List.length_append, List.length_singleton, tcs_append]; exact hown7, hT2, by simp; omega, hb7⟩
                      case measure => simp [intOf]; omega
          · have q3 : (((bs tg).size : Int) != 16) = true := by rw [bs_size]; simp; omega
            go_wp2
            show bodyPost _ _ _ _ _ (((w2.setCell ⟨w.heap.size + 2, 0, none⟩ (.string ⟨#[]⟩)).setCell ⟨w.heap.size + 2, 1, none⟩ (.int .i64 0)).setCell ⟨w.heap.size + 2, 2, none⟩ (.slice none 0 0))
            rw [HW.out]
            have e4 : R = 4 := by rw [← HR.out, addE, show addFL st sg l sg sn st tg = 4 from by simp [addFL, HF.out, HP.out, c3]]; rfl
            rw [e4]
            exact bodyPost_ret (v := .tuple #[.agg #[.string ⟨#[]⟩, .int .i64 0, .slice none 0 0], .int .i64 4]) (by simp [results, Tryd.f10, go_sem, z1, z2, z3]) rfl ⟨[], 0, [], .slice none 0 0, rfl, .inr ⟨by decide, rfl, rfl, rfl⟩, Tp.nil _, hBz⟩
        · have q2 := str_other c2
          go_wp2
          show bodyPost _ _ _ _ _ (((w2.setCell ⟨w.heap.size + 2, 0, none⟩ (.string ⟨#[]⟩)).setCell ⟨w.heap.size + 2, 1, none⟩ (.int .i64 0)).setCell ⟨w.heap.size + 2, 2, none⟩ (.slice none 0 0))
          rw [HW.out]
          have e4 : R = 4 := by rw [← HR.out, addE, show addFL x sg l sg sn st tg = 4 from by simp [addFL, HF.out, HP.out, c2]]; rfl
          rw [e4]
          exact bodyPost_ret (v := .tuple #[.agg #[.string ⟨#[]⟩, .int .i64 0, .slice none 0 0], .int .i64 4]) (by simp [results, Tryd.f10, go_sem, z1, z2, z3]) rfl ⟨[], 0, [], .slice none 0 0, rfl, .inr ⟨by decide, rfl, rfl, rfl⟩, Tp.nil _, hBz⟩
      · have q1 : (sg != g) = true := by simpa using c1
        go_wp2
        show bodyPost _ _ _ _ _ (((w2.setCell ⟨w.heap.size + 2, 0, none⟩ (.string ⟨#[]⟩)).setCell ⟨w.heap.size + 2, 1, none⟩ (.int .i64 0)).setCell ⟨w.heap.size + 2, 2, none⟩ (.slice none 0 0))
        rw [HW.out]
        have e4 : R = 41 := by rw [← HR.out, addE, show addFL x g l sg sn st tg = 41 from by simp [addFL, HF.out, HP.out, c1]]; rfl
        rw [e4]
        exact bodyPost_ret (v := .tuple #[.agg #[.string ⟨#[]⟩, .int .i64 0, .slice none 0 0], .int .i64 41]) (by simp [results, Tryd.f10, go_sem, z1, z2, z3]) rfl ⟨[], 0, [], .slice none 0 0, rfl, .inr ⟨by decide, rfl, rfl, rfl⟩, Tp.nil _, hBz⟩
    · rw [decide_eq_false hp]
      have HP : Hid (¬ isP sg sn) := hp
      clear hp
      go_wp2
      show bodyPost _ _ _ _ _ (((w2.setCell ⟨w.heap.size + 2, 0, none⟩ (.string ⟨#[]⟩)).setCell ⟨w.heap.size + 2, 1, none⟩ (.int .i64 0)).setCell ⟨w.heap.size + 2, 2, none⟩ (.slice none 0 0))
      rw [HW.out]
      have e4 : R = 1 := by rw [← HR.out, addE, show addFL x g l sg sn st tg = 1 from by rw [addFL, if_neg (by simp [HF.out]), if_pos HP.out]]; rfl
      rw [e4]
      exact bodyPost_ret (v := .tuple #[.agg #[.string ⟨#[]⟩, .int .i64 0, .slice none 0 0], .int .i64 1]) (by simp [results, Tryd.f10, go_sem, z1, z2, z3]) rfl ⟨[], 0, [], .slice none 0 0, rfl, .inr ⟨by decide, rfl, rfl, rfl⟩, Tp.nil _, hBz⟩
  · have hq : (faultL g l != 0) = true := by simpa using hf
    have e4 : R = faultL g l := by rw [← HR.out, addE, if_pos (by simp [addFL, hf]), addFL, if_pos hf]
    rw [e4]
    obtain ⟨E, hE⟩ : ∃ E, faultL g l = E := ⟨_, rfl⟩
    rw [hE] at hq hfa hf ⊢
    have HNF : Hid (E ≠ 0) := hf
    clear hE HR e4 hf
    go_enter Tryd.func10, Tryd.ntmps10
    go_wp2_with fail
    refine hfa.mono ?_
    rintro e w1 ⟨rfl, hb1⟩
    have hB1 := hb3.trans (hb1.mono hb3.size)
    have r1 := (hb1.block (w.heap.size + 2) (by omega)).trans r0
    have f1 := frozen_block r1 0
    have f2 := frozen_block r1 1
    have f3 := frozen_block r1 2
    have s1 := cell_block r1 0 _ rfl
    have s2 := cell_block r1 1 _ rfl
    have s3 := cell_block r1 2 _ rfl
    go_wp2
    have hr := set3 r1 (.string ⟨#[]⟩) (.int .i64 0) (.slice none 0 0)
    have z1 := cell_block hr 0 _ rfl
    have z2 := cell_block hr 1 _ rfl
    have z3 := cell_block hr 2 _ rfl
    have hBz : Below w.heap.size w (((w1.setCell ⟨w.heap.size + 2, 0, none⟩ (.string ⟨#[]⟩)).setCell ⟨w.heap.size + 2, 1, none⟩ (.int .i64 0)).setCell ⟨w.heap.size + 2, 2, none⟩ (.slice none 0 0)) := ((hB1.setCell (p := ⟨w.heap.size + 2, 0, none⟩) (by show w.heap.size ≤ w.heap.size + 2; omega) _).setCell (p := ⟨w.heap.size + 2, 1, none⟩) (by show w.heap.size ≤ w.heap.size + 2; omega) _).setCell (p := ⟨w.heap.size + 2, 2, none⟩) (by show w.heap.size ≤ w.heap.size + 2; omega) _
    obtain ⟨WW, hWW⟩ : ∃ WW, (((w1.setCell ⟨w.heap.size + 2, 0, none⟩ (.string ⟨#[]⟩)).setCell ⟨w.heap.size + 2, 1, none⟩ (.int .i64 0)).setCell ⟨w.heap.size + 2, 2, none⟩ (.slice none 0 0)) = WW := ⟨_, rfl⟩
    rw [hWW] at z1 z2 z3 hBz
    show bodyPost _ _ _ _ _ (((w1.setCell ⟨w.heap.size + 2, 0, none⟩ (.string ⟨#[]⟩)).setCell ⟨w.heap.size + 2, 1, none⟩ (.int .i64 0)).setCell ⟨w.heap.size + 2, 2, none⟩ (.slice none 0 0))
    rw [hWW]
    exact bodyPost_ret (v := .tuple #[.agg #[.string ⟨#[]⟩, .int .i64 0, .slice none 0 0], .int .i64 E]) (by simp [results, Tryd.f10, go_sem, z1, z2, z3]) rfl ⟨[], 0, [], .slice none 0 0, rfl, .inr ⟨HNF.out, rfl, rfl, rfl⟩, Tp.nil _, hBz⟩
end Go.Proofs.YtoniohmceaflnabDoor
