/- The document's own pool: drop, Take, same, walked. -/
import Derived.Test.YtbibfhhnnjojnaaBtO
namespace Go.Proofs.Ytbibfhhnnjojnaa
open Go.RowKit
attribute [local go_sem ↓] Go.wp_at_zero Go.wp_at_succ

theorem Try.info39 : (Try.prog.info? 39).map (fun i => (i.zero, i.size, i.bytes)) = some (some (.agg #[.int .i64 0, .int .i64 0, .string ⟨#[]⟩]), 3, 32) := by kernel_rfl
/-- Without a caller's up to a number. -/
def dropL (c n : Int) (l : List Rq) : List Rq := l.filter fun a => !upP c n a
theorem dropL_snoc (c n : Int) (l : List Rq) (a : Rq) : dropL c n (l ++ [a]) = dropL c n l ++ if upP c n a = true then [] else [a] := by
  unfold dropL
  rw [List.filter_append]
  by_cases h : upP c n a = true <;> simp [h]
theorem dropL_le (c n : Int) (l : List Rq) : (dropL c n l).length ≤ l.length := List.length_filter_le _ _
set_option maxRecDepth 20000 in
set_option maxHeartbeats 4000000 in
theorem rdrop_any {base : Nat} {w : World} {R : Nat} {vl vd : Value} {l F : List Rq} (h : RefAt base w R vl vd l F) (hl : l.length ≤ 1000) (c n : Int) : Calls Try.prog 28 #[.pointer (some ⟨R, 0, none⟩), .int .i64 c, .int .i64 n] w fun e W' => e = .returned (.bool (decide ((dropL c n l).length < l.length))) ∧ ∃ vl', RefAt base W' R vl' vd (dropL c n l) F ∧ Mvd (fpR R vl vd) (fpR R vl' vd) w W' := by
  obtain ⟨la, lc, rfl⟩ := owns_slice h.own
  have c0 := cellB h.blk 0 (.slice la l.length lc) rfl
  obtain ⟨i9, hi9, hz0, hz1, hz2⟩ := info_parts Try.info39
  go_enter Try.func28, Try.ntmps28
  go_wp2_with fail
  go_loopg [7, 16] l.length (fun gk p i wr => ∃ k : Nat, k + gk = l.length ∧ i = .int .i64 k ∧ wr.ownsRow w.heap.size 39 3 p (dropL c n (l.take k)).length (rcs (dropL c n (l.take k))) ∧ Below w.heap.size w wr)
  case atStart => exact ⟨0, by omega, rfl, World.ownsRow_nil _ _ _ _, Below.refl _ _⟩
  case round =>
    obtain ⟨k, hk, rfl, hown, hB⟩ := hrel
    by_cases hlt : k < l.length
    · obtain ⟨⟨c5, n5, t5⟩, hx⟩ : ∃ a, l[k]? = some a := ⟨_, List.getElem?_eq_getElem hlt⟩
      obtain ⟨gb, gc, hgv, hg1, hg2, y0, y1, y2⟩ := row_at (owns_next h.own hB) hx
      injection hgv with f1 _ f2
      subst f1 f2
      simp only at y0 y1 y2
      have q0 : (0 : Int) ≤ (k : Int) := by omega
      have q1 : (k : Int) < (l.length : Int) := by omega
      have HS : Hid (dropL c n (l.take (k + 1)) = dropL c n (l.take k) ++ if upP c n (c5, n5, t5) = true then [] else [(c5, n5, t5)]) := by show _ = _; rw [take_snoc hx, dropL_snoc]
      have hle := dropL_le c n (l.take k)
      rw [List.length_take] at hle
      obtain ⟨P, hP⟩ : ∃ P, dropL c n (l.take k) = P := ⟨_, rfl⟩
      rw [hP] at HS hown hle
      obtain ⟨pa, pc, rfl⟩ := owns_slice hown
      have hba : Below wr.heap.size wr (wr.alloc (.cells #[.int .i64 c5, .int .i64 n5, .string (bs t5)] 39)) := (Below.refl _ _).alloc (Nat.le_refl _) _
      have rN := heap_alloc_new wr (.cells #[.int .i64 c5, .int .i64 n5, .string (bs t5)] 39)
      have hown1 := owns_next hown hba
      have hB1 := hB.trans (hba.mono hB.size)
      have HBN : Hid (_ ∧ _ ∧ _) := ⟨rN, hown1, hB1⟩
      clear hx hP hg1 rN hown1 hB1 hba hown
      go_upto_region 5 with fail
      obtain ⟨rN, hown, hB1⟩ := HBN.out
      clear HBN
      obtain ⟨W1, hW1⟩ : ∃ W, wr.alloc (.cells #[.int .i64 c5, .int .i64 n5, .string (bs t5)] 39) = W := ⟨_, rfl⟩
      rw [hW1] at rN hown hB1 ⊢
      have z0 := cellB rN 0 (.int .i64 c5) rfl
      have z1 := cellB rN 1 (.int .i64 n5) rfl
      have z2 := cellB rN 2 (.string (bs t5)) rfl
      clear hW1 rN y0 y1 y2 hB
      have hcc : (c5 = c ∧ n5 ≤ n ∧ upP c n (c5, n5, t5) = true) ∨ (c5 ≠ c ∧ upP c n (c5, n5, t5) = false) ∨ (c5 = c ∧ n < n5 ∧ upP c n (c5, n5, t5) = false) := by
        by_cases e1 : c5 = c
        · by_cases e2 : n5 ≤ n
          · left; exact ⟨e1, e2, by simp [upP, e1, e2]⟩
          · right; right; exact ⟨e1, by omega, by simp [upP, e2]⟩
        · right; left; exact ⟨e1, by simp [upP, e1]⟩
      rcases hcc with ⟨e1, e2, e3⟩ | ⟨e1, e3⟩ | ⟨e1, e2, e3⟩
      · have HS2 : Hid (dropL c n (l.take (k + 1)) = P) := by show _ = _; rw [HS.out, if_pos e3, List.append_nil]
        subst e1
        clear e3 HS
        go_wp2
        go_roundg (l.length - (k + 1))
        case measure => omega
        case rel => exact ⟨k + 1, by omega, by go_num, by rw [HS2.out]; exact hown, hB1⟩
      · have HS2 : Hid (dropL c n (l.take (k + 1)) = P ++ [(c5, n5, t5)]) := by show _ = _; rw [HS.out, if_neg (by rw [e3]; decide)]
        have s1 : (c5 == c) = false := by simp [e1]
        have hml : P.length + 1 ≤ maxLen := by unfold maxLen; omega
        have hkb : (P.length + 1) * 32 ≤ 140737488355328 := by omega
        clear e3 HS
        go_wp2_with (first
          | (at_builtin; refine wpList_append_own _ rfl _ _ 27 rfl w.heap.size 39 i9 (.agg #[.int .i64 0, .int .i64 0, .string ⟨#[]⟩]) 3 32 Try.underlying27 hi9 hz0 hz1 hz2 rfl (by decide) (.slice pa P.length pc) P.length (rcs P) rfl (hown.alloc _) _ 1 1 [.int .i64 c5, .int .i64 n5, .string (bs t5)] rfl rfl (World.news_of_block (heap_alloc_new _ _)) (by simp [Value.oneCell']) hml hkb (by have := hB1.size; simp; omega) ?_; intro v' w' h1 h2 _))
        go_roundg (l.length - (k + 1))
        case measure => omega
        case rel => exact ⟨k + 1, by omega, by go_num, by rw [HS2.out, rcs_append, List.length_append]; exact h1, (hB1.alloc hB1.size _).grown h2 (by have := hB1.size; simp; omega) (fun q hq => (hown.lt q hq).1)⟩
      · have HS2 : Hid (dropL c n (l.take (k + 1)) = P ++ [(c5, n5, t5)]) := by show _ = _; rw [HS.out, if_neg (by rw [e3]; decide)]
        have hml : P.length + 1 ≤ maxLen := by unfold maxLen; omega
        have hkb : (P.length + 1) * 32 ≤ 140737488355328 := by omega
        subst e1
        clear e3 HS
        go_wp2_with (first
          | (at_builtin; refine wpList_append_own _ rfl _ _ 27 rfl w.heap.size 39 i9 (.agg #[.int .i64 0, .int .i64 0, .string ⟨#[]⟩]) 3 32 Try.underlying27 hi9 hz0 hz1 hz2 rfl (by decide) (.slice pa P.length pc) P.length (rcs P) rfl (hown.alloc _) _ 1 1 [.int .i64 c5, .int .i64 n5, .string (bs t5)] rfl rfl (World.news_of_block (heap_alloc_new _ _)) (by simp [Value.oneCell']) hml hkb (by have := hB1.size; simp; omega) ?_; intro v' w' h1 h2 _))
        go_roundg (l.length - (k + 1))
        case measure => omega
        case rel => exact ⟨k + 1, by omega, by go_num, by rw [HS2.out, rcs_append, List.length_append]; exact h1, (hB1.alloc hB1.size _).grown h2 (by have := hB1.size; simp; omega) (fun q hq => (hown.lt q hq).1)⟩
    · have hkl : k = l.length := by omega
      subst hkl
      rw [List.take_length] at hown
      obtain ⟨pa, pc, rfl⟩ := owns_slice hown
      have hr := h.next hB
      have d0 := cellB hr.blk 0 (.slice la l.length lc) rfl
      have f0 := frozenB hr.blk 0
      obtain ⟨P, hP⟩ : ∃ P, dropL c n l = P := ⟨_, rfl⟩
      rw [hP] at hown ⊢
      have HX : Hid (_ ∧ _ ∧ _) := ⟨hr, h, hP⟩
      obtain ⟨b, hb⟩ : ∃ b, decide (P.length < l.length) = b := ⟨_, rfl⟩
      have HB : Hid (decide (P.length < l.length) = b) := hb
      clear hP hr h hb
      go_wp2
      go_ret
      obtain ⟨hr, h, hP⟩ := HX.out
      have hpR : (Value.slice pa P.length pc).ownBlock ≠ some R := fun e => by have := (hown.lt R e).1; have := h.lt; omega
      have hset := setB hr.blk 0 (.slice pa P.length pc)
      rw [hP]
      refine ⟨by first | rfl | simp, .slice pa P.length pc, ⟨hset, ?_, ?_, hpR, hr.n2, ?_, hr.base⟩, ?_⟩
      · exact owns_base (owns_kept hown (fun k hk => set_far (fun e => hpR (by rw [← e]; exact hk)) _ _)) h.le
      · exact owns_kept hr.dn (fun k hk => set_far (fun e => hr.n2 (by rw [← e]; exact hk)) _ _)
      · intro k h1 h2
        have := (hown.lt k h1).1
        have := (h.dn.lt k h2).2
        omega
      · refine ⟨hB.os, hB.tape, hB.output, by simp only [World.setCell, Array.size_modify]; exact hB.size, fun k hk hn => (set_far (fun e => hn (.inl e)) _ _).trans (hB.block k hk), fun k hk => ?_⟩
        rcases hk with e | e | e
        · exact .inl (.inl e)
        · exact .inr (hown.lt k e).1
        · exact .inl (.inr (.inr e))
set_option maxRecDepth 20000 in
set_option maxHeartbeats 4000000 in
theorem rTake_any {base : Nat} {w : World} {R : Nat} {vl vd : Value} {l F : List Rq} (h : RefAt base w R vl vd l F) (hl : l.length ≤ 1000) (hbig : ∀ a ∈ l, a.2.2.length ≤ 4000) :
    Calls Try.prog 19 #[.pointer (some ⟨R, 0, none⟩)] w fun e W' => (∃ u, e = .returned u ∧ W'.ownsRow w.heap.size 39 3 u (takeGo 4 0 l).length (rcs (takeGo 4 0 l))) ∧ Below w.heap.size w W' := by
  obtain ⟨la, lc, rfl⟩ := owns_slice h.own
  have c0 := cellB h.blk 0 (.slice la l.length lc) rfl
  obtain ⟨i9, hi9, hz0, hz1, hz2⟩ := info_parts Try.info39
  have HB : Hid (∀ a ∈ l, a.2.2.length ≤ 4000) := hbig
  clear hbig
  go_enter Try.func19, Try.ntmps19
  go_wp2_with fail
  go_loopg [3, 4, 12] l.length (fun gk p b i wr => ∃ k : Nat, k + gk = l.length ∧ k ≤ 4 ∧ i = .int .i64 k ∧ b = .int .i64 (sumT (l.take k)) ∧ wr.ownsRow w.heap.size 39 3 p (l.take k).length (rcs (l.take k)) ∧ Hid (TkAt l k ∧ sumT (l.take k) ≤ 9000) ∧ Below w.heap.size w wr)
  case atStart => exact ⟨0, by omega, by omega, rfl, rfl, World.ownsRow_nil _ _ _ _, ⟨TkAt.zero l, by simp [sumT]⟩, Below.refl _ _⟩
  case round =>
    obtain ⟨k, hgk, hk4, rfl, rfl, hown, HT, hB⟩ := hrel
    by_cases hlt : k < l.length
    · obtain ⟨⟨c5, n5, t5⟩, hx⟩ : ∃ a, l[k]? = some a := ⟨_, List.getElem?_eq_getElem hlt⟩
      obtain ⟨gb, gc, hgv, hg1, hg2, y0, y1, y2⟩ := row_at (owns_next h.own hB) hx
      injection hgv with f1 _ f2
      subst f1 f2
      simp only at y0 y1 y2
      have q0 : (0 : Int) ≤ (k : Int) := by omega
      have q1 : (k : Int) < (l.length : Int) := by omega
      have hsz : (bs t5).size = t5.length := bs_size _
      have hal : t5.length ≤ 4000 := HB.out _ (List.mem_of_getElem? hx)
      have HSn : Hid (sumT (l.take (k + 1)) = sumT (l.take k) + t5.length) := by show _ = _; rw [take_snoc hx, sumT_snoc]
      have HTk : Hid (rcs (l.take (k + 1)) = rcs (l.take k) ++ [.int .i64 c5, .int .i64 n5, .string (bs t5)]) := by show _ = _; rw [take_snoc hx, rcs_append]; rfl
      have hlk : (l.take k).length = k := by rw [List.length_take]; omega
      have HLk : Hid ((l.take (k + 1)).length = k + 1) := by show _ = _; rw [List.length_take]; omega
      have HA : Hid (l[k]? = some (c5, n5, t5)) := hx
      have hs9 := HT.out.2
      rw [hlk] at hown
      obtain ⟨S, hS⟩ : ∃ S, sumT (l.take k) = S := ⟨_, rfl⟩
      have HS : Hid (sumT (l.take k) = S) := hS
      rw [hS] at HSn hs9 ⊢
      obtain ⟨Q, hQ⟩ : ∃ Q, rcs (l.take k) = Q := ⟨_, rfl⟩
      rw [hQ] at HTk hown
      obtain ⟨pa, pc, rfl⟩ := owns_slice hown
      have hba : Below wr.heap.size wr (wr.alloc (.cells #[.int .i64 c5, .int .i64 n5, .string (bs t5)] 39)) := (Below.refl _ _).alloc (Nat.le_refl _) _
      have rN := heap_alloc_new wr (.cells #[.int .i64 c5, .int .i64 n5, .string (bs t5)] 39)
      have hown1 := owns_next hown hba
      have hB1 := hB.trans (hba.mono hB.size)
      have HBN : Hid (_ ∧ _ ∧ _) := ⟨rN, hown1, hB1⟩
      have HQ : Hid (rcs (l.take k) = Q) := hQ
      clear hx hS hQ hg1 rN hown1 hB1 hba hown hlk
      go_upto_region 6 with fail
      obtain ⟨rN, hown, hB1⟩ := HBN.out
      clear HBN
      obtain ⟨W1, hW1⟩ : ∃ W, wr.alloc (.cells #[.int .i64 c5, .int .i64 n5, .string (bs t5)] 39) = W := ⟨_, rfl⟩
      rw [hW1] at rN hown hB1 ⊢
      have z0 := cellB rN 0 (.int .i64 c5) rfl
      have z1 := cellB rN 1 (.int .i64 n5) rfl
      have z2 := cellB rN 2 (.string (bs t5)) rfl
      clear hW1 rN y0 y1 y2 hB
      by_cases h4 : k = 4
      · have HZ : Hid (takeGo 4 0 l = l.take k) := TkAt.full HT.out.1 (by omega)
        have HZ2 : Hid ((l.take k).length = k) := by show _ = _; rw [List.length_take]; omega
        subst h4
        go_wp2
        go_ret
        refine ⟨⟨_, rfl, ?_⟩, hB1⟩
        rw [HZ.out, HZ2.out, HQ.out]
        exact hown
      · have hk3 : k < 4 := by omega
        have hne4 : ((k : Int) == 4) = false := by simp; omega
        by_cases hbr : 9000 < S + t5.length
        · have hbr2 : (9000 : Int) < (S : Int) + (t5.length : Int) := by omega
          have HZ : Hid (takeGo 4 0 l = l.take k) := TkAt.cut HT.out.1 (by omega) HA.out (by rw [HS.out]; exact hbr)
          have HZ2 : Hid ((l.take k).length = k) := by show _ = _; rw [List.length_take]; omega
          clear h4
          go_wp2
          go_ret
          refine ⟨⟨_, rfl, ?_⟩, hB1⟩
          rw [HZ.out, HZ2.out, HQ.out]
          exact hown
        · have hbr2 : (S : Int) + (t5.length : Int) ≤ 9000 := by omega
          have hml : k + 1 ≤ maxLen := by unfold maxLen; omega
          have hkb : (k + 1) * 32 ≤ 140737488355328 := by omega
          have HT2 : Hid (TkAt l (k + 1) ∧ sumT (l.take (k + 1)) ≤ 9000) := ⟨TkAt.succ HT.out.1 (by omega) HA.out (by rw [HS.out]; show S + t5.length ≤ 9000; omega), by rw [HSn.out]; omega⟩
          clear h4
          go_wp2_with (first
            | (at_builtin; refine wpList_append_own _ rfl _ _ 27 rfl w.heap.size 39 i9 (.agg #[.int .i64 0, .int .i64 0, .string ⟨#[]⟩]) 3 32 Try.underlying27 hi9 hz0 hz1 hz2 rfl (by decide) (.slice pa k pc) k Q rfl (hown.alloc _) _ 1 1 [.int .i64 c5, .int .i64 n5, .string (bs t5)] rfl rfl (World.news_of_block (heap_alloc_new _ _)) (by simp [Value.oneCell']) hml hkb (by have := hB1.size; simp; omega) ?_; intro v' w' h1 h2 _))
          go_roundg (l.length - (k + 1))
          case measure => omega
          case rel => exact ⟨k + 1, by omega, by omega, by go_num, by rw [HSn.out]; go_num, by rw [HTk.out, HLk.out]; exact h1, HT2, (hB1.alloc hB1.size _).grown h2 (by have := hB1.size; simp; omega) (fun q hq => (hown.lt q hq).1)⟩
    · have hkm : k = l.length := by omega
      subst hkm
      have HZ : Hid (takeGo 4 0 l = l.take l.length) := TkAt.full HT.out.1 (by omega)
      obtain ⟨pa, pc, rfl⟩ := owns_slice hown
      go_wp2
      go_ret
      exact ⟨⟨_, rfl, by rw [HZ.out]; exact hown⟩, hB⟩
set_option maxRecDepth 20000 in
set_option maxHeartbeats 4000000 in
theorem same_any {b1 b2 : Nat} {w : World} {u v : Value} {T : List Rq} (hu : w.ownsRow b1 31 3 u T.length (rcs T)) (hv : w.ownsRow b2 39 3 v T.length (rcs T)) (hl : T.length ≤ 1000) : Calls Try.prog 17 #[u, v] w fun e W' => e = .returned (.bool true) ∧ Below w.heap.size w W' := by
  obtain ⟨ua, uc, rfl⟩ := owns_slice hu
  obtain ⟨va, vc, rfl⟩ := owns_slice hv
  go_enter Try.func17, Try.ntmps17
  go_wp2_with fail
  go_loopg [13] T.length (fun gk i wr => ∃ k : Nat, k + gk = T.length ∧ i = .int .i64 k ∧ Below w.heap.size w wr)
  case atStart => exact ⟨0, by omega, rfl, Below.refl _ _⟩
  case round =>
    obtain ⟨k, hk, rfl, hB⟩ := hrel
    by_cases hlt : k < T.length
    · obtain ⟨⟨c5, n5, t5⟩, hx⟩ : ∃ a, T[k]? = some a := ⟨_, List.getElem?_eq_getElem hlt⟩
      obtain ⟨g1, k1, e1, _, l1, x0, x1, x2⟩ := row_at (owns_next hu hB) hx
      obtain ⟨g2, k2, e2, _, l2, y0, y1, y2⟩ := row_at (owns_next hv hB) hx
      injection e1 with e1 _ e3
      injection e2 with e2 _ e4
      subst e1 e2 e3 e4
      simp only at x0 x1 x2 y0 y1 y2
      have q0 : (0 : Int) ≤ (k : Int) := by omega
      have q1 : (k : Int) < (T.length : Int) := by omega
      have hR : ∀ W, Below wr.heap.size wr W → Calls Try.prog 11 #[.agg #[.int .i64 c5, .int .i64 n5, .string (bs t5)]] W fun e W' => e = .returned (.agg #[.int .i64 c5, .int .i64 n5, .string (bs t5)]) ∧ Below wr.heap.size wr W' ∧ W'.cell? ⟨g1, k * 3, none⟩ = some (.int .i64 c5) ∧ W'.cell? ⟨g1, k * 3 + 1, none⟩ = some (.int .i64 n5) ∧ W'.cell? ⟨g1, k * 3 + 2, none⟩ = some (.string (bs t5)) ∧ W'.cell? ⟨g2, k * 3, none⟩ = some (.int .i64 c5) ∧ W'.cell? ⟨g2, k * 3 + 1, none⟩ = some (.int .i64 n5) ∧ W'.cell? ⟨g2, k * 3 + 2, none⟩ = some (.string (bs t5)) := by
        intro W hW
        refine (ref_any c5 n5 t5 W).mono ?_
        rintro e W' ⟨rfl, hb⟩
        have h2 := hW.trans (hb.mono hW.size)
        exact ⟨rfl, h2, (h2.cell (p := ⟨g1, _, none⟩) l1).trans x0, (h2.cell (p := ⟨g1, _, none⟩) l1).trans x1, (h2.cell (p := ⟨g1, _, none⟩) l1).trans x2, (h2.cell (p := ⟨g2, _, none⟩) l2).trans y0, (h2.cell (p := ⟨g2, _, none⟩) l2).trans y1, (h2.cell (p := ⟨g2, _, none⟩) l2).trans y2⟩
      have hRf := Below.refl wr.heap.size wr
      clear hx
      go_upto_region 6 with fail
      go_region_held3 (fun w' => w'.cell? ⟨g1, k * 3, none⟩ = some (.int .i64 c5) ∧ w'.cell? ⟨g1, k * 3 + 1, none⟩ = some (.int .i64 n5) ∧ w'.cell? ⟨g1, k * 3 + 2, none⟩ = some (.string (bs t5)) ∧ w'.cell? ⟨g2, k * 3, none⟩ = some (.int .i64 c5) ∧ w'.cell? ⟨g2, k * 3 + 1, none⟩ = some (.int .i64 n5) ∧ w'.cell? ⟨g2, k * 3 + 2, none⟩ = some (.string (bs t5))) (go_keep)
        (first | (go_at_call 11; refine (hR _ (by first | assumption | exact below_drew (by assumption))).mono ?_; rintro e w2 ⟨rfl, hb2, a0, a1, a2, a3, a4, a5⟩))
      all_goals
        go_wp2
        go_roundg (T.length - (k + 1))
        case measure => omega
        case rel => exact ⟨k + 1, by omega, by go_num, hB.trans (hb2.mono hB.size)⟩
    · have hkT : k = T.length := by omega
      subst hkT
      go_wp2
      go_ret
      exact ⟨rfl, hB⟩
end Go.Proofs.Ytbibfhhnnjojnaa
