/- The plain marks' Vote, walked: what counts. -/
import Derived.Test.YtmggfkhfiggloaaDoorMsC
namespace Go.Proofs.YtmggfkhfiggloaaDoor
open Go.RowKit
attribute [local go_sem ↓] Go.wp_at_zero Go.wp_at_succ

theorem Tryd.info57 : (Tryd.prog.info? 57).map (fun i => (i.zero, i.size, i.bytes)) = some (some (.agg #[.int .i64 0, .int .i64 0, .string ⟨#[]⟩, .string ⟨#[]⟩]), 4, 48) := by kernel_rfl
theorem Tryd.info92 : (Tryd.prog.info? 92).map (fun i => (i.zero, i.size, i.bytes)) = some (some (.agg #[.int .i64 0, .string ⟨#[]⟩]), 2, 24) := by kernel_rfl
/-- The votes of the others, of the first ones. -/
def rRest (l : List Rv) (no : Int) (j : Nat) : List Rv := (l.take j).filter fun x => decide (x.no ≠ no)
theorem rRest_succ {l : List Rv} {no : Int} {j : Nat} {x : Rv} (h : l[j]? = some x) : rRest l no (j + 1) = rRest l no j ++ if x.no ≠ no then [x] else [] := by
  unfold rRest
  rw [List.take_add_one, h, List.filter_append]
  congr 1
  by_cases e : x.no = no <;> simp [e]
theorem rRest_len (l : List Rv) (no : Int) (j : Nat) : (rRest l no j).length ≤ j := by
  unfold rRest
  have := List.length_filter_le (fun x : Rv => decide (x.no ≠ no)) (l.take j)
  have := List.length_take_le j l
  omega
theorem rRest_all (l : List Rv) (no n : Int) (st tg : List UInt8) : rRest l no l.length ++ [⟨no, n, st, tg⟩] = rPut l ⟨no, n, st, tg⟩ := by rw [rRest, List.take_length]; rfl
theorem rRow_succ {l : List Rv} {no n : Int} {st : List UInt8} {k : Nat} {x : Rv} (h : l[k]? = some x) : rRow (l.take (k + 1)) no n st = rRow (l.take k) no n st ++ if rHas no n st x = true then [(no, x.tg)] else [] := by
  unfold rRow
  rw [List.take_add_one, h, List.filter_append, List.map_append]
  congr 1
  cases e : rHas no n st x <;> simp [e]
/-- Six cells of a block, written anew. -/
def put6 (W : World) (R : Nat) (a b c d e x : Value) : World := (((((W.setCell ⟨R, 3, none⟩ a).setCell ⟨R, 4, none⟩ b).setCell ⟨R, 5, none⟩ c).setCell ⟨R, 6, none⟩ d).setCell ⟨R, 7, none⟩ e).setCell ⟨R, 8, none⟩ x
theorem put6_blk {W : World} {R : Nat} {p0 p1 p2 p3 p4 p5 p6 p7 p8 : Value} {t : TypeId} (h : W.heap[R]? = some (.cells #[p0, p1, p2, p3, p4, p5, p6, p7, p8] t)) (a b c d e x : Value) : (put6 W R a b c d e x).heap[R]? = some (.cells #[p0, p1, p2, a, b, c, d, e, x] t) := setB (setB (setB (setB (setB (setB h 3 a) 4 b) 5 c) 6 d) 7 e) 8 x
theorem put6_mv (W : World) (R : Nat) (a b c d e x : Value) : Mv R W (put6 W R a b c d e x) := (((((Mv.set1 W R _ a).trans (Mv.set1 _ R _ b)).trans (Mv.set1 _ R _ c)).trans (Mv.set1 _ R _ d)).trans (Mv.set1 _ R _ e)).trans (Mv.set1 _ R _ x)
/-- The certificate's block while its tags are gathered. -/
structure Gt (W4 : World) (C : Nat) (X : List UInt8) (g : Int) (T : List Tg) (tv : Value) (wr : World) : Prop where
  blk : wr.heap[C]? = some (.cells #[.string (bs X), .int .i64 g, tv] 44)
  own : wr.ownsRow (C + 1) 92 2 tv T.length (tcs T)
  bel : Below C W4 wr
  size : C + 1 ≤ wr.heap.size
theorem Gt.next {W4 wr wr' : World} {C : Nat} {X : List UInt8} {g : Int} {T : List Tg} {tv : Value} (h : Gt W4 C X g T tv wr) (hb : Below wr.heap.size wr wr') : Gt W4 C X g T tv wr' :=
  ⟨(hb.block _ (by have := h.size; omega)).trans h.blk, owns_next h.own hb, h.bel.trans (hb.mono (by have := h.size; omega)), Nat.le_trans h.size hb.size⟩
set_option maxRecDepth 20000 in
set_option maxHeartbeats 8000000 in
theorem rVote_in {w : World} {R : Nat} {g : Int} {f : Nat} {r : Rs} {lv cv : Value} (h : RefAt w R g f r lv cv) (no n : Int) (st tg : List UInt8) (hno : inR no 0 (3 * (f : Int)) = true) (hl : r.L.length ≤ 900) (b : Bool) (E : Int) (r' : Rs) (hR : rvoteR g f r no n st tg = (b, E, r')) :
    Calls Tryd.prog 16 #[.pointer (some ⟨R, 0, none⟩), .agg #[.int .i64 no, .int .i64 n, .string (bs st), .string (bs tg)]] w fun e W' => e = .returned (.tuple #[.bool b, .int .i64 E]) ∧ RvPost R g f r' lv cv w W' := by
  obtain ⟨L, rn, rs, rt, rg, rT⟩ := r
  obtain ⟨la, lc, rfl⟩ := h.rows.slice
  dsimp only at hl h
  have hba := (Below.refl w.heap.size w).alloc (Nat.le_refl _) (.cells #[.int .i64 no, .int .i64 n, .string (bs st), .string (bs tg)] 57)
  have rQ := heap_alloc_new w (.cells #[.int .i64 no, .int .i64 n, .string (bs st), .string (bs tg)] 57)
  obtain ⟨sg, h1⟩ := (h.on hba).blk
  dsimp only at h1
  have f3 : (f : Int) ≤ 3 := by have := h.f3; omega
  obtain ⟨n0, n1⟩ := inR_t hno
  have e1 : decide (no < 0) = false := by simp; omega
  have e2 : decide (3 * (f : Int) < no) = false := by simp; omega
  have htE : tofE g f no n st = textE g n st := by rw [tofE, if_pos hno]
  have hsg : (bs tg).size = tg.length := bs_size tg
  obtain ⟨E1, hE1⟩ : ∃ x, textE g n st = x := ⟨_, rfl⟩
  obtain ⟨X, hX⟩ : ∃ x, textV g n st = x := ⟨_, rfl⟩
  obtain ⟨N, hN⟩ : ∃ x, rOf L no = x := ⟨_, rfl⟩
  have HX : Hid (_ ∧ _ ∧ _) := ⟨hba, rQ, h1⟩
  have HH : Hid (_) := h
  unfold rvoteR at hR
  dsimp only at hR
  rw [htE, hE1, hX, hN] at hR
  have HR : Hid (_) := hR
  have HG : Hid (∀ (WA : World), Below w.heap.size w WA → ∀ x : Cw WA, (Calls Tryd.prog 9 #[.int .i64 g, .int .i64 n, .string (bs st)] x.w fun e w'' => e = .returned (.tuple #[.string (bs X), .int .i64 E1]) ∧ ∃ y : Cw WA, w'' = y.w) ∧ (Calls Tryd.prog 23 #[.pointer (some ⟨R, 0, none⟩), .int .i64 no] x.w fun e w'' => e = .returned (.int .i64 N) ∧ ∃ y : Cw WA, w'' = y.w)) := by
    intro WA hA x
    constructor
    · have := rText_any g n st x.w
      rw [hE1, hX] at this
      refine this.mono ?_
      rintro e W' ⟨rfl, hb⟩
      exact ⟨rfl, ⟨W', x.h.trans (hb.mono x.h.size)⟩, rfl⟩
    · have hB : Below w.heap.size w x.w := hA.trans (x.h.mono hA.size)
      have := rOf_any (h.on hB) no (by show L.length ≤ 1000; omega)
      rw [hN] at this
      refine this.mono ?_
      rintro e W' ⟨rfl, hb⟩
      exact ⟨rfl, ⟨W', x.h.trans (hb.mono x.h.size)⟩, rfl⟩
  clear hba rQ h1 htE hE1 hX hN hR hno h
  go_enter Tryd.func16, Tryd.ntmps16
  go_upto_region 1 with fail
  obtain ⟨hba, rQ, h1⟩ := HX.out
  have q0 := cellB rQ 0 _ rfl
  have c1 := cellB h1 1 _ rfl
  have HX2 : Hid (_ ∧ _ ∧ _) := ⟨hba, rQ, h1⟩
  clear HX rQ h1 hba
  go_quiet (fail)
  go_upto_region 3 with fail
  obtain ⟨hba, rQ, h1⟩ := HX2.out
  obtain ⟨WA, hWA⟩ : ∃ W, (w.alloc (.cells #[.int .i64 no, .int .i64 n, .string (bs st), .string (bs tg)] 57)).drewN nq = W := ⟨_, rfl⟩
  have hA : Below w.heap.size w WA := by rw [← hWA]; exact below_drewN hba nq
  have rQA : WA.heap[w.heap.size]? = some (.cells #[.int .i64 no, .int .i64 n, .string (bs st), .string (bs tg)] 57) := by rw [← hWA]; exact rQ
  have h1A : WA.heap[R]? = some (.cells #[.int .i64 g, .int .i64 f, .slice la L.length lc, .int .i64 sg, .int .i64 rn, .string (bs rs), .string (bs rt), .int .i64 rg, cv] 46) := by rw [← hWA]; exact h1
  rw [hWA]
  have hltQ := (Array.getElem?_eq_some_iff.1 rQA).1
  have hltR := (Array.getElem?_eq_some_iff.1 h1A).1
  obtain ⟨Q, hQ⟩ : ∃ Q, w.heap.size = Q := ⟨_, rfl⟩
  have HQ : Hid (w.heap.size = Q) := hQ
  have HA : Hid (Below w.heap.size w WA) := hA
  have hG := HG.out WA hA
  rw [hQ] at rQA hltQ ⊢
  have k0 : ∀ x : Cw WA, x.w.cell? ⟨Q, 0, none⟩ = some (.int .i64 no) := fun x => cellB ((x.h.block _ hltQ).trans rQA) 0 _ rfl
  have k1 : ∀ x : Cw WA, x.w.cell? ⟨Q, 1, none⟩ = some (.int .i64 n) := fun x => cellB ((x.h.block _ hltQ).trans rQA) 1 _ rfl
  have k2 : ∀ x : Cw WA, x.w.cell? ⟨Q, 2, none⟩ = some (.string (bs st)) := fun x => cellB ((x.h.block _ hltQ).trans rQA) 2 _ rfl
  have m0 : ∀ x : Cw WA, x.w.cell? ⟨R, 0, none⟩ = some (.int .i64 g) := fun x => cellB ((x.h.block _ hltR).trans h1A) 0 _ rfl
  have gT := fun x => (hG x).1
  have gO := fun x => (hG x).2
  have HQA : Hid (_ ∧ _) := ⟨rQA, h1A⟩
  have : Nonempty (Cw WA) := ⟨⟨WA, Below.refl _ _⟩⟩
  clear HX2 hba rQ h1 hWA hA rQA h1A hltQ hltR hQ hG HG q0 c1
  refine wp_region_grow (W0 := WA) (by kernel_rfl) (by kernel_rfl) (Below.refl _ _) ?_
  repeat (quiet_step (first | (go_at_call 9; exact gT _)))
  refine wpQuiet_nil ?_
  rintro _ ⟨xa, rfl⟩
  by_cases hE0 : E1 = 0
  · subst hE0
    have hR := HR.out
    rw [if_neg (by simp)] at hR
    by_cases ht : tg.length = 16
    · rw [if_neg (by simp [ht])] at hR
      have k3 : ∀ x : Cw WA, x.w.cell? ⟨Q, 3, none⟩ = some (.string (bs tg)) := fun x => cellB ((x.h.block _ (Array.getElem?_eq_some_iff.1 HQA.out.1).1).trans HQA.out.1) 3 _ rfl
      have k3a := k3 xa
      rw [ht] at hsg
      have HR2 : Hid (_) := hR
      have Hh : Hid (_) := xa.h
      clear HR hR gT m0 k2 ht
      go_upto_region 8 with fail
      refine wp_region_grow (W0 := WA) (by kernel_rfl) (by kernel_rfl) Hh.out ?_
      repeat (quiet_step (first | (go_at_call 23; exact gO _)))
      refine wpQuiet_nil ?_
      rintro _ ⟨xb, rfl⟩
      by_cases hle : n ≤ N
      · have hR := HR2.out
        rw [if_pos hle] at hR
        simp only [Prod.mk.injEq] at hR
        obtain ⟨rfl, rfl, rfl⟩ := hR
        have HP : Hid (RvPost R g f ⟨L, rn, rs, rt, rg, rT⟩ (.slice la L.length lc) cv w xb.w) := RvPost.same HH.out (HA.out.trans (xb.h.mono HA.out.size))
        clear k0 k1 gO k3 k3a HR2
        go_wp2
        exact bodyPost_ret (v := .tuple #[.bool false, .int .i64 0]) (by simp [results, Tryd.f16, go_sem]) rfl ⟨rfl, HP.out⟩
      · have hR := HR2.out
        rw [if_neg hle] at hR
        have hle2 : N < n := by omega
        have HR3 : Hid (_) := hR
        have hBW := HA.out.trans (xb.h.mono HA.out.size)
        have hrows := (HH.out.on hBW).rows
        have rQ := (xb.h.block _ (Array.getElem?_eq_some_iff.1 HQA.out.1).1).trans HQA.out.1
        have h1 := (xb.h.block _ (Array.getElem?_eq_some_iff.1 HQA.out.2).1).trans HQA.out.2
        obtain ⟨W, hW⟩ : ∃ W, xb.w = W := ⟨_, rfl⟩
        rw [hW] at hBW hrows rQ h1 ⊢
        dsimp only at hrows
        have hltQ := (Array.getElem?_eq_some_iff.1 rQ).1
        have hltR := (Array.getElem?_eq_some_iff.1 h1).1
        have hRQ : R ≠ Q := by have := HH.out.lt; have := HQ.out; omega
        have c2 := cellB h1 2 _ rfl
        have HW : Hid (_ ∧ _ ∧ _ ∧ _) := ⟨hBW, hrows, rQ, h1⟩
        obtain ⟨i0, hi, hz0, hz1, hz2⟩ := info_parts Tryd.info57
        clear HR2 hR hW xb k0 k1 gO k3 k3a HQA hBW hrows rQ h1 hle Hh xa HA this
        go_wp2
        go_loopg [8, 59] L.length (fun gk rest i wr => ∃ j : Nat, j + gk = L.length ∧ i = .int .i64 j ∧ wr.ownsRow W.heap.size 57 4 rest (rRest L no j).length (rcs (rRest L no j)) ∧ Below W.heap.size W wr)
        case atStart => exact ⟨0, by omega, rfl, World.ownsRow_nil _ _ _ _, Below.refl _ _⟩
        case round =>
          clear c2
          obtain ⟨j, hj, rfl, hown, hB⟩ := hrel
          obtain ⟨ua, uc, rfl⟩ := owns_slice hown
          obtain ⟨hBW, hrows, rQ, h1⟩ := HW.out
          have rQ2 := (hB.block _ hltQ).trans rQ
          have q0 := cellB rQ2 0 _ rfl
          by_cases hlt : j < L.length
          · obtain ⟨x, hx⟩ : ∃ x, L[j]? = some x := ⟨_, List.getElem?_eq_getElem hlt⟩
            have hsucc := rRest_succ (no := no) hx
            have hcl := rRest_len L no j
            obtain ⟨vb, vo, rfl, hvl, x0, x1, x2, x3⟩ := (hrows.on hB).get hx
            obtain ⟨xn, xv, xs, xt⟩ := x
            simp only at x0 x1 x2 x3 hsucc
            obtain ⟨M, hM⟩ : ∃ M, rRest L no j = M := ⟨_, rfl⟩
            rw [hM] at hsucc hcl hown ⊢
            have m0 : (0 : Int) ≤ (j : Int) := by omega
            have m1 : (j : Int) < (L.length : Int) := by omega
            have hs1 := hB.size
            have hba := (Below.refl wr.heap.size wr).alloc (Nat.le_refl _) (.cells #[.int .i64 xn, .int .i64 xv, .string (bs xs), .string (bs xt)] 57)
            have rN := heap_alloc_new wr (.cells #[.int .i64 xn, .int .i64 xv, .string (bs xs), .string (bs xt)] 57)
            have q0' := cellB ((hba.block _ (by omega)).trans rQ2) 0 _ rfl
            by_cases e : xn = no
            · rw [if_neg (by simp [e])] at hsucc
              rw [List.append_nil] at hsucc
              subst e
              have HF : Hid (_ ∧ _ ∧ _ ∧ _) := ⟨hsucc, hown, hba, hB⟩
              clear hM hx hsucc hown hba hB rQ rQ2 h1 hrows rN
              go_wp2
              go_roundg (L.length - (j + 1))
              case measure => omega
              case rel =>
                obtain ⟨hsucc, hown, hba, hB⟩ := HF.out
                exact ⟨j + 1, by omega, by go_num, by rw [hsucc]; exact owns_next hown hba, hB.trans (hba.mono hB.size)⟩
            · rw [if_pos e] at hsucc
              have e2 : (xn != no) = true := by simpa using e
              have hml : M.length + 1 ≤ maxLen := by unfold maxLen; omega
              have hkb : (M.length + 1) * 48 ≤ 140737488355328 := by omega
              have hown2 := owns_next hown hba
              have y0 := cellB rN 0 _ rfl
              have y1 := cellB rN 1 _ rfl
              have y2 := cellB rN 2 _ rfl
              have y3 := cellB rN 3 _ rfl
              have HTk : Hid (rcs (M ++ [⟨xn, xv, xs, xt⟩]) = rcs M ++ [.int .i64 xn, .int .i64 xv, .string (bs xs), .string (bs xt)]) := rcs_append M _
              obtain ⟨RR, hRR⟩ : ∃ R, rcs M = R := ⟨_, rfl⟩
              rw [hRR] at hown2 HTk
              have HF : Hid (_ ∧ _ ∧ _) := ⟨hsucc, hba, hB⟩
              clear hM hx hsucc hown hba hB rQ rQ2 h1 hrows rN e hRR
              go_wp2_with (first
                | (at_builtin; refine wpList_append_own _ rfl _ _ 41 rfl W.heap.size 57 i0 (.agg #[.int .i64 0, .int .i64 0, .string ⟨#[]⟩, .string ⟨#[]⟩]) 4 48 Tryd.underlying41 hi hz0 hz1 hz2 rfl (by decide) (.slice ua M.length uc) M.length RR rfl (hown2.alloc _) _ 1 1 [.int .i64 xn, .int .i64 xv, .string (bs xs), .string (bs xt)] rfl rfl (World.news_of_block (heap_alloc2_new _ _ _)) (by simp [Value.oneCell']) hml hkb (by simp; omega) ?_; intro v' w' g1 g2 _))
              go_roundg (L.length - (j + 1))
              case measure => omega
              case rel =>
                obtain ⟨hsucc, hba, hB⟩ := HF.out
                have hs2 := hba.size
                have hg : Below W.heap.size (wr.alloc (.cells #[.int .i64 xn, .int .i64 xv, .string (bs xs), .string (bs xt)] 57)) w' := ((Below.refl _ _).alloc (by omega) _).grown g2 (by simp; omega) (fun q hq => (hown2.lt q hq).1)
                exact ⟨j + 1, by omega, by go_num, by rw [hsucc, HTk.out, List.length_append]; exact g1, (hB.trans (hba.mono hB.size)).trans hg⟩
          · have hjn : j = L.length := by omega
            subst hjn
            have hcl := rRest_len L no L.length
            have hall := rRest_all L no n st tg
            obtain ⟨F, hF⟩ : ∃ F, rRest L no L.length = F := ⟨_, rfl⟩
            rw [hF] at hown hcl hall ⊢
            have hml : F.length + 1 ≤ maxLen := by unfold maxLen; omega
            have hkb : (F.length + 1) * 48 ≤ 140737488355328 := by omega
            have q1 := cellB rQ2 1 _ rfl
            have q2 := cellB rQ2 2 _ rfl
            have q3 := cellB rQ2 3 _ rfl
            have hs1 := hB.size
            have HTk : Hid (rcs (F ++ [⟨no, n, st, tg⟩]) = rcs F ++ [.int .i64 no, .int .i64 n, .string (bs st), .string (bs tg)]) := rcs_append F _
            obtain ⟨RR, hRR⟩ : ∃ R, rcs F = R := ⟨_, rfl⟩
            rw [hRR] at hown HTk
            have HF : Hid (_ ∧ _ ∧ _ ∧ _ ∧ _ ∧ _) := ⟨hall, hB, hBW, rQ, h1, hrows⟩
            clear hF hRR hall hB hBW rQ rQ2 h1 hrows
            go_upto_region 18 with (first
              | (at_builtin; refine wpList_append_own _ rfl _ _ 41 rfl W.heap.size 57 i0 (.agg #[.int .i64 0, .int .i64 0, .string ⟨#[]⟩, .string ⟨#[]⟩]) 4 48 Tryd.underlying41 hi hz0 hz1 hz2 rfl (by decide) (.slice ua F.length uc) F.length RR rfl (hown.alloc _) _ 1 1 [.int .i64 no, .int .i64 n, .string (bs st), .string (bs tg)] rfl rfl (World.news_of_block (heap_alloc_new _ _)) (by simp [Value.oneCell']) hml hkb (by simp; omega) ?_; intro v' w' g1 g2 _))
            obtain ⟨hall, hB, hBW, rQ, h1, hrows⟩ := HF.out
            have hg : Below W.heap.size wr w' := ((Below.refl _ _).alloc (by omega) _).grown g2 (by simp; omega) (fun q hq => (hown.lt q hq).1)
            have hBW' := hB.trans hg
            rw [← HTk.out] at g1
            have hlen1 : F.length + 1 = (F ++ [(⟨no, n, st, tg⟩ : Rv)]).length := by simp
            rw [hlen1, hall] at g1
            obtain ⟨a2, c2', rfl⟩ := owns_slice g1
            rw [hall] at hlen1
            have hs2 := hBW'.size
            have r2 := (hBW'.block _ hltR).trans h1
            have rQ3 := (hBW'.block _ hltQ).trans rQ
            obtain ⟨L', hL'⟩ : ∃ L', rPut L ⟨no, n, st, tg⟩ = L' := ⟨_, rfl⟩
            rw [hL'] at g1 hlen1 ⊢
            have HR4 : Hid (_) := HR3.out
            rw [hL'] at HR4
            have hl' : L'.length ≤ 1000 := by omega
            have z2 := cellB r2 2 _ rfl
            have z0 := cellB r2 0 _ rfl
            have zf := frozenB r2 2
            clear HF HTk hown hall hB h1 hrows hg q0 q1 q2 q3 hml hkb hcl HR3 RR g2 rQ
            have Hrl : Hid (Rl w' (.slice a2 L'.length c2') L') := Rl.of_owns g1
            have Hown : Hid (∀ k, (Value.slice a2 L'.length c2').ownBlock = some k → W.heap.size ≤ k ∧ k < w'.heap.size) := fun k hk => g1.lt k hk
            have HF : Hid (_ ∧ _ ∧ _ ∧ _ ∧ _) := ⟨hBW, hBW', r2, rQ3, hL'⟩
            clear g1 hBW hBW' r2 rQ3 hL' hlen1
            go_upto_region 20 with fail
            obtain ⟨hBW, hBW', r2, rQ3, hL'⟩ := HF.out
            have r3 := setB r2 2 (.slice a2 L'.length c2')
            obtain ⟨w3, hw3⟩ : ∃ w3, w'.setCell ⟨R, 2, none⟩ (.slice a2 L'.length c2') = w3 := ⟨_, rfl⟩
            have hsz3 : w3.heap.size = w'.heap.size := by rw [← hw3]; simp [World.setCell]
            have hmv3 : Mv R w' w3 := by rw [← hw3]; exact Mv.set1 _ _ _ _
            rw [hw3] at r3 ⊢
            have hba4 := (Below.refl w3.heap.size w3).alloc (Nat.le_refl _) (.cells #[.string (bs X), .int .i64 g, .slice none 0 0] 44)
            have rC := heap_alloc_new w3 (.cells #[.string (bs X), .int .i64 g, .slice none 0 0] 44)
            have hsz4 : (w3.alloc (.cells #[.string (bs X), .int .i64 g, .slice none 0 0] 44)).heap.size = w3.heap.size + 1 := by simp
            obtain ⟨W4, hW4⟩ : ∃ W, w3.alloc (.cells #[.string (bs X), .int .i64 g, .slice none 0 0] 44) = W := ⟨_, rfl⟩
            rw [hW4] at hba4 rC hsz4 ⊢
            have r4 : W4.heap[R]? = some (.cells #[.int .i64 g, .int .i64 f, .slice a2 L'.length c2', .int .i64 sg, .int .i64 rn, .string (bs rs), .string (bs rt), .int .i64 rg, cv] 46) := (hba4.block _ (by omega)).trans r3
            have rQ4 := (hba4.block _ (by omega)).trans (hmv3.far (by omega) (Ne.symm hRQ) rQ3)
            have hrl4 : Rl W4 (.slice a2 L'.length c2') L' := (Hrl.out.keep hmv3.size (fun k hk _ hlt => hmv3.block k hlt (by have := Hown.out k hk; omega))).on hba4
            have hown4 : ∀ k, (Value.slice a2 L'.length c2').ownBlock = some k → W.heap.size ≤ k ∧ k < w3.heap.size := fun k hk => by have := Hown.out k hk; omega
            have hmv4 : Mv R w W4 := ((Mv.of_below hBW R).trans (Mv.of_below hBW' R)).trans (hmv3.trans (Mv.of_below hba4 R))
            obtain ⟨C, hC⟩ : ∃ C, w'.heap.size = C := ⟨_, rfl⟩
            rw [hsz3, hC] at rC hown4 hsz4
            rw [hC]
            have HS : Hid (W.heap.size ≤ C ∧ Q < C ∧ R < C ∧ Q < W.heap.size ∧ R < W.heap.size) := ⟨by omega, by omega, by omega, hltQ, hltR⟩
            have HY : Hid (_ ∧ _ ∧ _ ∧ _ ∧ _) := ⟨r4, rQ4, hrl4, hown4, hmv4⟩
            have hGt : Gt W4 C X g [] (.slice none 0 0) W4 := ⟨rC, World.ownsRow_nil _ _ _ _, Below.refl _ _, by omega⟩
            have HG4 : Hid (_) := hGt
            obtain ⟨i9, hi9, hy0, hy1, hy2⟩ := info_parts Tryd.info92
            clear HF Hrl Hown hBW hBW' r2 rQ3 hL' r3 hw3 hsz3 hmv3 hba4 rC hsz4 hW4 r4 rQ4 hrl4 hown4 hmv4 hC hGt z2 z0 zf hs1 hs2 hltQ hltR HW hi hz0 hz1 hz2
            go_wp2
            go_loopg [12] (3 * f + 1) (fun gk i wr => ∃ (j : Nat) (tv : Value), j + gk = 3 * f + 1 ∧ i = .int .i64 j ∧ Gt W4 C X g (rTags L' n st j) tv wr)
            case atStart => exact ⟨0, _, by omega, rfl, HG4.out⟩
            case round =>
              clear HG4
              obtain ⟨j, tv, hj, rfl, hGt⟩ := hrel
              rename World => wq
              obtain ⟨r4, rQ4, hrl4, hown4, hmv4⟩ := HY.out
              have r5 := (hGt.bel.block _ HS.out.2.2.1).trans r4
              have d1 := cellB r5 1 _ rfl
              have d2 := cellB r5 2 _ rfl
              have ff : f ≤ 3 := by omega
              by_cases hlt : j ≤ 3 * f
              · have j1 : (j : Int) ≤ 3 * (f : Int) := by omega
                have j0 : (0 : Int) ≤ (j : Int) := by omega
                have j9 : (j : Int) ≤ 9 := by omega
                have htl := rTags_len L' n st j
                have hsucc : rTags L' n st (j + 1) = rTags L' n st j ++ rRow L' j n st := rfl
                obtain ⟨T, hT⟩ : ∃ T, rTags L' n st j = T := ⟨_, rfl⟩
                rw [hT] at hGt htl hsucc
                have hTl : T.length ≤ 10000 := by
                  have : j * L'.length ≤ 9 * 1000 := Nat.mul_le_mul (by omega) hl'
                  omega
                have HGo : Hid (_) := hGt
                have HSu : Hid (_) := hsucc
                clear hT hsucc htl r4 rQ4 hrl4 hown4 hmv4 r5 hGt
                go_wp2
                go_loopg [101] L'.length (fun gk i wr => ∃ (k : Nat) (tv : Value), k + gk = L'.length ∧ i = .int .i64 k ∧ Gt W4 C X g (T ++ rRow (L'.take k) j n st) tv wr)
                case atStart => exact ⟨0, tv, by omega, rfl, by simpa [rRow] using HGo.out⟩
                case round =>
                  clear HGo d1 d2
                  obtain ⟨k, tv2, hk, rfl, hG⟩ := hrel
                  obtain ⟨r4, rQ4, hrl4, hown4, hmv4⟩ := HY.out
                  by_cases hlt2 : k < L'.length
                  · obtain ⟨x, hx⟩ : ∃ x, L'[k]? = some x := ⟨_, List.getElem?_eq_getElem hlt2⟩
                    have hrl := hrl4.keep hG.bel.size (fun q hq _ _ => hG.bel.block q (hown4 q hq).2)
                    have rQ5 := (hG.bel.block _ HS.out.2.1).trans rQ4
                    have hsucc := rRow_succ (no := j) (n := n) (st := st) hx
                    have hrl5 := rRow_len (L'.take k) j n st
                    rw [List.length_take] at hrl5
                    obtain ⟨vb, vo, rfl, hvl, x0, x1, x2, x3⟩ := hrl.get hx
                    obtain ⟨xn, xv, xs, xt⟩ := x
                    simp only at x0 x1 x2 x3 hsucc
                    obtain ⟨M, hM⟩ : ∃ M, T ++ rRow (L'.take k) j n st = M := ⟨_, rfl⟩
                    have hMl : M.length ≤ 11000 := by rw [← hM, List.length_append]; omega
                    have hsucc2 : T ++ rRow (L'.take (k + 1)) j n st = M ++ if rHas j n st ⟨xn, xv, xs, xt⟩ = true then [((j : Int), xt)] else [] := by rw [hsucc, ← List.append_assoc, hM]
                    rw [hM] at hG
                    have m0 : (0 : Int) ≤ (k : Int) := by omega
                    have m1 : (k : Int) < (L'.length : Int) := by omega
                    have hba := (Below.refl wr.heap.size wr).alloc (Nat.le_refl _) (.cells #[.int .i64 xn, .int .i64 xv, .string (bs xs), .string (bs xt)] 57)
                    have rN := heap_alloc_new wr (.cells #[.int .i64 xn, .int .i64 xv, .string (bs xs), .string (bs xt)] 57)
                    have rQ6 := (hba.block _ (Array.getElem?_eq_some_iff.1 rQ5).1).trans rQ5
                    have hG2 := hG.next hba
                    have q1 := cellB rQ6 1 _ rfl
                    have q2 := cellB rQ6 2 _ rfl
                    have y3 := cellB rN 3 _ rfl
                    cases hh : rHas j n st ⟨xn, xv, xs, xt⟩
                    · rw [hh, if_neg (by decide), List.append_nil] at hsucc2
                      have HF : Hid (_ ∧ _) := ⟨hsucc2, hG2⟩
                      have hc : (xn == (j : Int)) = false ∨ ((xn = j) ∧ ((xv == n) = false ∨ (xv = n ∧ xs ≠ st))) := by
                        by_cases e1 : xn = j
                        · right
                          refine ⟨e1, ?_⟩
                          by_cases e2 : xv = n
                          · right
                            refine ⟨e2, fun e3 => ?_⟩
                            simp [rHas, e1, e2, e3] at hh
                          · left; simpa using e2
                        · left; simpa using e1
                      clear hh hsucc hsucc2 hG hG2 hba rN rQ5 rQ6 r4 rQ4 hrl4 hown4 hmv4 hrl hM hx hrl5 hvl
                      rcases hc with e1 | ⟨rfl, e2 | ⟨rfl, e3⟩⟩
                      · go_wp2
                        go_roundg (L'.length - (k + 1))
                        case measure => omega
                        case rel => exact ⟨k + 1, _, by omega, by go_num, by rw [HF.out.1]; exact HF.out.2⟩
                      · go_wp2
                        go_roundg (L'.length - (k + 1))
                        case measure => omega
                        case rel => exact ⟨k + 1, _, by omega, by go_num, by rw [HF.out.1]; exact HF.out.2⟩
                      · have hst := str_other e3
                        clear e3
                        go_wp2
                        go_roundg (L'.length - (k + 1))
                        case measure => omega
                        case rel => exact ⟨k + 1, _, by omega, by go_num, by rw [HF.out.1]; exact HF.out.2⟩
                    · rw [hh, if_pos rfl] at hsucc2
                      have he : xn = j ∧ xv = n ∧ xs = st := by simpa [rHas] using hh
                      obtain ⟨rfl, rfl, rfl⟩ := he
                      have hst := str_same xs
                      have hown := hG2.own
                      obtain ⟨ta, tc, rfl⟩ := owns_slice hown
                      have hml : M.length + 1 ≤ maxLen := by unfold maxLen; omega
                      have hkb : (M.length + 1) * 24 ≤ 140737488355328 := by omega
                      have t2 := cellB hG2.blk 2 _ rfl
                      have HTk : Hid (tcs (M ++ [((j : Int), xt)]) = tcs M ++ [.int .i64 j, .string (bs xt)]) := tcs_append M _
                      obtain ⟨RR, hRR⟩ : ∃ R, tcs M = R := ⟨_, rfl⟩
                      rw [hRR] at hown HTk
                      have hsC := hG2.size
                      have HC : Hid (∀ w9 : World, Below (C + 1) (wr.alloc (.cells #[.int .i64 j, .int .i64 xv, .string (bs xs), .string (bs xt)] 57)) w9 → w9.heap[C]? = some (.cells #[.string (bs X), .int .i64 g, .slice ta M.length tc] 44)) := fun w9 hb => (hb.block _ (by omega)).trans hG2.blk
                      have HF : Hid (_ ∧ _) := ⟨hsucc2, hG2⟩
                      have hsC2 : C + 1 ≤ wr.heap.size := hG.size
                      clear hh hsucc hsucc2 hG hG2 hba rN rQ5 rQ6 r4 rQ4 hrl4 hown4 hmv4 hrl hM hx hrl5 hvl hRR
                      go_wp2_with (first
                        | (at_builtin; refine wpList_append_own _ rfl _ _ 42 rfl (C + 1) 92 i9 (.agg #[.int .i64 0, .string ⟨#[]⟩]) 2 24 Tryd.underlying42 hi9 hy0 hy1 hy2 rfl (by decide) (.slice ta M.length tc) M.length RR rfl (hown.alloc _) _ 1 1 [.int .i64 j, .string (bs xt)] rfl rfl (World.news_of_block (heap_alloc2_new _ _ _)) (by simp [Value.oneCell']) hml hkb (by simp; omega) ?_; intro v' w' g1 g2 _; have hg : Below (C + 1) (wr.alloc (.cells #[.int .i64 j, .int .i64 xv, .string (bs xs), .string (bs xt)] 57)) w' := ((Below.refl _ _).alloc (by omega) _).grown g2 (by simp; omega) (fun q hq => (hown.lt q hq).1); have rC9 := HC.out _ hg; have c9 := cellB rC9 2 _ rfl; have f9 := frozenB rC9 2; obtain ⟨ta2, tc2, rfl⟩ := owns_slice g1; have HD : Hid (_ ∧ _ ∧ _) := ⟨hg, rC9, g1⟩; clear hg rC9 g1 g2))
                      go_roundg (L'.length - (k + 1))
                      case measure => omega
                      case rel =>
                        obtain ⟨hg, rC9, g1⟩ := HD.out
                        obtain ⟨hsucc2, hG2⟩ := HF.out
                        refine ⟨k + 1, .slice ta2 (M.length + 1) tc2, by omega, by go_num, ?_⟩
                        rw [hsucc2]
                        rw [← HTk.out] at g1
                        refine ⟨setB rC9 2 (.slice ta2 (M.length + 1) tc2), ?_, ?_, ?_⟩
                        · rw [List.length_append]
                          exact owns_kept g1 (fun q hq => set_far (by have := (g1.lt q hq).1; omega) _ _)
                        · exact (hG2.bel.trans (hg.mono (by omega))).setCell (p := ⟨C, 2, none⟩) (Nat.le_refl _) _
                        · have := hg.size
                          have := hG2.size
                          simp only [World.setCell, Array.size_modify]
                          omega
                  · have hkn : k = L'.length := by omega
                    subst hkn
                    rw [List.take_length] at hG
                    go_wp2
                    go_roundg (3 * f + 1 - (j + 1))
                    case measure => omega
                    case rel => exact ⟨j + 1, tv2, by omega, by go_num, by rw [HSu.out]; exact hG⟩
              · have hjn : j = 3 * f + 1 := by omega
                subst hjn
                have j2 : 3 * (f : Int) < ((3 * f + 1 : Nat) : Int) := by omega
                have htl := rTags_len L' n st (3 * f + 1)
                have hR := HR4.out
                obtain ⟨T, hT⟩ : ∃ T, rTags L' n st (3 * f + 1) = T := ⟨_, rfl⟩
                rw [hT] at hGt htl hR
                have hTl : T.length ≤ 10000 := by
                  have : (3 * f + 1) * L'.length ≤ 10 * 1000 := Nat.mul_le_mul (by omega) hl'
                  omega
                obtain ⟨ta, tc, rfl⟩ := owns_slice hGt.own
                have rQ5 := (hGt.bel.block _ HS.out.2.1).trans rQ4
                have q1 := cellB rQ5 1 _ rfl
                have q2 := cellB rQ5 2 _ rfl
                have d4 := cellB r5 4 _ rfl
                have d0 := cellB r5 0 _ rfl
                have t2 := cellB hGt.blk 2 _ rfl
                have hmv5 : Mv R w wq := ⟨hGt.bel.os.trans hmv4.os, hGt.bel.tape.trans hmv4.tape, hGt.bel.output.trans hmv4.output, Nat.le_trans hmv4.size hGt.bel.size, fun q hq hne => (hGt.bel.block q (by have := HS.out; have := HQ.out; omega)).trans (hmv4.block q hq hne)⟩
                have hrl5 := hrl4.keep hGt.bel.size (fun q hq _ _ => hGt.bel.block q (hown4 q hq).2)
                have HZ : Hid (_ ∧ _ ∧ _ ∧ _ ∧ _) := ⟨hGt, r5, hmv5, hrl5, hown4⟩
                have HR5 : Hid (_) := hR
                have HP : Hid (∀ (Wz : World), Wz.heap = wq.heap → Wz.os = wq.os → Wz.tape = wq.tape → Wz.output = wq.output → RvPost R g f ⟨L', rn, rs, rt, rg, rT⟩ (.slice la L.length lc) cv w Wz) := by
                  intro Wz e1 e2 e3 e4
                  have hm : Mv R w Wz := ⟨by rw [e2]; exact hmv5.os, by rw [e3]; exact hmv5.tape, by rw [e4]; exact hmv5.output, by rw [e1]; exact hmv5.size, fun q hq hne => by rw [e1]; exact hmv5.block q hq hne⟩
                  refine ⟨_, cv, ⟨⟨sg, by rw [e1]; exact r5⟩, HH.out.f3, hrl5.keep (by rw [e1]; exact Nat.le_refl _) (fun q _ _ _ => by rw [e1]), HH.out.tags.keep hm.size (fun q hq hT hlt => hm.block q hlt (HH.out.ownT q hq hT)), fun q hq _ => by have := hown4 q hq; have := HS.out; omega, HH.out.ownT⟩, hm, fun q hq => .inr (by have := hown4 q hq; have := HS.out; have := HQ.out; omega), fun q hq => .inl hq⟩
                have hTl2 : (T.length : Int) ≤ 10000 := by omega
                clear hGt r4 rQ4 hrl4 hown4 hmv4 r5 rQ5 hmv5 hrl5 hR hT htl HR4 HY d2 hlt
                by_cases hn : n ≤ rn
                · have hR := HR5.out
                  rw [if_pos (.inl hn)] at hR
                  simp only [Prod.mk.injEq] at hR
                  obtain ⟨rfl, rfl, rfl⟩ := hR
                  have e5 : decide (n ≤ rn) = true := by simpa using hn
                  go_upto_region 29 with fail
                  go_quiet (fail)
                  go_wp2
                  exact bodyPost_ret (v := .tuple #[.bool false, .int .i64 0]) (by simp [results, Tryd.f16, go_sem]) rfl ⟨rfl, HP.out _ rfl rfl rfl rfl⟩
                · have e5 : decide (n ≤ rn) = false := by simpa using hn
                  by_cases hlt : T.length < 2 * f + 1
                  · have hR := HR5.out
                    rw [if_pos (.inr hlt)] at hR
                    simp only [Prod.mk.injEq] at hR
                    obtain ⟨rfl, rfl, rfl⟩ := hR
                    have e6 : decide ((T.length : Int) < 2 * (f : Int) + 1) = true := by simp; omega
                    clear hlt
                    go_upto_region 29 with fail
                    go_quiet (fail)
                    go_wp2
                    exact bodyPost_ret (v := .tuple #[.bool false, .int .i64 0]) (by simp [results, Tryd.f16, go_sem]) rfl ⟨rfl, HP.out _ rfl rfl rfl rfl⟩
                  · have hR := HR5.out
                    rw [if_neg (by rintro (h | h); exact hn h; exact hlt h)] at hR
                    simp only [Prod.mk.injEq] at hR
                    have e6 : decide ((T.length : Int) < 2 * (f : Int) + 1) = false := by simp; omega
                    have HR6 : Hid (_) := hR
                    clear hlt hn hR HP HR5
                    go_upto_region 29 with fail
                    go_quiet (fail)
                    go_upto_region 31 with fail
                    obtain ⟨hGt, r5, hmv5, hrl5, hown4⟩ := HZ.out
                    obtain ⟨rfl, rfl, rfl⟩ := HR6.out
                    have hdr := below_drewN (Below.refl wq.heap.size wq) nq
                    have r6 : (wq.drewN nq).heap[R]? = some (.cells #[.int .i64 g, .int .i64 f, .slice a2 L'.length c2', .int .i64 sg, .int .i64 rn, .string (bs rs), .string (bs rt), .int .i64 rg, cv] 46) := r5
                    have rC6 : (wq.drewN nq).heap[C]? = some (.cells #[.string (bs X), .int .i64 g, .slice ta T.length tc] 44) := hGt.blk
                    have q1' : (wq.drewN nq).cell? ⟨Q, 1, none⟩ = some (.int .i64 n) := q1
                    have q2' : (wq.drewN nq).cell? ⟨Q, 2, none⟩ = some (.string (bs st)) := q2
                    have hm6 : Mv R w (wq.drewN nq) := hmv5.trans (Mv.of_below hdr R)
                    have hrl6 := hrl5.on hdr
                    have hT6 : Tp (wq.drewN nq) (.slice ta T.length tc) T := (Tp.of_owns hGt.own).on hdr
                    have hoT := fun k hk => (hGt.own.lt k hk).1
                    obtain ⟨W6, hW6⟩ : ∃ W, wq.drewN nq = W := ⟨_, rfl⟩
                    rw [hW6] at r6 rC6 q1' q2' hm6 hrl6 hT6 ⊢
                    have HV : Hid (_ ∧ _ ∧ _ ∧ _ ∧ _ ∧ _) := ⟨r6, hm6, hrl6, hT6, hoT, hown4⟩
                    have hRC : ¬ R = C := by have := HS.out; omega
                    have hCR : ¬ C = R := by have := HS.out; omega
                    have y0 := cellB r6 0 _ rfl
                    have y3 := cellB r6 3 _ rfl
                    have y4 := cellB r6 4 _ rfl
                    have y5 := cellB r6 5 _ rfl
                    have y6 := cellB r6 6 _ rfl
                    have y7 := cellB r6 7 _ rfl
                    have y8 := cellB r6 8 _ rfl
                    have z3 := frozenB r6 3
                    have z4 := frozenB r6 4
                    have z5 := frozenB r6 5
                    have z6 := frozenB r6 6
                    have z7 := frozenB r6 7
                    have z8 := frozenB r6 8
                    have t0 := cellB rC6 0 _ rfl
                    have t1 := cellB rC6 1 _ rfl
                    have t2' := cellB rC6 2 _ rfl
                    clear hGt r5 hmv5 hrl5 hown4 hdr r6 rC6 hm6 hrl6 hT6 hoT hW6 HZ HR6 d1 q1 q2 d4 d0 t2
                    go_region
                    all_goals
                      go_wp2
                      obtain ⟨r6, hm6, hrl6, hT6, hoT, hown4⟩ := HV.out
                      have hdr := below_drew (Below.refl W6.heap.size W6)
                      have r7 : W6.drew.heap[R]? = _ := r6
                      have hmp := put6_mv W6.drew R (.int .i64 g) (.int .i64 n) (.string (bs st)) (.string (bs X)) (.int .i64 g) (.slice ta T.length tc)
                      have hrp := put6_blk r7 (.int .i64 g) (.int .i64 n) (.string (bs st)) (.string (bs X)) (.int .i64 g) (.slice ta T.length tc)
                      have hS := HS.out
                      have hQe := HQ.out
                      have hP : RvPost R g f ⟨L', n, st, X, g, T⟩ (.slice la L.length lc) cv w (put6 W6.drew R (.int .i64 g) (.int .i64 n) (.string (bs st)) (.string (bs X)) (.int .i64 g) (.slice ta T.length tc)) :=
                        ⟨_, _, ⟨⟨g, hrp⟩, HH.out.f3, (hrl6.on hdr).keep hmp.size (fun q hq _ hlt => hmp.block q hlt (by have := hown4 q hq; omega)), (hT6.on hdr).keep hmp.size (fun q hq _ hlt => hmp.block q hlt (by have := hoT q hq; omega)), (fun q hq _ => by have := hown4 q hq; omega), (fun q hq _ => by have := hoT q hq; omega)⟩, (hm6.trans (Mv.of_below hdr R)).trans hmp, (fun q hq => .inr (by have := hown4 q hq; omega)), (fun q hq => .inr (by have := hoT q hq; omega))⟩
                      unfold put6 at hP
                      exact bodyPost_ret (v := .tuple #[.bool true, .int .i64 0]) (by simp [results, Tryd.f16, go_sem]) rfl ⟨rfl, hP⟩
    · rw [if_pos ht] at hR
      simp only [Prod.mk.injEq] at hR
      obtain ⟨rfl, rfl, rfl⟩ := hR
      have ht2 : ((tg.length : Int) != 16) = true := by simp; omega
      have k3 : xa.w.cell? ⟨Q, 3, none⟩ = some (.string (bs tg)) := cellB ((xa.h.block _ (Array.getElem?_eq_some_iff.1 HQA.out.1).1).trans HQA.out.1) 3 _ rfl
      have HP : Hid (RvPost R g f ⟨L, rn, rs, rt, rg, rT⟩ (.slice la L.length lc) cv w xa.w) := RvPost.same HH.out (HA.out.trans (xa.h.mono HA.out.size))
      clear ht HR gT gO m0 k2 k0 k1 HQA
      go_wp2
      exact bodyPost_ret (v := .tuple #[.bool false, .int .i64 4]) (by simp [results, Tryd.f16, go_sem]) rfl ⟨rfl, HP.out⟩
  · have hR := HR.out
    rw [if_pos hE0] at hR
    simp only [Prod.mk.injEq] at hR
    obtain ⟨rfl, rfl, rfl⟩ := hR
    have hE2 : (E1 != 0) = true := by simpa using hE0
    have HP : Hid (RvPost R g f ⟨L, rn, rs, rt, rg, rT⟩ (.slice la L.length lc) cv w xa.w) := RvPost.same HH.out (HA.out.trans (xa.h.mono HA.out.size))
    clear hE0 HR gT gO m0 k2 k0 k1 HQA
    go_wp2
    exact bodyPost_ret (v := .tuple #[.bool false, .int .i64 E1]) (by simp [results, Tryd.f16, go_sem]) rfl ⟨rfl, HP.out⟩
end Go.Proofs.YtmggfkhfiggloaaDoor
