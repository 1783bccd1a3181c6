/- The window's Raise, walked. -/
import Derived.Test.YtobojfkoffhljaaWiH
namespace Go.Proofs.Ytobojfkoffhljaa
open Go.RowKit Go.Maps
attribute [local go_sem ↓] Go.wp_at_zero Go.wp_at_succ

/-- The best ones that are left, where some go, and others are still to come. -/
def stayT (x : Int) (left : Lit → Bool) (T : List Bt) : List Bt := T.filter (fun a => !(decide (a.1 ≤ x)) || left (.int .i64 a.1))
theorem stayT_start {x : Int} {T : List Bt} {D : DataW Value} (hr : Rep D (T.map bent)) : stayT x (Maps.has D) T = T := by
  unfold stayT
  rw [List.filter_eq_self]
  intro a ha
  have := (hr.at (k := .int .i64 a.1) (v := bestV a) (List.mem_map.2 ⟨a, ha, rfl⟩) .nil).2
  rw [this]; simp
theorem stayT_end {x : Int} {left : Lit → Bool} {T : List Bt} (h : ∀ kl, left kl = false) : stayT x left T = T.filter (fun a => !(decide (a.1 ≤ x))) := by
  unfold stayT
  apply List.filter_congr
  intro a _
  rw [h]; simp
theorem int_same {a b : Int} (h : (Lit.int .i64 a).sameKey (.int .i64 b) = true) : a = b := by
  have := WideAt.sameKey_eq h
  injection this
theorem stayT_stays {x : Int} {left : Lit → Bool} {T : List Bt} {n : Int} (hg : decide (n ≤ x) = false) : stayT x (fun z => left z && !z.sameKey (.int .i64 n)) T = stayT x left T := by
  unfold stayT
  apply List.filter_congr
  intro a ha
  cases h : (Lit.int .i64 a.1).sameKey (.int .i64 n)
  · simp [h]
  · rw [int_same h, hg]; simp
theorem stayT_struck {x : Int} {left : Lit → Bool} {T : List Bt} {n : Int} (hg : decide (n ≤ x) = true) : ((stayT x left T).map bent).filter (fun p => !p.1.sameKey (.int .i64 n)) = (stayT x (fun z => left z && !z.sameKey (.int .i64 n)) T).map bent := by
  rw [List.filter_map]
  congr 1
  unfold stayT
  rw [List.filter_filter]
  apply List.filter_congr
  intro a ha
  simp only [Function.comp, bent]
  cases h : (Lit.int .i64 a.1).sameKey (.int .i64 n)
  · simp
  · rw [int_same h, hg]; simp
theorem Raise_bad {base : Nat} {w : World} {B : Nat} {ms mb : Option Nat} {g : Int} {f : Nat} {low : Int} {S : List Sk} {T : List Bt} (_h : WinAt base w B ms mb g f low S T) {x : Int} (hx : inB x 1099511627768 = false) : Calls Try.prog 24 #[.pointer (some ⟨B, 0, none⟩), .int .i64 x] w fun e W' => e = .returned (.tuple #[.bool false, .int .i64 1]) ∧ Below w.heap.size w W' := by
  have hW := fun W => wwithin_any x 1099511627768 W
  have c0 : (w.alloc (.cells #[.int .i64 x] 3)).cell? ⟨w.heap.size, 0, none⟩ = some (.int .i64 x) := cellB (heap_alloc_new w _) 0 _ rfl
  simp only [hx] at hW
  clear hx _h
  go_enter Try.func24, Try.ntmps24
  go_wp2_with (first | (go_at_call 25; refine (hW _).mono ?_; rintro e w1 ⟨rfl, h9⟩; replace h9 := h9.symm; subst h9))
  exact bodyPost_ret (v := .tuple #[.bool false, .int .i64 1]) (by simp [results, Try.f24, go_sem]) rfl ⟨rfl, (Below.refl _ w).alloc (Nat.le_refl _) _⟩
theorem Raise_no {base : Nat} {w : World} {B : Nat} {ms mb : Option Nat} {g : Int} {f : Nat} {low : Int} {S : List Sk} {T : List Bt} (h : WinAt base w B ms mb g f low S T) {x : Int} (hx : inB x 1099511627768 = true) (hl : x ≤ low) : Calls Try.prog 24 #[.pointer (some ⟨B, 0, none⟩), .int .i64 x] w fun e W' => e = .returned (.tuple #[.bool false, .int .i64 0]) ∧ Below w.heap.size w W' := by
  have hW := fun W => wwithin_any x 1099511627768 W
  have hba := (Below.refl w.heap.size w).alloc (Nat.le_refl _) (.cells #[.int .i64 x] 3)
  have c0 : (w.alloc (.cells #[.int .i64 x] 3)).cell? ⟨w.heap.size, 0, none⟩ = some (.int .i64 x) := cellB (heap_alloc_new w _) 0 _ rfl
  have c2 := (h.on hba).c.2.2.1
  have hd : decide (x ≤ low) = true := decide_eq_true hl
  have HB : Hid (∀ nq, _) := fun nq => below_drewN hba nq
  simp only [hx] at hW
  clear hx h hba
  go_enter Try.func24, Try.ntmps24
  go_upto_region 5 with (first | (go_at_call 25; refine (hW _).mono ?_; rintro e w1 ⟨rfl, h9⟩; replace h9 := h9.symm; subst h9))
  go_quiet (fail)
  go_wp2
  exact bodyPost_ret (v := .tuple #[.bool false, .int .i64 0]) (by simp [results, Try.f24, go_sem]) rfl ⟨rfl, HB.out nq⟩
set_option maxRecDepth 20000 in
set_option maxHeartbeats 4000000 in
theorem Raise_ok {base : Nat} {w : World} {B : Nat} {ms mb : Option Nat} {g : Int} {f : Nat} {low : Int} {S : List Sk} {T : List Bt} (h : WinAt base w B ms mb g f low S T) {x : Int} (hx : inB x 1099511627768 = true) (hl : low < x) : Calls Try.prog 24 #[.pointer (some ⟨B, 0, none⟩), .int .i64 x] w fun e W' => e = .returned (.tuple #[.bool true, .int .i64 0]) ∧ WinAt base W' B ms mb g f x (S.filter (fun a => !(decide (a.2.1 ≤ x)))) (T.filter (fun a => !(decide (a.1 ≤ x)))) ∧ Wv B ms mb ms mb w W' := by
  have hW := fun W => wwithin_any x 1099511627768 W
  have hba := (Below.refl w.heap.size w).alloc (Nat.le_refl _) (.cells #[.int .i64 x] 3)
  have hxx : 0 ≤ x ∧ x ≤ 1099511627768 := by simpa [inB] using hx
  have c0 : (w.alloc (.cells #[.int .i64 x] 3)).cell? ⟨w.heap.size, 0, none⟩ = some (.int .i64 x) := cellB (heap_alloc_new w _) 0 _ rfl
  have h1 := h.on hba
  have rP := heap_alloc_new w (.cells #[.int .i64 x] 3)
  have c2 := h1.c.2.2.1
  have fz := h1.fz 2
  have hPB : w.heap.size ≠ B := fun e => by have := h.lt; omega
  have hd : decide (x ≤ low) = false := decide_eq_false (by omega)
  have HX : Hid (_ ∧ _ ∧ _ ∧ _ ∧ _ ∧ _) := ⟨hba, h1, rP, hPB, hxx, h.lt⟩
  simp only [hx] at hW
  clear hx h hba h1 rP hPB hxx
  go_enter Try.func24, Try.ntmps24
  go_upto_region 5 with (first | (go_at_call 25; refine (hW _).mono ?_; rintro e w1 ⟨rfl, h9⟩; replace h9 := h9.symm; subst h9))
  go_quiet (fail)
  obtain ⟨hba, h1, rP, hPB, hxx, hBl⟩ := HX.out
  have hbq := below_drewN (Below.refl (w.alloc (.cells #[.int .i64 x] 3)).heap.size (w.alloc (.cells #[.int .i64 x] 3))) nq
  have h2 := h1.on hbq
  have hB2 := below_drewN hba nq
  have rP2 : ((w.alloc (.cells #[.int .i64 x] 3)).drewN nq).heap[w.heap.size]? = some (.cells #[.int .i64 x] 3) := rP
  obtain ⟨W2, hW2⟩ : ∃ W, (w.alloc (.cells #[.int .i64 x] 3)).drewN nq = W := ⟨_, rfl⟩
  obtain ⟨P, hP⟩ : ∃ P, w.heap.size = P := ⟨_, rfl⟩
  have HB : Hid (_) := hB2
  rw [hW2] at h2 HB rP2 ⊢
  rw [hP] at rP2 hPB ⊢
  clear HX h1 hba rP c0 c2 hW2 hbq hW fz hB2 hd
  have c0 := cellB rP2 0 _ rfl
  have c2 := h2.c.2.2.1
  have fz := h2.fz 2
  have h3 : WinAt base (W2.setCell ⟨B, 2, none⟩ (.int .i64 x)) B ms mb g f x S T := by
    refine ⟨setB h2.blk 2 _, h2.slots.keep (fun k e => set_far (h2.sb k e).2 _ _), h2.bests.keep (fun k e => set_far (h2.bb k e).2 _ _), h2.up, h2.sb, h2.bb, h2.ne, h2.f3, h2.g4, hxx.1, hxx.2, h2.okS, h2.okT, h2.few⟩
  have rP3 : (W2.setCell ⟨B, 2, none⟩ (.int .i64 x)).heap[P]? = some (.cells #[.int .i64 x] 3) := (set_far hPB _ _).trans rP2
  have hD := drop39 h3 x P rP3
  have HV : Hid (Wv B ms mb ms mb w (W2.setCell ⟨B, 2, none⟩ (.int .i64 x))) := by
    refine ⟨HB.out.os, HB.out.tape, HB.out.output, ?_, fun k hk h1 _ _ => (set_far h1 _ _).trans (HB.out.block k hk), fun k => ⟨.inl, .inl⟩⟩
    have := HB.out.size
    simp only [World.setCell, Array.size_modify]
    exact this
  have HR : Hid (_ ∧ _ ∧ _) := ⟨rP3, h3, hPB⟩
  clear h2 h3 rP2 rP3 HB hPB
  go_upto_region 9 with (first | (go_at_call 36; refine hD.mono ?_; rintro e w3 ⟨rfl, h4, h5⟩))
  obtain ⟨rP3, h3, hPB⟩ := HR.out
  have hPl := (Array.getElem?_eq_some_iff.1 rP3).1
  have rP4 : w3.heap[P]? = some (.cells #[.int .i64 x] 3) := by
    refine (h5.block P hPl hPB (fun e => ?_) (fun e => ?_)).trans rP3
    · rcases h3.slots with ⟨h9, _⟩ | ⟨b', D, hb', ho, _⟩
      · rw [h9] at e; cases e
      · obtain ⟨es, clock, h9, _⟩ := ho
        rw [hb'] at e
        injection e with e
        rw [e, rP3] at h9
        cases h9
    · rcases h3.bests with ⟨h9, _⟩ | ⟨b', D, hb', ho, _⟩
      · rw [h9] at e; cases e
      · obtain ⟨es, clock, h9, _⟩ := ho
        rw [hb'] at e
        injection e with e
        rw [e, rP3] at h9
        cases h9
  have HW5 : Hid (Wv B ms mb ms mb w w3) := HV.out.trans h5
  clear HV h5 HR h3 rP3 hD c0 c2 fz hPl
  obtain ⟨c0, c1, c2, c3, c4⟩ := h4.c
  cases mb with
  | none =>
    have hT0 : T = [] := by
      rcases h4.bests with ⟨_, h9⟩ | ⟨_, _, h9, _⟩
      · simpa using h9
      · cases h9
    subst hT0
    have hrg := run_range_nilMap (P := Try.prog) w3 63 3 71 Try.underlying63
    have hnx : ∀ ty, (Instr.next (.pointer (some ⟨w3.heap.size, 0, none⟩)) false ty).run Try.prog (w3.alloc (.mapIter none 0 #[] 0)) = _ := fun ty => run_next_nilMap w3 ty 0 0 #[]
    have hba := (Below.refl w3.heap.size w3).alloc (Nat.le_refl _) (.mapIter none 0 #[] 0)
    have HZ : Hid (_ ∧ _) := ⟨h4.on hba, HW5.out.trans (Wv.of_below hba _ _ _)⟩
    clear h4 hba rP4 HW5
    go_wp2
    refine wp_loop_rounds 1 ?_
    rw [rounds_succ]
    go_wp2
    exact bodyPost_ret (v := .tuple #[.bool true, .int .i64 0]) (by simp [results, Try.f24, go_sem]) rfl ⟨rfl, HZ.out.1, HZ.out.2⟩
  | some q =>
    have hqB := (h4.bb q rfl).2
    have hBl3 := h4.lt
    have hPq : P ≠ q := by
      rcases h4.bests with ⟨h9, _⟩ | ⟨b', D, hb', ho, _⟩
      · cases h9
      · injection hb' with hb'
        obtain ⟨es, clock, h9, _⟩ := ho
        intro e
        rw [← hb', ← e, rP4] at h9
        cases h9
    have hPl := (Array.getElem?_eq_some_iff.1 rP4).1
    obtain ⟨D, ho, hr⟩ : ∃ D, w3.ownsMap Try.prog 3 heldE q (T.map bent).length D ∧ Rep D (T.map bent) := by
      rcases h4.bests with ⟨h9, _⟩ | ⟨b', D, hb', ho, hr⟩
      · cases h9
      · injection hb' with hb'
        subst hb'
        exact ⟨D, ho, hr⟩
    have HW : Hid (_) := h4
    clear h4
    have HF : Hid ((∀ wr : World, w3.grownBy wr (some q) → wr.cell? ⟨B, 4, none⟩ = some (.map (some q))) ∧ (∀ wr : World, w3.grownBy wr (some q) → wr.cell? ⟨P, 0, none⟩ = some (.int .i64 x))) := ⟨fun wr hg => cellB ((hg.block B hBl3 (fun e => hqB (Option.some.inj e).symm)).trans HW.out.blk) 4 _ rfl, fun wr hg => cellB ((hg.block P hPl (fun e => hPq (Option.some.inj e))).trans rP4) 0 _ rfl⟩
    clear hPl rP4
    obtain ⟨N0, hN0⟩ : ∃ N0, (T.map bent).length = N0 := ⟨_, rfl⟩
    rw [hN0] at ho
    clear hN0
    have hst := stayT_start (x := x) hr
    go_wp2_with (first
      | (at_range; refine wpList_range_own _ rfl _ 63 rfl 3 71 law3 Try.underlying63 _ q N0 D rfl ho ?_; intro w0 hrg0 hg0 hs0)
      | go_in)
    go_frame
    go_loopw [] (fun wr => ∃ (left : Lit → Bool) (cnt : Nat) (Dn : DataW Value), wr.ranges Try.prog 3 heldE q w3.heap.size N0 Dn left cnt ∧ Rep Dn ((stayT x left T).map bent) ∧ w3.grownBy wr (some q))
      (fun wr => wr.rangeLeft q w3.heap.size)
    case atStart => exact ⟨_, _, D, hrg0, by rw [hst]; exact hr, hg0.but _⟩
    case round =>
      clear hrg0 hg0 hs0 hst ho hr c0 c1 c2 c3 c4
      obtain ⟨left, cnt, Dn, hrg, hrn, hgw⟩ := hrel
      go_wp2_with (first
        | (at_next; refine wpList_next_ranges (α := Int) (β := Value) _ rfl _ rfl 3 law3 heldE (fun a => .int .i64 a) (fun v => v) (fun key kl hk => by obtain ⟨v, rfl, _⟩ := Maps.keyOf_int_inv Try.underlying3 hk; exact ⟨v, rfl⟩) (fun v y _ => ⟨v, rfl⟩) q w3.heap.size N0 Dn left cnt rfl hrg ?_ ?_)
        | go_in)
      · intro _ hl0
        have hend := stayT_end (x := x) (T := T) hl0
        rw [hend] at hrn
        have HE : Hid (_) := hrn
        clear hend hrn
        go_wp2
        have hrn := HE.out
        have hw := HW.out
        refine bodyPost_ret (v := .tuple #[.bool true, .int .i64 0]) (by simp [results, Try.f24, go_sem]) rfl ⟨rfl, ⟨(hgw.block B hBl3 (fun e => hqB (Option.some.inj e).symm)).trans hw.blk, hw.slots.keep (fun k e => hgw.block k (hw.slots.lt e) (fun e2 => hw.ne k e (by rw [Option.some.inj e2]))), .inr ⟨q, Dn, rfl, own_len hrg.owns hrn, hrn⟩, hw.up, hw.sb, hw.bb, hw.ne, hw.f3, hw.g4, hw.low0, hw.low1, hw.okS, fun a ha => hw.okT a (List.mem_filter.1 ha).1, ⟨hw.few.1, Nat.le_trans (List.length_filter_le _ _) hw.few.2⟩⟩, HW5.out.grown hgw (.inr rfl)⟩
      · intro n5 c5 kl y1 y2 w1 cnt1 hkey hlk hRv hat hrg1 hlt hg1 hs1 hen
        obtain ⟨n', e5, rfl, wn⟩ := Maps.keyOf_int_inv Try.underlying3 hkey
        injection e5 with _ e5
        subst e5
        have hgw1 := hgw.andThen hg1 (fun j hj => by cases hj; exact Or.inl (Nat.le_refl _))
        have u0 := HF.out.2 _ hgw1
        have u4 := HF.out.1 _ hgw1
        have HM : Hid (wr.rangeLeft q w3.heap.size = cnt) := hrg.left_eq
        have HY : Hid (_ ∧ _) := ⟨hrn, hgw1⟩
        clear hrn hat hgw hgw1 hg1 hRv hlk hs1 hrg
        by_cases hgn : n5 ≤ x
        · have HG : Hid (decide (n5 ≤ x) = true) := by show _ = _; simp [hgn]
          go_wp2_with (first
            | (at_delete; refine wpList_delete_ranges _ rfl _ _ 63 3 rfl 71 law3 Try.underlying63 _ q w3.heap.size N0 Dn _ cnt1 rfl hrg1 _ _ rfl hkey ?_; intro w4 cnt4 hrg4 hle4 htn)
            | go_in)
          rw [Maps.strike_twice] at hrg4
          go_roundw
          case rel =>
            obtain ⟨hrn, hgw1⟩ := HY.out
            have hr4 := hrn.del (.int .i64 n5)
            rw [stayT_struck HG.out] at hr4
            have h9 : w1.grownBy w4 (some q) := ⟨htn.grown.os, htn.grown.tape, htn.grown.output, htn.grown.size, htn.grown.block⟩
            exact ⟨_, cnt4, _, hrg4, hr4, hgw1.andThen h9 (fun j hj => .inr hj)⟩
          case measure => rw [hrg4.left_eq, HM.out]; omega
        · have HG : Hid (decide (n5 ≤ x) = false) := by show _ = _; simp; omega
          have hgn2 : x < n5 := by omega
          go_wp2
          go_roundw
          case rel =>
            obtain ⟨hrn, hgw1⟩ := HY.out
            exact ⟨_, cnt1, Dn, hrg1, by rw [stayT_stays HG.out]; exact hrn, hgw1⟩
          case measure => rw [hrg1.left_eq, HM.out]; exact hlt
end Go.Proofs.Ytobojfkoffhljaa
