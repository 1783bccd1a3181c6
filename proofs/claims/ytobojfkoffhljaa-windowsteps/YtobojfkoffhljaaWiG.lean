/- What the window drops, walked. -/
import Derived.Test.YtobojfkoffhljaaWiF
namespace Go.Proofs.Ytobojfkoffhljaa
open Go.RowKit Go.Maps
attribute [local go_sem ↓] Go.wp_at_zero Go.wp_at_succ

set_option maxRecDepth 20000 in
set_option maxHeartbeats 4000000 in
theorem drop37 {base : Nat} {w : World} {B : Nat} {ms mb : Option Nat} {g : Int} {f : Nat} {low : Int} {S : List Sk} {T : List Bt} (h : WinAt base w B ms mb g f low S T) (x : Int) (P : Nat) (rP : w.heap[P]? = some (.cells #[.int .i64 x] 3)) : Calls Try.prog 36 #[.pointer (some ⟨B, 0, none⟩), .func (.func 37) #[] #[.pointer (some ⟨P, 0, none⟩)]] w fun e W' => e = .returned (.int .i64 ((S.length : Int) - ((S.filter (fun a => !(decide (a.1 < x)))).length : Int))) ∧ WinAt base W' B ms mb g f low (S.filter (fun a => !(decide (a.1 < x)))) T ∧ Wv B ms mb ms mb w W' := by
  obtain ⟨c0, c1, c2, c3, c4⟩ := h.c
  cases ms with
  | none =>
    have hS0 : S = [] := by
      rcases h.slots with ⟨_, h9⟩ | ⟨_, _, h9, _⟩
      · simpa using h9
      · cases h9
    subst hS0
    have hrg := run_range_nilMap (P := Try.prog) w 62 76 48 Try.underlying62
    have hnx : ∀ ty, (Instr.next (.pointer (some ⟨w.heap.size, 0, none⟩)) false ty).run Try.prog (w.alloc (.mapIter none 0 #[] 0)) = _ := fun ty => run_next_nilMap w ty 0 0 #[]
    have hba := (Below.refl w.heap.size w).alloc (Nat.le_refl _) (.mapIter none 0 #[] 0)
    have HX : Hid (_ ∧ _) := ⟨h.on hba, hba⟩
    clear h hba rP
    go_enter Try.func36, Try.ntmps36
    go_wp2
    refine wp_loop_rounds 1 ?_
    rw [rounds_succ]
    go_wp2
    go_ret
    exact ⟨rfl, HX.out.1, Wv.of_below HX.out.2 _ _ _⟩
  | some q =>
    have hqB := (h.sb q rfl).2
    have hBl := h.lt
    have hok := h.okS
    have hPq : P ≠ q := by
      rcases h.slots with ⟨h9, _⟩ | ⟨b', D, hb', ho, _⟩
      · cases h9
      · injection hb' with hb'
        obtain ⟨es, clock, h9, _⟩ := ho
        intro e
        rw [← hb', ← e, rP] at h9
        cases h9
    have hPl := (Array.getElem?_eq_some_iff.1 rP).1
    obtain ⟨D, ho, hr⟩ : ∃ D, w.ownsMap Try.prog 76 heldE q (S.map sent).length D ∧ Rep D (S.map sent) := by
      rcases h.slots with ⟨h9, _⟩ | ⟨b', D, hb', ho, hr⟩
      · cases h9
      · injection hb' with hb'
        subst hb'
        exact ⟨D, ho, hr⟩
    have HW : Hid (_) := h
    have hfew := h.few.1
    clear h
    have hB3 : ∀ wr : World, w.grownBy wr (some q) → wr.cell? ⟨B, 3, none⟩ = some (.map (some q)) := fun wr hg => cellB ((hg.block B hBl (fun e => hqB (Option.some.inj e).symm)).trans HW.out.blk) 3 _ rfl
    have hPc : ∀ wr : World, w.grownBy wr (some q) → wr.cell? ⟨P, 0, none⟩ = some (.int .i64 x) := fun wr hg => cellB ((hg.block P hPl (fun e => hPq (Option.some.inj e))).trans rP) 0 _ rfl
    have HF : Hid (_ ∧ _) := ⟨hB3, hPc⟩
    clear hB3 hPc
    obtain ⟨N0, hN0⟩ : ∃ N0, (S.map sent).length = N0 := ⟨_, rfl⟩
    rw [hN0] at ho
    clear hN0
    have hst := stay_start (gone := fun v n => decide (v < x)) hr
    go_enter Try.func36, Try.ntmps36
    go_wp2_with (first
      | (at_range; refine wpList_range_own _ rfl _ 62 rfl 76 48 law76 Try.underlying62 _ q N0 D rfl ho ?_; intro w0 hrg0 hg0 hs0)
      | go_in)
    go_frame
    go_loopw [5] (fun cv wr => ∃ (left : Lit → Bool) (cnt : Nat) (Dn : DataW Value), wr.ranges Try.prog 76 heldE q w.heap.size N0 Dn left cnt ∧ Rep Dn ((stay (fun v n => decide (v < x)) left S).map sent) ∧ cv = .int .i64 ((S.length : Int) - ((stay (fun v n => decide (v < x)) left S).length : Int)) ∧ w.grownBy wr (some q))
      (fun _ wr => wr.rangeLeft q w.heap.size)
    case atStart => exact ⟨_, _, D, hrg0, by rw [hst]; exact hr, by rw [hst]; simp, hg0.but _⟩
    case round =>
      clear hrg0 hg0 hs0 hst ho hr c0 c1 c2 c3 c4
      obtain ⟨left, cnt, Dn, hrg, hrn, rfl, hgw⟩ := hrel
      go_wp2_with (first
        | (at_next; refine wpList_next_ranges (α := Int × Int) (β := Value) _ rfl _ rfl 76 law76 heldE (fun a => .agg #[.int .i64 a.1, .int .i64 a.2]) (fun v => v) (fun key kl hk => by obtain ⟨v, n, rfl, _⟩ := keyOf_place_inv hk; exact ⟨(v, n), rfl⟩) (fun v y _ => ⟨v, rfl⟩) q w.heap.size N0 Dn left cnt rfl hrg ?_ ?_)
        | go_in)
      · intro _ hl0
        have hend := stay_end (gone := fun v n => decide (v < x)) (S := S) hl0
        have HE : Hid (_ ∧ _) := ⟨hend, hrn⟩
        clear hend hrn
        go_wp2
        go_ret
        obtain ⟨hend, hrn⟩ := HE.out
        rw [hend] at hrn
        have hw := HW.out
        refine ⟨by simp [hend], ⟨(hgw.block B hBl (fun e => hqB (Option.some.inj e).symm)).trans hw.blk, .inr ⟨q, Dn, rfl, own_len hrg.owns hrn, hrn⟩, hw.bests.keep (fun k e => hgw.block k (hw.bests.lt e) (fun e2 => hw.ne q rfl (by rw [← Option.some.inj e2]; exact e))), hw.up, hw.sb, hw.bb, hw.ne, hw.f3, hw.g4, hw.low0, hw.low1, fun a ha => hw.okS a (List.mem_filter.1 ha).1, hw.okT, ⟨Nat.le_trans (List.length_filter_le _ _) hw.few.1, hw.few.2⟩⟩, ?_⟩
        exact ⟨hgw.os, hgw.tape, hgw.output, hgw.size, fun k hk _ h2 _ => hgw.block k hk (fun e => h2 e.symm), fun k => ⟨.inl, .inl⟩⟩
      · intro v5 n5 c5 kl y1 y2 w1 cnt1 hkey hlk hRv hat hrg1 hlt hg1 hs1 hen
        obtain ⟨v', n', e5, wv, wn, rfl⟩ := keyOf_place_inv hkey
        injection e5 with e5
        injection e5 with e5
        injection e5 with e6 e7
        injection e7 with e7
        injection e6 with _ e6
        injection e7 with _ e7
        subst e6 e7
        have hgw1 := hgw.andThen hg1 (fun j hj => by cases hj; exact Or.inl (Nat.le_refl _))
        have hhas := Maps.has_true_of_atKey hat
        have hrz : w.heap.size < w1.heap.size := by rw [hs1]; exact hrg.lt
        have hqz : q < w1.heap.size := hrg1.owns.lt
        have hba := (Below.refl w1.heap.size w1).alloc (Nat.le_refl _) (.cells #[.int .i64 v5, .int .i64 n5] 76)
        have hga : w.grownBy (w1.alloc (.cells #[.int .i64 v5, .int .i64 n5] 76)) (some q) := hgw1.andThen (World.grownBy_alloc w1 _ none) (fun j hj => by cases hj)
        have hcl := clo37 x P v5 n5 (w1.alloc (.cells #[.int .i64 v5, .int .i64 n5] 76)) (HF.out.2 _ hga)
        have rK := heap_alloc_new w1 (.cells #[.int .i64 v5, .int .i64 n5] 76)
        have HX : Hid (_ ∧ _ ∧ _ ∧ _ ∧ _ ∧ _ ∧ _) := ⟨hrg, hrn, hrg1, hga, rK, hat, hba⟩
        have hmz := hrg.left_eq
        have HM : Hid (wr.rangeLeft q w.heap.size = cnt) := hmz
        clear hmz hrn hat hba hga rK hgw hgw1 hg1 hRv hlk hs1
        by_cases hgn : v5 < x
        · rw [show decide (v5 < x) = true by simp [hgn]] at hcl
          have HG : Hid (decide (v5 < x) = true) := by show _ = _; simp [hgn]
          clear hgn
          go_upto_region 8 with (first
            | (go_at_call 37; refine hcl.mono ?_; rintro e w2 ⟨rfl, hb2⟩))
          obtain ⟨hrg, hrn, hrg1, hga, rK, hat, hba⟩ := HX.out
          have hg2 : (w1.alloc (.cells #[.int .i64 v5, .int .i64 n5] 76)).grownBy w2 none := ⟨hb2.os, hb2.tape, hb2.output, hb2.size, fun i hi _ => hb2.block i hi⟩
          have hrg2 := (hrg1.alloc (.cells #[.int .i64 v5, .int .i64 n5] 76)).kept hg2 (by simp) (by simp)
          have hgw2 := hga.andThen hg2 (fun j hj => by cases hj)
          have rK2 := (hb2.block _ (Array.getElem?_eq_some_iff.1 rK).1).trans rK
          have u0 := cellB rK2 0 _ rfl
          have u1 := cellB rK2 1 _ rfl
          have c3 := HF.out.1 _ hgw2
          have hrgd : w2.drew.ranges Try.prog 76 heldE q w.heap.size N0 Dn (fun z => left z && !z.sameKey (pk v5 n5)) cnt1 := hrg2
          obtain ⟨w3, cnt3, hdel, hrg3, hle3, htn⟩ := hrgd.drop law76 Try.underlying62 hkey 0
          rw [Maps.strike_twice] at hrg3
          have hgw3 : w.grownBy w3 (some q) := by
            have h9 : w2.grownBy w3 (some q) := ⟨htn.grown.os, htn.grown.tape, htn.grown.output, htn.grown.size, htn.grown.block⟩
            exact hgw2.andThen h9 (fun j hj => .inr hj)
          have hr3 := hrn.del (pk v5 n5)
          rw [stay_struck (gone := fun v n => decide (v < x)) (v := v5) (n := n5) hok wv wn HG.out] at hr3
          have hsz : (stay (fun v n => decide (v < x)) left S).length = (stay (fun v n => decide (v < x)) (fun z => left z && !z.sameKey (pk v5 n5)) S).length + 1 := by
            have h9 := Maps.size_del (k := pk v5 n5) (hrg.owns.tidy law76)
            rw [hr3.size, hrn.size, hhas, if_pos rfl, List.length_map, List.length_map] at h9
            exact h9.symm
          have hle : (stay (fun v n => decide (v < x)) left S).length ≤ S.length := List.length_filter_le _ _
          obtain ⟨A, hA⟩ : ∃ A, (stay (fun v n => decide (v < x)) left S).length = A := ⟨_, rfl⟩
          rw [hA] at hsz hle ⊢
          have HZ : Hid (_ ∧ _ ∧ _ ∧ _) := ⟨hrg3, hr3, hgw3, hsz⟩
          have hl1 : (S.length : Int) ≤ 1000 := by omega
          have hl2 : (A : Int) ≤ (S.length : Int) := by omega
          clear hrg hrn hrg1 hga rK hat hba hg2 hrg2 hgw2 rK2 hrgd hrg3 htn hgw3 hr3 HX hb2 hA hsz hcl hle
          go_region
          all_goals
            go_wp2
            go_roundw
            case rel =>
              obtain ⟨hrg3, hr3, hgw3, hsz⟩ := HZ.out
              exact ⟨_, cnt3, _, hrg3, hr3, by go_num, hgw3⟩
            case measure => rw [HZ.out.1.left_eq, HM.out]; omega
        · rw [show decide (v5 < x) = false by simp; omega] at hcl
          have HG : Hid (decide (v5 < x) = false) := by show _ = _; simp; omega
          clear hgn
          go_wp2_with (first
            | (go_at_call 37; refine hcl.mono ?_; rintro e w2 ⟨rfl, hb2⟩))
          go_roundw
          case rel =>
            obtain ⟨hrg, hrn, hrg1, hga, rK, hat, hba⟩ := HX.out
            have hg2 : (w1.alloc (.cells #[.int .i64 v5, .int .i64 n5] 76)).grownBy w2 none := ⟨hb2.os, hb2.tape, hb2.output, hb2.size, fun i hi _ => hb2.block i hi⟩
            have hrg2 := (hrg1.alloc (.cells #[.int .i64 v5, .int .i64 n5] 76)).kept hg2 (by simp) (by simp)
            have hs2 := stay_stays (gone := fun v n => decide (v < x)) (left := left) (v := v5) (n := n5) hok wv wn HG.out
            exact ⟨_, cnt1, Dn, hrg2, by rw [hs2]; exact hrn, by rw [hs2], hga.andThen hg2 (fun j hj => by cases hj)⟩
          case measure =>
            obtain ⟨hrg, hrn, hrg1, hga, rK, hat, hba⟩ := HX.out
            have hg2 : (w1.alloc (.cells #[.int .i64 v5, .int .i64 n5] 76)).grownBy w2 none := ⟨hb2.os, hb2.tape, hb2.output, hb2.size, fun i hi _ => hb2.block i hi⟩
            have hrg2 := (hrg1.alloc (.cells #[.int .i64 v5, .int .i64 n5] 76)).kept hg2 (by simp) (by simp)
            rw [hrg2.left_eq, HM.out]; exact hlt

set_option maxRecDepth 20000 in
set_option maxHeartbeats 4000000 in
theorem drop39 {base : Nat} {w : World} {B : Nat} {ms mb : Option Nat} {g : Int} {f : Nat} {low : Int} {S : List Sk} {T : List Bt} (h : WinAt base w B ms mb g f low S T) (x : Int) (P : Nat) (rP : w.heap[P]? = some (.cells #[.int .i64 x] 3)) : Calls Try.prog 36 #[.pointer (some ⟨B, 0, none⟩), .func (.func 39) #[] #[.pointer (some ⟨P, 0, none⟩)]] w fun e W' => e = .returned (.int .i64 ((S.length : Int) - ((S.filter (fun a => !(decide (a.2.1 ≤ x)))).length : Int))) ∧ WinAt base W' B ms mb g f low (S.filter (fun a => !(decide (a.2.1 ≤ x)))) T ∧ Wv B ms mb ms mb w W' := by
  obtain ⟨c0, c1, c2, c3, c4⟩ := h.c
  cases ms with
  | none =>
    have hS0 : S = [] := by
      rcases h.slots with ⟨_, h9⟩ | ⟨_, _, h9, _⟩
      · simpa using h9
      · cases h9
    subst hS0
    have hrg := run_range_nilMap (P := Try.prog) w 62 76 48 Try.underlying62
    have hnx : ∀ ty, (Instr.next (.pointer (some ⟨w.heap.size, 0, none⟩)) false ty).run Try.prog (w.alloc (.mapIter none 0 #[] 0)) = _ := fun ty => run_next_nilMap w ty 0 0 #[]
    have hba := (Below.refl w.heap.size w).alloc (Nat.le_refl _) (.mapIter none 0 #[] 0)
    have HX : Hid (_ ∧ _) := ⟨h.on hba, hba⟩
    clear h hba rP
    go_enter Try.func36, Try.ntmps36
    go_wp2
    refine wp_loop_rounds 1 ?_
    rw [rounds_succ]
    go_wp2
    go_ret
    exact ⟨rfl, HX.out.1, Wv.of_below HX.out.2 _ _ _⟩
  | some q =>
    have hqB := (h.sb q rfl).2
    have hBl := h.lt
    have hok := h.okS
    have hPq : P ≠ q := by
      rcases h.slots with ⟨h9, _⟩ | ⟨b', D, hb', ho, _⟩
      · cases h9
      · injection hb' with hb'
        obtain ⟨es, clock, h9, _⟩ := ho
        intro e
        rw [← hb', ← e, rP] at h9
        cases h9
    have hPl := (Array.getElem?_eq_some_iff.1 rP).1
    obtain ⟨D, ho, hr⟩ : ∃ D, w.ownsMap Try.prog 76 heldE q (S.map sent).length D ∧ Rep D (S.map sent) := by
      rcases h.slots with ⟨h9, _⟩ | ⟨b', D, hb', ho, hr⟩
      · cases h9
      · injection hb' with hb'
        subst hb'
        exact ⟨D, ho, hr⟩
    have HW : Hid (_) := h
    have hfew := h.few.1
    clear h
    have hB3 : ∀ wr : World, w.grownBy wr (some q) → wr.cell? ⟨B, 3, none⟩ = some (.map (some q)) := fun wr hg => cellB ((hg.block B hBl (fun e => hqB (Option.some.inj e).symm)).trans HW.out.blk) 3 _ rfl
    have hPc : ∀ wr : World, w.grownBy wr (some q) → wr.cell? ⟨P, 0, none⟩ = some (.int .i64 x) := fun wr hg => cellB ((hg.block P hPl (fun e => hPq (Option.some.inj e))).trans rP) 0 _ rfl
    have HF : Hid (_ ∧ _) := ⟨hB3, hPc⟩
    clear hB3 hPc
    obtain ⟨N0, hN0⟩ : ∃ N0, (S.map sent).length = N0 := ⟨_, rfl⟩
    rw [hN0] at ho
    clear hN0
    have hst := stay_start (gone := fun v n => decide (n ≤ x)) hr
    go_enter Try.func36, Try.ntmps36
    go_wp2_with (first
      | (at_range; refine wpList_range_own _ rfl _ 62 rfl 76 48 law76 Try.underlying62 _ q N0 D rfl ho ?_; intro w0 hrg0 hg0 hs0)
      | go_in)
    go_frame
    go_loopw [5] (fun cv wr => ∃ (left : Lit → Bool) (cnt : Nat) (Dn : DataW Value), wr.ranges Try.prog 76 heldE q w.heap.size N0 Dn left cnt ∧ Rep Dn ((stay (fun v n => decide (n ≤ x)) left S).map sent) ∧ cv = .int .i64 ((S.length : Int) - ((stay (fun v n => decide (n ≤ x)) left S).length : Int)) ∧ w.grownBy wr (some q))
      (fun _ wr => wr.rangeLeft q w.heap.size)
    case atStart => exact ⟨_, _, D, hrg0, by rw [hst]; exact hr, by rw [hst]; simp, hg0.but _⟩
    case round =>
      clear hrg0 hg0 hs0 hst ho hr c0 c1 c2 c3 c4
      obtain ⟨left, cnt, Dn, hrg, hrn, rfl, hgw⟩ := hrel
      go_wp2_with (first
        | (at_next; refine wpList_next_ranges (α := Int × Int) (β := Value) _ rfl _ rfl 76 law76 heldE (fun a => .agg #[.int .i64 a.1, .int .i64 a.2]) (fun v => v) (fun key kl hk => by obtain ⟨v, n, rfl, _⟩ := keyOf_place_inv hk; exact ⟨(v, n), rfl⟩) (fun v y _ => ⟨v, rfl⟩) q w.heap.size N0 Dn left cnt rfl hrg ?_ ?_)
        | go_in)
      · intro _ hl0
        have hend := stay_end (gone := fun v n => decide (n ≤ x)) (S := S) hl0
        have HE : Hid (_ ∧ _) := ⟨hend, hrn⟩
        clear hend hrn
        go_wp2
        go_ret
        obtain ⟨hend, hrn⟩ := HE.out
        rw [hend] at hrn
        have hw := HW.out
        refine ⟨by simp [hend], ⟨(hgw.block B hBl (fun e => hqB (Option.some.inj e).symm)).trans hw.blk, .inr ⟨q, Dn, rfl, own_len hrg.owns hrn, hrn⟩, hw.bests.keep (fun k e => hgw.block k (hw.bests.lt e) (fun e2 => hw.ne q rfl (by rw [← Option.some.inj e2]; exact e))), hw.up, hw.sb, hw.bb, hw.ne, hw.f3, hw.g4, hw.low0, hw.low1, fun a ha => hw.okS a (List.mem_filter.1 ha).1, hw.okT, ⟨Nat.le_trans (List.length_filter_le _ _) hw.few.1, hw.few.2⟩⟩, ?_⟩
        exact ⟨hgw.os, hgw.tape, hgw.output, hgw.size, fun k hk _ h2 _ => hgw.block k hk (fun e => h2 e.symm), fun k => ⟨.inl, .inl⟩⟩
      · intro v5 n5 c5 kl y1 y2 w1 cnt1 hkey hlk hRv hat hrg1 hlt hg1 hs1 hen
        obtain ⟨v', n', e5, wv, wn, rfl⟩ := keyOf_place_inv hkey
        injection e5 with e5
        injection e5 with e5
        injection e5 with e6 e7
        injection e7 with e7
        injection e6 with _ e6
        injection e7 with _ e7
        subst e6 e7
        have hgw1 := hgw.andThen hg1 (fun j hj => by cases hj; exact Or.inl (Nat.le_refl _))
        have hhas := Maps.has_true_of_atKey hat
        have hrz : w.heap.size < w1.heap.size := by rw [hs1]; exact hrg.lt
        have hqz : q < w1.heap.size := hrg1.owns.lt
        have hba := (Below.refl w1.heap.size w1).alloc (Nat.le_refl _) (.cells #[.int .i64 v5, .int .i64 n5] 76)
        have hga : w.grownBy (w1.alloc (.cells #[.int .i64 v5, .int .i64 n5] 76)) (some q) := hgw1.andThen (World.grownBy_alloc w1 _ none) (fun j hj => by cases hj)
        have hcl := clo39 x P v5 n5 (w1.alloc (.cells #[.int .i64 v5, .int .i64 n5] 76)) (HF.out.2 _ hga)
        have rK := heap_alloc_new w1 (.cells #[.int .i64 v5, .int .i64 n5] 76)
        have HX : Hid (_ ∧ _ ∧ _ ∧ _ ∧ _ ∧ _ ∧ _) := ⟨hrg, hrn, hrg1, hga, rK, hat, hba⟩
        have hmz := hrg.left_eq
        have HM : Hid (wr.rangeLeft q w.heap.size = cnt) := hmz
        clear hmz hrn hat hba hga rK hgw hgw1 hg1 hRv hlk hs1
        by_cases hgn : n5 ≤ x
        · rw [show decide (n5 ≤ x) = true by simp [hgn]] at hcl
          have HG : Hid (decide (n5 ≤ x) = true) := by show _ = _; simp [hgn]
          clear hgn
          go_upto_region 8 with (first
            | (go_at_call 39; refine hcl.mono ?_; rintro e w2 ⟨rfl, hb2⟩))
          obtain ⟨hrg, hrn, hrg1, hga, rK, hat, hba⟩ := HX.out
          have hg2 : (w1.alloc (.cells #[.int .i64 v5, .int .i64 n5] 76)).grownBy w2 none := ⟨hb2.os, hb2.tape, hb2.output, hb2.size, fun i hi _ => hb2.block i hi⟩
          have hrg2 := (hrg1.alloc (.cells #[.int .i64 v5, .int .i64 n5] 76)).kept hg2 (by simp) (by simp)
          have hgw2 := hga.andThen hg2 (fun j hj => by cases hj)
          have rK2 := (hb2.block _ (Array.getElem?_eq_some_iff.1 rK).1).trans rK
          have u0 := cellB rK2 0 _ rfl
          have u1 := cellB rK2 1 _ rfl
          have c3 := HF.out.1 _ hgw2
          have hrgd : w2.drew.ranges Try.prog 76 heldE q w.heap.size N0 Dn (fun z => left z && !z.sameKey (pk v5 n5)) cnt1 := hrg2
          obtain ⟨w3, cnt3, hdel, hrg3, hle3, htn⟩ := hrgd.drop law76 Try.underlying62 hkey 0
          rw [Maps.strike_twice] at hrg3
          have hgw3 : w.grownBy w3 (some q) := by
            have h9 : w2.grownBy w3 (some q) := ⟨htn.grown.os, htn.grown.tape, htn.grown.output, htn.grown.size, htn.grown.block⟩
            exact hgw2.andThen h9 (fun j hj => .inr hj)
          have hr3 := hrn.del (pk v5 n5)
          rw [stay_struck (gone := fun v n => decide (n ≤ x)) (v := v5) (n := n5) hok wv wn HG.out] at hr3
          have hsz : (stay (fun v n => decide (n ≤ x)) left S).length = (stay (fun v n => decide (n ≤ x)) (fun z => left z && !z.sameKey (pk v5 n5)) S).length + 1 := by
            have h9 := Maps.size_del (k := pk v5 n5) (hrg.owns.tidy law76)
            rw [hr3.size, hrn.size, hhas, if_pos rfl, List.length_map, List.length_map] at h9
            exact h9.symm
          have hle : (stay (fun v n => decide (n ≤ x)) left S).length ≤ S.length := List.length_filter_le _ _
          obtain ⟨A, hA⟩ : ∃ A, (stay (fun v n => decide (n ≤ x)) left S).length = A := ⟨_, rfl⟩
          rw [hA] at hsz hle ⊢
          have HZ : Hid (_ ∧ _ ∧ _ ∧ _) := ⟨hrg3, hr3, hgw3, hsz⟩
          have hl1 : (S.length : Int) ≤ 1000 := by omega
          have hl2 : (A : Int) ≤ (S.length : Int) := by omega
          clear hrg hrn hrg1 hga rK hat hba hg2 hrg2 hgw2 rK2 hrgd hrg3 htn hgw3 hr3 HX hb2 hA hsz hcl hle
          go_region
          all_goals
            go_wp2
            go_roundw
            case rel =>
              obtain ⟨hrg3, hr3, hgw3, hsz⟩ := HZ.out
              exact ⟨_, cnt3, _, hrg3, hr3, by go_num, hgw3⟩
            case measure => rw [HZ.out.1.left_eq, HM.out]; omega
        · rw [show decide (n5 ≤ x) = false by simp; omega] at hcl
          have HG : Hid (decide (n5 ≤ x) = false) := by show _ = _; simp; omega
          clear hgn
          go_wp2_with (first
            | (go_at_call 39; refine hcl.mono ?_; rintro e w2 ⟨rfl, hb2⟩))
          go_roundw
          case rel =>
            obtain ⟨hrg, hrn, hrg1, hga, rK, hat, hba⟩ := HX.out
            have hg2 : (w1.alloc (.cells #[.int .i64 v5, .int .i64 n5] 76)).grownBy w2 none := ⟨hb2.os, hb2.tape, hb2.output, hb2.size, fun i hi _ => hb2.block i hi⟩
            have hrg2 := (hrg1.alloc (.cells #[.int .i64 v5, .int .i64 n5] 76)).kept hg2 (by simp) (by simp)
            have hs2 := stay_stays (gone := fun v n => decide (n ≤ x)) (left := left) (v := v5) (n := n5) hok wv wn HG.out
            exact ⟨_, cnt1, Dn, hrg2, by rw [hs2]; exact hrn, by rw [hs2], hga.andThen hg2 (fun j hj => by cases hj)⟩
          case measure =>
            obtain ⟨hrg, hrn, hrg1, hga, rK, hat, hba⟩ := HX.out
            have hg2 : (w1.alloc (.cells #[.int .i64 v5, .int .i64 n5] 76)).grownBy w2 none := ⟨hb2.os, hb2.tape, hb2.output, hb2.size, fun i hi _ => hb2.block i hi⟩
            have hrg2 := (hrg1.alloc (.cells #[.int .i64 v5, .int .i64 n5] 76)).kept hg2 (by simp) (by simp)
            rw [hrg2.left_eq, HM.out]; exact hlt

end Go.Proofs.Ytobojfkoffhljaa
