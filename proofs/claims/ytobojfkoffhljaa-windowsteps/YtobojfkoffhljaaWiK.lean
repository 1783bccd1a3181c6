/- The window's Note, walked. -/
import Derived.Test.YtobojfkoffhljaaWiJ
namespace Go.Proofs.Ytobojfkoffhljaa
open Go.RowKit Go.Maps
attribute [local go_sem ↓] Go.wp_at_zero Go.wp_at_succ

theorem filter_bent (T : List Bt) (n : Int) : (T.map bent).filter (fun p => !p.1.sameKey (.int .i64 n)) = (T.filter (fun a => !(a.1 == n))).map bent := by
  rw [List.filter_map]
  congr 1
  apply List.filter_congr
  intro a _
  simp only [Function.comp, bent]
  by_cases h : a.1 = n
  · rw [h, show (Lit.int .i64 n).sameKey (.int .i64 n) = true from by simp [Lit.sameKey]]; simp
  · rw [Maps.sameKey_ne (show Lit.int .i64 a.1 ≠ .int .i64 n from fun e => h (by injection e))]; simp [h]
theorem Note_bad {base : Nat} {w : World} {B : Nat} {ms mb : Option Nat} {g : Int} {f : Nat} {low : Int} {S : List Sk} {T : List Bt} (h : WinAt base w B ms mb g f low S T) {view n : Int} (hE : askE low view n ≠ 0) (t : List UInt8) (gr : Int) : Calls Try.prog 23 #[.pointer (some ⟨B, 0, none⟩), .int .i64 view, .int .i64 n, .agg #[.string (bs t), .int .i64 gr, .slice none 0 0]] w fun e W' => e = .returned (.tuple #[.bool false, .int .i64 (askE low view n)]) ∧ Below w.heap.size w W' := by
  have hba := (Below.refl w.heap.size w).alloc (Nat.le_refl _) (.cells #[.string (bs t), .int .i64 gr, .slice none 0 0] 38)
  have hF := wfault_any (h.on hba) view n
  obtain ⟨e0, he0⟩ : ∃ e0 : Int, askE low view n = e0 := ⟨_, rfl⟩
  rw [he0] at hF hE ⊢
  have hz1 : (e0 == 0) = false := by simp [hE]
  have HB : Hid (_) := hba
  clear he0 h hba
  go_enter Try.func23, Try.ntmps23
  go_wp2_with (first | (go_at_call 31; refine hF.mono ?_; rintro e w1 ⟨rfl, h9⟩; replace h9 := h9.symm; subst h9))
  exact bodyPost_ret (v := .tuple #[.bool false, .int .i64 e0]) (by simp [results, Try.f23, go_sem]) rfl ⟨rfl, HB.out⟩
set_option maxRecDepth 20000 in
set_option maxHeartbeats 4000000 in
theorem Note_no {base : Nat} {w : World} {B : Nat} {ms mb : Option Nat} {g : Int} {f : Nat} {low : Int} {S : List Sk} {T : List Bt} (h : WinAt base w B ms mb g f low S T) {view n : Int} (hE : askE low view n = 0) (hok : (bestF T n).2.2.2 = true) (hv : view ≤ (bestF T n).1) (t : List UInt8) (gr : Int) : Calls Try.prog 23 #[.pointer (some ⟨B, 0, none⟩), .int .i64 view, .int .i64 n, .agg #[.string (bs t), .int .i64 gr, .slice none 0 0]] w fun e W' => e = .returned (.tuple #[.bool false, .int .i64 0]) ∧ Below w.heap.size w W' := by
  have hba := (Below.refl w.heap.size w).alloc (Nat.le_refl _) (.cells #[.string (bs t), .int .i64 gr, .slice none 0 0] 38)
  have h1 := h.on hba
  have hF := wfault_any h1 view n
  rw [hE] at hF
  obtain ⟨a1, a2, a3, a4⟩ := askE_0 hE
  have l0 := h.low0
  have l1 := h.low1
  have wn := wf64 (a := n) (by omega) (by omega)
  have c4 := h1.c.2.2.2.2
  have hlk := best_look h1.bests wn
  obtain ⟨⟨v, tt, gg, ok⟩, hb⟩ : ∃ b, bestF T n = b := ⟨_, rfl⟩
  rw [hb] at hlk hok hv
  simp only at hlk hok hv
  subst hok
  have HB : Hid (_) := hba
  have hsz : (w.alloc (.cells #[.string (bs t), .int .i64 gr, .slice none 0 0] 38)).heap.size = w.heap.size + 1 := by simp
  clear h h1 hba hb hE
  go_enter Try.func23, Try.ntmps23
  go_wp2_with (first | (go_at_call 31; refine hF.mono ?_; rintro e w1 ⟨rfl, h9⟩; replace h9 := h9.symm; subst h9))
  exact bodyPost_ret (v := .tuple #[.bool false, .int .i64 0]) (by simp [results, Try.f23, go_sem]) rfl ⟨rfl, HB.out.alloc HB.out.size _⟩
set_option maxRecDepth 20000 in
set_option maxHeartbeats 4000000 in
theorem Note_ok {base : Nat} {w : World} {B : Nat} {ms mb : Option Nat} {g : Int} {f : Nat} {low : Int} {S : List Sk} {T : List Bt} (h : WinAt base w B ms mb g f low S T) (hfew : T.length < 1000) {view n : Int} (hE : askE low view n = 0) (hok : (bestF T n).2.2.2 = false ∨ ((bestF T n).2.2.2 = true ∧ (bestF T n).1 < view)) (t : List UInt8) (gr : Int) : Calls Try.prog 23 #[.pointer (some ⟨B, 0, none⟩), .int .i64 view, .int .i64 n, .agg #[.string (bs t), .int .i64 gr, .slice none 0 0]] w fun e W' => ∃ mb', e = .returned (.tuple #[.bool true, .int .i64 0]) ∧ WinAt base W' B ms mb' g f low S (T.filter (fun a => !(a.1 == n)) ++ [(n, view, t, gr)]) ∧ Wv B ms mb ms mb' w W' := by
  have hba := (Below.refl w.heap.size w).alloc (Nat.le_refl _) (.cells #[.string (bs t), .int .i64 gr, .slice none 0 0] 38)
  have h1 := h.on hba
  have hF := wfault_any h1 view n
  rw [hE] at hF
  obtain ⟨a1, a2, a3, a4⟩ := askE_0 hE
  have l0 := h.low0
  have l1 := h.low1
  have wn := wf64 (a := n) (by omega) (by omega)
  have c4 := h1.c.2.2.2.2
  have hlk := best_look h1.bests wn
  obtain ⟨⟨v, tt, gg, ok⟩, hb⟩ : ∃ b, bestF T n = b := ⟨_, rfl⟩
  rw [hb] at hlk hok
  simp only at hlk hok
  have rP := heap_alloc_new w (.cells #[.string (bs t), .int .i64 gr, .slice none 0 0] 38)
  have hPB : w.heap.size ≠ B := fun e => by have := h.lt; omega
  have HX : Hid (_ ∧ _ ∧ _ ∧ _) := ⟨hba, h1, rP, hPB⟩
  have hsz : (w.alloc (.cells #[.string (bs t), .int .i64 gr, .slice none 0 0] 38)).heap.size = w.heap.size + 1 := by simp
  clear h h1 hba hb hE rP hPB
  rcases hok with rfl | ⟨rfl, hlt⟩
  · go_enter Try.func23, Try.ntmps23
    go_upto_region 7 with (first | (go_at_call 31; refine hF.mono ?_; rintro e w1 ⟨rfl, h9⟩; replace h9 := h9.symm; subst h9))
    obtain ⟨hba, h1, rP, hPB⟩ := HX.out
    have hbb := (Below.refl (w.alloc (.cells #[.string (bs t), .int .i64 gr, .slice none 0 0] 38)).heap.size (w.alloc (.cells #[.string (bs t), .int .i64 gr, .slice none 0 0] 38))).alloc (Nat.le_refl _) (.cells #[.int .i64 v, .string (bs tt), .int .i64 gg, .slice none 0 0] 71)
    have h2 := h1.on hbb
    have hB2 := hba.trans (hbb.mono hba.size)
    have rP2 := (hbb.block _ (Array.getElem?_eq_some_iff.1 rP).1).trans rP
    obtain ⟨W2, hW2⟩ : ∃ W, (w.alloc (.cells #[.string (bs t), .int .i64 gr, .slice none 0 0] 38)).alloc (.cells #[.int .i64 v, .string (bs tt), .int .i64 gg, .slice none 0 0] 71) = W := ⟨_, rfl⟩
    have HB : Hid (_) := hB2
    rw [hW2] at h2 HB rP2 ⊢
    obtain ⟨P, hP⟩ : ∃ P, w.heap.size = P := ⟨_, rfl⟩
    rw [hP] at rP2 hPB ⊢
    have hPl := (Array.getElem?_eq_some_iff.1 rP2).1
    clear HX h1 hba rP hbb hB2 hW2 hlk hsz c4 hF
    obtain ⟨c0, c1, c2, c3, c4⟩ := h2.c
    cases mb with
    | none =>
    have hT0 : T = [] := by
      rcases h2.bests with ⟨_, h9⟩ | ⟨_, _, h9, _⟩
      · simpa using h9
      · cases h9
    have fz := h2.fz 4
    have hmm := @run_makeMap Try.prog
    have heq := eql63n
    obtain ⟨q, hq⟩ : ∃ q, W2.heap.size = q := ⟨_, rfl⟩
    have hba := (Below.refl W2.heap.size W2).alloc (Nat.le_refl _) (.map #[] 0)
    have h4 := h2.on hba
    have c4' := h4.c.2.2.2.2
    have fz' := h4.fz 4
    have blk4 := setB h4.blk 4 (.map (some W2.heap.size))
    have hmk : MapAt ((W2.alloc (.map #[] 0)).setCell ⟨B, 4, none⟩ (.map (some W2.heap.size))) 3 (some W2.heap.size) [] := (MapAt.made W2 3).keep (fun k e => by injection e with e; subst e; exact set_far (fun e => by have := h2.lt; omega) _ _)
    have hWin : WinAt base ((W2.alloc (.map #[] 0)).setCell ⟨B, 4, none⟩ (.map (some W2.heap.size))) B ms (some W2.heap.size) g f low S T := by
      refine ⟨blk4, h4.slots.keep (fun k e => set_far (h2.sb k e).2 _ _), by rw [hT0]; exact hmk, h4.up, h4.sb, fun k e => ?_, fun k e e2 => ?_, h4.f3, h4.g4, h4.low0, h4.low1, h4.okS, h4.okT, h4.few⟩
      · injection e with e
        have := h2.lt
        have := h2.up
        exact ⟨by omega, by omega⟩
      · injection e2 with e2
        have := h2.slots.lt e
        omega
    have hWv : Wv B ms none ms (some W2.heap.size) w ((W2.alloc (.map #[] 0)).setCell ⟨B, 4, none⟩ (.map (some W2.heap.size))) := by
      have hB3 := HB.out
      refine ⟨hB3.os, hB3.tape, hB3.output, ?_, fun k hk h1 _ _ => (set_far h1 _ _).trans ((Below.heap_alloc _ _ _ (Nat.lt_of_lt_of_le hk hB3.size)).trans (hB3.block k hk)), fun k => ⟨.inl, fun e => ?_⟩⟩
      · have := hB3.size
        simp only [World.setCell, Array.size_modify]
        simp; omega
      · injection e with e
        have := hB3.size
        exact .inr (by omega)
    have rP4 : ((W2.alloc (.map #[] 0)).setCell ⟨B, 4, none⟩ (.map (some W2.heap.size))).heap[P]? = some (.cells #[.string (bs t), .int .i64 gr, .slice none 0 0] 38) := (set_far hPB _ _).trans ((Below.heap_alloc _ _ _ hPl).trans rP2)
    have HZ : Hid (_ ∧ _ ∧ _ ∧ _) := ⟨hWin, hWv, rP4, (Array.getElem?_eq_some_iff.1 rP4).1⟩
    clear h2 h4 hba blk4 hmk hWin hWv rP4 rP2 HB hPB hT0 hPl
    go_upto_region 9 with fail
    rw [hq] at HZ
    obtain ⟨W4, hW4⟩ : ∃ W, (W2.alloc (.map #[] 0)).setCell ⟨B, 4, none⟩ (.map (some q)) = W := ⟨_, rfl⟩
    rw [hW4] at HZ ⊢
    clear hW4 c0 c1 c2 c3 c4 fz hmm heq hq c4' fz'
    obtain ⟨hWin, hWv, rP4, hPl4⟩ := HZ.out
    have u0 := cellB rP4 0 _ rfl
    have u1 := cellB rP4 1 _ rfl
    have u2 := cellB rP4 2 _ rfl
    have c4 := hWin.c.2.2.2.2
    have hBl4 := hWin.lt
    have HY : Hid (_ ∧ _) := ⟨hWin, hWv⟩
    have hN : Calls Try.prog 30 #[.agg #[.string (bs t), .int .i64 gr, .slice none 0 0]] W4.drew fun e W' => e = .returned (.agg #[.string (bs t), .int .i64 gr, .slice none 0 0]) ∧ Below W4.heap.size W4 W' ∧ W'.cell? ⟨B, 4, none⟩ = some (.map (some q)) ∧ W'.cell? ⟨P, 0, none⟩ = some (.string (bs t)) ∧ W'.cell? ⟨P, 1, none⟩ = some (.int .i64 gr) ∧ W'.cell? ⟨P, 2, none⟩ = some (.slice none 0 0) := by
      refine (clone_any t gr W4.drew).mono ?_
      rintro e W' ⟨rfl, hb⟩
      have hb' : Below W4.heap.size W4 W' := ⟨hb.os, hb.tape, hb.output, hb.size, hb.block⟩
      have r3 := (hb'.block _ hPl4).trans rP4
      exact ⟨rfl, hb', (hWin.on hb').c.2.2.2.2, cellB r3 0 _ rfl, cellB r3 1 _ rfl, cellB r3 2 _ rfl⟩
    have hPq : P ≠ q := by
      rcases hWin.bests with ⟨h9, _⟩ | ⟨b', D, hb', ho, _⟩
      · cases h9
      · injection hb' with hb'
        obtain ⟨es, clock, h9, _⟩ := ho
        intro e
        rw [← hb', ← e, rP4] at h9
        cases h9
    have hST : Hid (∀ w3, Below W4.heap.size W4 w3 → ∃ w5, (Instr.mapUpdate 63 (.map (some q)) (.int .i64 n) (.agg #[.int .i64 view, .string (bs t), .int .i64 gr, .slice none 0 0])).run Try.prog w3 = .ok () w5 ∧ MapAt w5 3 (some q) ((T.map bent).filter (fun p => !p.1.sameKey (.int .i64 n)) ++ [(.int .i64 n, .agg #[.int .i64 view, .string (bs t), .int .i64 gr, .slice none 0 0])]) ∧ w3.grownBy w5 (some q) ∧ w5.cell? ⟨B, 4, none⟩ = some (.map (some q)) ∧ w5.cell? ⟨P, 0, none⟩ = some (.string (bs t)) ∧ w5.cell? ⟨P, 1, none⟩ = some (.int .i64 gr) ∧ w5.cell? ⟨P, 2, none⟩ = some (.slice none 0 0)) := by
      intro w3 hb3
      have hw3 := hWin.on hb3
      obtain ⟨w5, hup, hM5, hg5⟩ := hw3.bests.store law3 Try.underlying63 (by rw [List.length_map]; omega) (val := .agg #[.int .i64 view, .string (bs t), .int .i64 gr, .slice none 0 0]) (keyOf_num wn)
      have hqB := (hw3.bb q rfl).2
      have r3 := (hb3.block _ hPl4).trans rP4
      have r5 := (hg5.block _ (Array.getElem?_eq_some_iff.1 r3).1 (fun e => hPq (Option.some.inj e))).trans r3
      exact ⟨w5, hup, hM5, hg5, cellB ((hg5.block B hw3.lt (fun e => hqB (Option.some.inj e).symm)).trans hw3.blk) 4 _ rfl, cellB r5 0 _ rfl, cellB r5 1 _ rfl, cellB r5 2 _ rfl⟩
    clear hWin hWv rP4 hPl4 hBl4
    go_region_held3 (fun w' => w'.cell? ⟨B, 4, none⟩ = some (.map (some q)) ∧ w'.cell? ⟨P, 0, none⟩ = some (.string (bs t)) ∧ w'.cell? ⟨P, 1, none⟩ = some (.int .i64 gr) ∧ w'.cell? ⟨P, 2, none⟩ = some (.slice none 0 0)) (go_keep)
      (first
        | (go_at_call 30; refine hN.mono ?_; rintro e w3 ⟨rfl, hb3, k0, k1, k2, k3⟩; obtain ⟨w5, hup, hM5, hg5, j0, j1, j2, j3⟩ := hST.out w3 hb3))
    all_goals
      go_wp2
      obtain ⟨hWin, hWv⟩ := HY.out
      have hW3 := hWin.on hb3
      have hqB := (hW3.bb q rfl).2
      rw [filter_bent, show (T.filter (fun a => !(a.1 == n))).map bent ++ [(.int .i64 n, .agg #[.int .i64 view, .string (bs t), .int .i64 gr, .slice none 0 0])] = (T.filter (fun a => !(a.1 == n)) ++ [(n, view, t, gr)]).map bent by simp [bent, bestV]] at hM5
      have hlf : (T.filter (fun a => !(a.1 == n))).length ≤ T.length := List.length_filter_le _ _
      have hW5 : WinAt base w5 B ms (some q) g f low S (T.filter (fun a => !(a.1 == n)) ++ [(n, view, t, gr)]) := by
        refine ⟨(hg5.block B hW3.lt (fun e => hqB (Option.some.inj e).symm)).trans hW3.blk, hW3.slots.keep (fun k e => hg5.block k (hW3.slots.lt e) (fun e2 => hW3.ne k e (by rw [Option.some.inj e2]))), hM5, hW3.up, hW3.sb, hW3.bb, hW3.ne, hW3.f3, hW3.g4, hW3.low0, hW3.low1, hW3.okS, fun a ha => ?_, ⟨hW3.few.1, ?_⟩⟩
        · rcases List.mem_append.1 ha with h9 | h9
          · exact hW3.okT a (List.mem_filter.1 h9).1
          · simp at h9; subst h9; exact ⟨by show 0 ≤ n; omega, by show n ≤ _; omega⟩
        · rw [List.length_append, List.length_cons, List.length_nil]; omega
      exact bodyPost_ret (v := .tuple #[.bool true, .int .i64 0]) (by simp [results, Try.f23, go_sem]) rfl ⟨some q, rfl, hW5, (hWv.trans (Wv.of_below hb3 _ _ _)).grown hg5 (.inr rfl)⟩
    | some q =>
    have heq := eql63s
    have HZ : Hid (_ ∧ _ ∧ _ ∧ _) := ⟨h2, Wv.of_below HB.out B ms (some q), rP2, hPl⟩
    clear h2 rP2 HB hPB hPl
    go_upto_region 9 with fail
    obtain ⟨W4, hW4⟩ : ∃ W, W2 = W := ⟨_, rfl⟩
    rw [hW4] at HZ ⊢
    clear hW4 c0 c1 c2 c3 c4 heq
    obtain ⟨hWin, hWv, rP4, hPl4⟩ := HZ.out
    have u0 := cellB rP4 0 _ rfl
    have u1 := cellB rP4 1 _ rfl
    have u2 := cellB rP4 2 _ rfl
    have c4 := hWin.c.2.2.2.2
    have hBl4 := hWin.lt
    have HY : Hid (_ ∧ _) := ⟨hWin, hWv⟩
    have hN : Calls Try.prog 30 #[.agg #[.string (bs t), .int .i64 gr, .slice none 0 0]] W4.drew fun e W' => e = .returned (.agg #[.string (bs t), .int .i64 gr, .slice none 0 0]) ∧ Below W4.heap.size W4 W' ∧ W'.cell? ⟨B, 4, none⟩ = some (.map (some q)) ∧ W'.cell? ⟨P, 0, none⟩ = some (.string (bs t)) ∧ W'.cell? ⟨P, 1, none⟩ = some (.int .i64 gr) ∧ W'.cell? ⟨P, 2, none⟩ = some (.slice none 0 0) := by
      refine (clone_any t gr W4.drew).mono ?_
      rintro e W' ⟨rfl, hb⟩
      have hb' : Below W4.heap.size W4 W' := ⟨hb.os, hb.tape, hb.output, hb.size, hb.block⟩
      have r3 := (hb'.block _ hPl4).trans rP4
      exact ⟨rfl, hb', (hWin.on hb').c.2.2.2.2, cellB r3 0 _ rfl, cellB r3 1 _ rfl, cellB r3 2 _ rfl⟩
    have hPq : P ≠ q := by
      rcases hWin.bests with ⟨h9, _⟩ | ⟨b', D, hb', ho, _⟩
      · cases h9
      · injection hb' with hb'
        obtain ⟨es, clock, h9, _⟩ := ho
        intro e
        rw [← hb', ← e, rP4] at h9
        cases h9
    have hST : Hid (∀ w3, Below W4.heap.size W4 w3 → ∃ w5, (Instr.mapUpdate 63 (.map (some q)) (.int .i64 n) (.agg #[.int .i64 view, .string (bs t), .int .i64 gr, .slice none 0 0])).run Try.prog w3 = .ok () w5 ∧ MapAt w5 3 (some q) ((T.map bent).filter (fun p => !p.1.sameKey (.int .i64 n)) ++ [(.int .i64 n, .agg #[.int .i64 view, .string (bs t), .int .i64 gr, .slice none 0 0])]) ∧ w3.grownBy w5 (some q) ∧ w5.cell? ⟨B, 4, none⟩ = some (.map (some q)) ∧ w5.cell? ⟨P, 0, none⟩ = some (.string (bs t)) ∧ w5.cell? ⟨P, 1, none⟩ = some (.int .i64 gr) ∧ w5.cell? ⟨P, 2, none⟩ = some (.slice none 0 0)) := by
      intro w3 hb3
      have hw3 := hWin.on hb3
      obtain ⟨w5, hup, hM5, hg5⟩ := hw3.bests.store law3 Try.underlying63 (by rw [List.length_map]; omega) (val := .agg #[.int .i64 view, .string (bs t), .int .i64 gr, .slice none 0 0]) (keyOf_num wn)
      have hqB := (hw3.bb q rfl).2
      have r3 := (hb3.block _ hPl4).trans rP4
      have r5 := (hg5.block _ (Array.getElem?_eq_some_iff.1 r3).1 (fun e => hPq (Option.some.inj e))).trans r3
      exact ⟨w5, hup, hM5, hg5, cellB ((hg5.block B hw3.lt (fun e => hqB (Option.some.inj e).symm)).trans hw3.blk) 4 _ rfl, cellB r5 0 _ rfl, cellB r5 1 _ rfl, cellB r5 2 _ rfl⟩
    clear hWin hWv rP4 hPl4 hBl4
    go_region_held3 (fun w' => w'.cell? ⟨B, 4, none⟩ = some (.map (some q)) ∧ w'.cell? ⟨P, 0, none⟩ = some (.string (bs t)) ∧ w'.cell? ⟨P, 1, none⟩ = some (.int .i64 gr) ∧ w'.cell? ⟨P, 2, none⟩ = some (.slice none 0 0)) (go_keep)
      (first
        | (go_at_call 30; refine hN.mono ?_; rintro e w3 ⟨rfl, hb3, k0, k1, k2, k3⟩; obtain ⟨w5, hup, hM5, hg5, j0, j1, j2, j3⟩ := hST.out w3 hb3))
    all_goals
      go_wp2
      obtain ⟨hWin, hWv⟩ := HY.out
      have hW3 := hWin.on hb3
      have hqB := (hW3.bb q rfl).2
      rw [filter_bent, show (T.filter (fun a => !(a.1 == n))).map bent ++ [(.int .i64 n, .agg #[.int .i64 view, .string (bs t), .int .i64 gr, .slice none 0 0])] = (T.filter (fun a => !(a.1 == n)) ++ [(n, view, t, gr)]).map bent by simp [bent, bestV]] at hM5
      have hlf : (T.filter (fun a => !(a.1 == n))).length ≤ T.length := List.length_filter_le _ _
      have hW5 : WinAt base w5 B ms (some q) g f low S (T.filter (fun a => !(a.1 == n)) ++ [(n, view, t, gr)]) := by
        refine ⟨(hg5.block B hW3.lt (fun e => hqB (Option.some.inj e).symm)).trans hW3.blk, hW3.slots.keep (fun k e => hg5.block k (hW3.slots.lt e) (fun e2 => hW3.ne k e (by rw [Option.some.inj e2]))), hM5, hW3.up, hW3.sb, hW3.bb, hW3.ne, hW3.f3, hW3.g4, hW3.low0, hW3.low1, hW3.okS, fun a ha => ?_, ⟨hW3.few.1, ?_⟩⟩
        · rcases List.mem_append.1 ha with h9 | h9
          · exact hW3.okT a (List.mem_filter.1 h9).1
          · simp at h9; subst h9; exact ⟨by show 0 ≤ n; omega, by show n ≤ _; omega⟩
        · rw [List.length_append, List.length_cons, List.length_nil]; omega
      exact bodyPost_ret (v := .tuple #[.bool true, .int .i64 0]) (by simp [results, Try.f23, go_sem]) rfl ⟨some q, rfl, hW5, (hWv.trans (Wv.of_below hb3 _ _ _)).grown hg5 (.inr rfl)⟩
  · go_enter Try.func23, Try.ntmps23
    go_upto_region 7 with (first | (go_at_call 31; refine hF.mono ?_; rintro e w1 ⟨rfl, h9⟩; replace h9 := h9.symm; subst h9))
    obtain ⟨hba, h1, rP, hPB⟩ := HX.out
    have hbb := (Below.refl (w.alloc (.cells #[.string (bs t), .int .i64 gr, .slice none 0 0] 38)).heap.size (w.alloc (.cells #[.string (bs t), .int .i64 gr, .slice none 0 0] 38))).alloc (Nat.le_refl _) (.cells #[.int .i64 v, .string (bs tt), .int .i64 gg, .slice none 0 0] 71)
    have h2 := h1.on hbb
    have hB2 := hba.trans (hbb.mono hba.size)
    have rP2 := (hbb.block _ (Array.getElem?_eq_some_iff.1 rP).1).trans rP
    obtain ⟨W2, hW2⟩ : ∃ W, (w.alloc (.cells #[.string (bs t), .int .i64 gr, .slice none 0 0] 38)).alloc (.cells #[.int .i64 v, .string (bs tt), .int .i64 gg, .slice none 0 0] 71) = W := ⟨_, rfl⟩
    have HB : Hid (_) := hB2
    rw [hW2] at h2 HB rP2 ⊢
    obtain ⟨P, hP⟩ : ∃ P, w.heap.size = P := ⟨_, rfl⟩
    rw [hP] at rP2 hPB ⊢
    have hPl := (Array.getElem?_eq_some_iff.1 rP2).1
    clear HX h1 hba rP hbb hB2 hW2 hlk hsz c4 hF
    obtain ⟨c0, c1, c2, c3, c4⟩ := h2.c
    cases mb with
    | none =>
    have hT0 : T = [] := by
      rcases h2.bests with ⟨_, h9⟩ | ⟨_, _, h9, _⟩
      · simpa using h9
      · cases h9
    have fz := h2.fz 4
    have hmm := @run_makeMap Try.prog
    have heq := eql63n
    obtain ⟨q, hq⟩ : ∃ q, W2.heap.size = q := ⟨_, rfl⟩
    have hba := (Below.refl W2.heap.size W2).alloc (Nat.le_refl _) (.map #[] 0)
    have h4 := h2.on hba
    have c4' := h4.c.2.2.2.2
    have fz' := h4.fz 4
    have blk4 := setB h4.blk 4 (.map (some W2.heap.size))
    have hmk : MapAt ((W2.alloc (.map #[] 0)).setCell ⟨B, 4, none⟩ (.map (some W2.heap.size))) 3 (some W2.heap.size) [] := (MapAt.made W2 3).keep (fun k e => by injection e with e; subst e; exact set_far (fun e => by have := h2.lt; omega) _ _)
    have hWin : WinAt base ((W2.alloc (.map #[] 0)).setCell ⟨B, 4, none⟩ (.map (some W2.heap.size))) B ms (some W2.heap.size) g f low S T := by
      refine ⟨blk4, h4.slots.keep (fun k e => set_far (h2.sb k e).2 _ _), by rw [hT0]; exact hmk, h4.up, h4.sb, fun k e => ?_, fun k e e2 => ?_, h4.f3, h4.g4, h4.low0, h4.low1, h4.okS, h4.okT, h4.few⟩
      · injection e with e
        have := h2.lt
        have := h2.up
        exact ⟨by omega, by omega⟩
      · injection e2 with e2
        have := h2.slots.lt e
        omega
    have hWv : Wv B ms none ms (some W2.heap.size) w ((W2.alloc (.map #[] 0)).setCell ⟨B, 4, none⟩ (.map (some W2.heap.size))) := by
      have hB3 := HB.out
      refine ⟨hB3.os, hB3.tape, hB3.output, ?_, fun k hk h1 _ _ => (set_far h1 _ _).trans ((Below.heap_alloc _ _ _ (Nat.lt_of_lt_of_le hk hB3.size)).trans (hB3.block k hk)), fun k => ⟨.inl, fun e => ?_⟩⟩
      · have := hB3.size
        simp only [World.setCell, Array.size_modify]
        simp; omega
      · injection e with e
        have := hB3.size
        exact .inr (by omega)
    have rP4 : ((W2.alloc (.map #[] 0)).setCell ⟨B, 4, none⟩ (.map (some W2.heap.size))).heap[P]? = some (.cells #[.string (bs t), .int .i64 gr, .slice none 0 0] 38) := (set_far hPB _ _).trans ((Below.heap_alloc _ _ _ hPl).trans rP2)
    have HZ : Hid (_ ∧ _ ∧ _ ∧ _) := ⟨hWin, hWv, rP4, (Array.getElem?_eq_some_iff.1 rP4).1⟩
    clear h2 h4 hba blk4 hmk hWin hWv rP4 rP2 HB hPB hT0 hPl
    go_upto_region 9 with fail
    rw [hq] at HZ
    obtain ⟨W4, hW4⟩ : ∃ W, (W2.alloc (.map #[] 0)).setCell ⟨B, 4, none⟩ (.map (some q)) = W := ⟨_, rfl⟩
    rw [hW4] at HZ ⊢
    clear hW4 c0 c1 c2 c3 c4 fz hmm heq hq c4' fz'
    obtain ⟨hWin, hWv, rP4, hPl4⟩ := HZ.out
    have u0 := cellB rP4 0 _ rfl
    have u1 := cellB rP4 1 _ rfl
    have u2 := cellB rP4 2 _ rfl
    have c4 := hWin.c.2.2.2.2
    have hBl4 := hWin.lt
    have HY : Hid (_ ∧ _) := ⟨hWin, hWv⟩
    have hN : Calls Try.prog 30 #[.agg #[.string (bs t), .int .i64 gr, .slice none 0 0]] W4.drew fun e W' => e = .returned (.agg #[.string (bs t), .int .i64 gr, .slice none 0 0]) ∧ Below W4.heap.size W4 W' ∧ W'.cell? ⟨B, 4, none⟩ = some (.map (some q)) ∧ W'.cell? ⟨P, 0, none⟩ = some (.string (bs t)) ∧ W'.cell? ⟨P, 1, none⟩ = some (.int .i64 gr) ∧ W'.cell? ⟨P, 2, none⟩ = some (.slice none 0 0) := by
      refine (clone_any t gr W4.drew).mono ?_
      rintro e W' ⟨rfl, hb⟩
      have hb' : Below W4.heap.size W4 W' := ⟨hb.os, hb.tape, hb.output, hb.size, hb.block⟩
      have r3 := (hb'.block _ hPl4).trans rP4
      exact ⟨rfl, hb', (hWin.on hb').c.2.2.2.2, cellB r3 0 _ rfl, cellB r3 1 _ rfl, cellB r3 2 _ rfl⟩
    have hPq : P ≠ q := by
      rcases hWin.bests with ⟨h9, _⟩ | ⟨b', D, hb', ho, _⟩
      · cases h9
      · injection hb' with hb'
        obtain ⟨es, clock, h9, _⟩ := ho
        intro e
        rw [← hb', ← e, rP4] at h9
        cases h9
    have hST : Hid (∀ w3, Below W4.heap.size W4 w3 → ∃ w5, (Instr.mapUpdate 63 (.map (some q)) (.int .i64 n) (.agg #[.int .i64 view, .string (bs t), .int .i64 gr, .slice none 0 0])).run Try.prog w3 = .ok () w5 ∧ MapAt w5 3 (some q) ((T.map bent).filter (fun p => !p.1.sameKey (.int .i64 n)) ++ [(.int .i64 n, .agg #[.int .i64 view, .string (bs t), .int .i64 gr, .slice none 0 0])]) ∧ w3.grownBy w5 (some q) ∧ w5.cell? ⟨B, 4, none⟩ = some (.map (some q)) ∧ w5.cell? ⟨P, 0, none⟩ = some (.string (bs t)) ∧ w5.cell? ⟨P, 1, none⟩ = some (.int .i64 gr) ∧ w5.cell? ⟨P, 2, none⟩ = some (.slice none 0 0)) := by
      intro w3 hb3
      have hw3 := hWin.on hb3
      obtain ⟨w5, hup, hM5, hg5⟩ := hw3.bests.store law3 Try.underlying63 (by rw [List.length_map]; omega) (val := .agg #[.int .i64 view, .string (bs t), .int .i64 gr, .slice none 0 0]) (keyOf_num wn)
      have hqB := (hw3.bb q rfl).2
      have r3 := (hb3.block _ hPl4).trans rP4
      have r5 := (hg5.block _ (Array.getElem?_eq_some_iff.1 r3).1 (fun e => hPq (Option.some.inj e))).trans r3
      exact ⟨w5, hup, hM5, hg5, cellB ((hg5.block B hw3.lt (fun e => hqB (Option.some.inj e).symm)).trans hw3.blk) 4 _ rfl, cellB r5 0 _ rfl, cellB r5 1 _ rfl, cellB r5 2 _ rfl⟩
    clear hWin hWv rP4 hPl4 hBl4
    go_region_held3 (fun w' => w'.cell? ⟨B, 4, none⟩ = some (.map (some q)) ∧ w'.cell? ⟨P, 0, none⟩ = some (.string (bs t)) ∧ w'.cell? ⟨P, 1, none⟩ = some (.int .i64 gr) ∧ w'.cell? ⟨P, 2, none⟩ = some (.slice none 0 0)) (go_keep)
      (first
        | (go_at_call 30; refine hN.mono ?_; rintro e w3 ⟨rfl, hb3, k0, k1, k2, k3⟩; obtain ⟨w5, hup, hM5, hg5, j0, j1, j2, j3⟩ := hST.out w3 hb3))
    all_goals
      go_wp2
      obtain ⟨hWin, hWv⟩ := HY.out
      have hW3 := hWin.on hb3
      have hqB := (hW3.bb q rfl).2
      rw [filter_bent, show (T.filter (fun a => !(a.1 == n))).map bent ++ [(.int .i64 n, .agg #[.int .i64 view, .string (bs t), .int .i64 gr, .slice none 0 0])] = (T.filter (fun a => !(a.1 == n)) ++ [(n, view, t, gr)]).map bent by simp [bent, bestV]] at hM5
      have hlf : (T.filter (fun a => !(a.1 == n))).length ≤ T.length := List.length_filter_le _ _
      have hW5 : WinAt base w5 B ms (some q) g f low S (T.filter (fun a => !(a.1 == n)) ++ [(n, view, t, gr)]) := by
        refine ⟨(hg5.block B hW3.lt (fun e => hqB (Option.some.inj e).symm)).trans hW3.blk, hW3.slots.keep (fun k e => hg5.block k (hW3.slots.lt e) (fun e2 => hW3.ne k e (by rw [Option.some.inj e2]))), hM5, hW3.up, hW3.sb, hW3.bb, hW3.ne, hW3.f3, hW3.g4, hW3.low0, hW3.low1, hW3.okS, fun a ha => ?_, ⟨hW3.few.1, ?_⟩⟩
        · rcases List.mem_append.1 ha with h9 | h9
          · exact hW3.okT a (List.mem_filter.1 h9).1
          · simp at h9; subst h9; exact ⟨by show 0 ≤ n; omega, by show n ≤ _; omega⟩
        · rw [List.length_append, List.length_cons, List.length_nil]; omega
      exact bodyPost_ret (v := .tuple #[.bool true, .int .i64 0]) (by simp [results, Try.f23, go_sem]) rfl ⟨some q, rfl, hW5, (hWv.trans (Wv.of_below hb3 _ _ _)).grown hg5 (.inr rfl)⟩
    | some q =>
    have heq := eql63s
    have HZ : Hid (_ ∧ _ ∧ _ ∧ _) := ⟨h2, Wv.of_below HB.out B ms (some q), rP2, hPl⟩
    clear h2 rP2 HB hPB hPl
    go_upto_region 9 with fail
    obtain ⟨W4, hW4⟩ : ∃ W, W2 = W := ⟨_, rfl⟩
    rw [hW4] at HZ ⊢
    clear hW4 c0 c1 c2 c3 c4 heq
    obtain ⟨hWin, hWv, rP4, hPl4⟩ := HZ.out
    have u0 := cellB rP4 0 _ rfl
    have u1 := cellB rP4 1 _ rfl
    have u2 := cellB rP4 2 _ rfl
    have c4 := hWin.c.2.2.2.2
    have hBl4 := hWin.lt
    have HY : Hid (_ ∧ _) := ⟨hWin, hWv⟩
    have hN : Calls Try.prog 30 #[.agg #[.string (bs t), .int .i64 gr, .slice none 0 0]] W4.drew fun e W' => e = .returned (.agg #[.string (bs t), .int .i64 gr, .slice none 0 0]) ∧ Below W4.heap.size W4 W' ∧ W'.cell? ⟨B, 4, none⟩ = some (.map (some q)) ∧ W'.cell? ⟨P, 0, none⟩ = some (.string (bs t)) ∧ W'.cell? ⟨P, 1, none⟩ = some (.int .i64 gr) ∧ W'.cell? ⟨P, 2, none⟩ = some (.slice none 0 0) := by
      refine (clone_any t gr W4.drew).mono ?_
      rintro e W' ⟨rfl, hb⟩
      have hb' : Below W4.heap.size W4 W' := ⟨hb.os, hb.tape, hb.output, hb.size, hb.block⟩
      have r3 := (hb'.block _ hPl4).trans rP4
      exact ⟨rfl, hb', (hWin.on hb').c.2.2.2.2, cellB r3 0 _ rfl, cellB r3 1 _ rfl, cellB r3 2 _ rfl⟩
    have hPq : P ≠ q := by
      rcases hWin.bests with ⟨h9, _⟩ | ⟨b', D, hb', ho, _⟩
      · cases h9
      · injection hb' with hb'
        obtain ⟨es, clock, h9, _⟩ := ho
        intro e
        rw [← hb', ← e, rP4] at h9
        cases h9
    have hST : Hid (∀ w3, Below W4.heap.size W4 w3 → ∃ w5, (Instr.mapUpdate 63 (.map (some q)) (.int .i64 n) (.agg #[.int .i64 view, .string (bs t), .int .i64 gr, .slice none 0 0])).run Try.prog w3 = .ok () w5 ∧ MapAt w5 3 (some q) ((T.map bent).filter (fun p => !p.1.sameKey (.int .i64 n)) ++ [(.int .i64 n, .agg #[.int .i64 view, .string (bs t), .int .i64 gr, .slice none 0 0])]) ∧ w3.grownBy w5 (some q) ∧ w5.cell? ⟨B, 4, none⟩ = some (.map (some q)) ∧ w5.cell? ⟨P, 0, none⟩ = some (.string (bs t)) ∧ w5.cell? ⟨P, 1, none⟩ = some (.int .i64 gr) ∧ w5.cell? ⟨P, 2, none⟩ = some (.slice none 0 0)) := by
      intro w3 hb3
      have hw3 := hWin.on hb3
      obtain ⟨w5, hup, hM5, hg5⟩ := hw3.bests.store law3 Try.underlying63 (by rw [List.length_map]; omega) (val := .agg #[.int .i64 view, .string (bs t), .int .i64 gr, .slice none 0 0]) (keyOf_num wn)
      have hqB := (hw3.bb q rfl).2
      have r3 := (hb3.block _ hPl4).trans rP4
      have r5 := (hg5.block _ (Array.getElem?_eq_some_iff.1 r3).1 (fun e => hPq (Option.some.inj e))).trans r3
      exact ⟨w5, hup, hM5, hg5, cellB ((hg5.block B hw3.lt (fun e => hqB (Option.some.inj e).symm)).trans hw3.blk) 4 _ rfl, cellB r5 0 _ rfl, cellB r5 1 _ rfl, cellB r5 2 _ rfl⟩
    clear hWin hWv rP4 hPl4 hBl4
    go_region_held3 (fun w' => w'.cell? ⟨B, 4, none⟩ = some (.map (some q)) ∧ w'.cell? ⟨P, 0, none⟩ = some (.string (bs t)) ∧ w'.cell? ⟨P, 1, none⟩ = some (.int .i64 gr) ∧ w'.cell? ⟨P, 2, none⟩ = some (.slice none 0 0)) (go_keep)
      (first
        | (go_at_call 30; refine hN.mono ?_; rintro e w3 ⟨rfl, hb3, k0, k1, k2, k3⟩; obtain ⟨w5, hup, hM5, hg5, j0, j1, j2, j3⟩ := hST.out w3 hb3))
    all_goals
      go_wp2
      obtain ⟨hWin, hWv⟩ := HY.out
      have hW3 := hWin.on hb3
      have hqB := (hW3.bb q rfl).2
      rw [filter_bent, show (T.filter (fun a => !(a.1 == n))).map bent ++ [(.int .i64 n, .agg #[.int .i64 view, .string (bs t), .int .i64 gr, .slice none 0 0])] = (T.filter (fun a => !(a.1 == n)) ++ [(n, view, t, gr)]).map bent by simp [bent, bestV]] at hM5
      have hlf : (T.filter (fun a => !(a.1 == n))).length ≤ T.length := List.length_filter_le _ _
      have hW5 : WinAt base w5 B ms (some q) g f low S (T.filter (fun a => !(a.1 == n)) ++ [(n, view, t, gr)]) := by
        refine ⟨(hg5.block B hW3.lt (fun e => hqB (Option.some.inj e).symm)).trans hW3.blk, hW3.slots.keep (fun k e => hg5.block k (hW3.slots.lt e) (fun e2 => hW3.ne k e (by rw [Option.some.inj e2]))), hM5, hW3.up, hW3.sb, hW3.bb, hW3.ne, hW3.f3, hW3.g4, hW3.low0, hW3.low1, hW3.okS, fun a ha => ?_, ⟨hW3.few.1, ?_⟩⟩
        · rcases List.mem_append.1 ha with h9 | h9
          · exact hW3.okT a (List.mem_filter.1 h9).1
          · simp at h9; subst h9; exact ⟨by show 0 ≤ n; omega, by show n ≤ _; omega⟩
        · rw [List.length_append, List.length_cons, List.length_nil]; omega
      exact bodyPost_ret (v := .tuple #[.bool true, .int .i64 0]) (by simp [results, Try.f23, go_sem]) rfl ⟨some q, rfl, hW5, (hWv.trans (Wv.of_below hb3 _ _ _)).grown hg5 (.inr rfl)⟩
end Go.Proofs.Ytobojfkoffhljaa
