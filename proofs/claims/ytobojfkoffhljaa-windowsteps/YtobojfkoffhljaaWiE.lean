/- The window's At, where the slot is new, walked. -/
import Derived.Test.YtobojfkoffhljaaWiD
namespace Go.Proofs.Ytobojfkoffhljaa
open Go.RowKit Go.Maps
attribute [local go_sem ↓] Go.wp_at_zero Go.wp_at_succ

theorem filter_none {l : List (Lit × Value)} {kl : Lit} (h : ∀ p ∈ l, p.1 ≠ kl) : l.filter (fun p => !p.1.sameKey kl) = l := by
  rw [List.filter_eq_self]
  intro p hp
  rw [Maps.sameKey_ne (h p hp)]; rfl
/-- A view's primary. -/
def primN (view : Int) (f : Nat) : Nat := (view % (3 * (f : Int) + 1)).toNat
theorem primN_le (view : Int) (f : Nat) : primN view f ≤ 3 * f := by
  unfold primN
  have h1 := Int.emod_lt_of_pos view (show (0 : Int) < 3 * (f : Int) + 1 by omega)
  have h2 := Int.emod_nonneg view (show (3 * (f : Int) + 1) ≠ 0 by omega)
  omega
theorem Wv.grown {B q : Nat} {ms mb ms' mb' : Option Nat} {w w4 w5 : World} (h : Wv B ms mb ms' mb' w w4) (hg : w4.grownBy w5 (some q)) (hq : ms' = some q ∨ mb' = some q) : Wv B ms mb ms' mb' w w5 :=
  ⟨hg.os.trans h.os, hg.tape.trans h.tape, hg.output.trans h.output, Nat.le_trans h.size hg.size, fun k hk h1 h2 h3 => (hg.block k (Nat.lt_of_lt_of_le hk h.size) (fun e => by
    injection e with e
    subst e
    rcases hq with hq | hq
    · rcases (h.own k).1 hq with e | e
      · exact h2 e
      · omega
    · rcases (h.own k).2 hq with e | e
      · exact h3 e
      · omega)).trans (h.block k hk h1 h2 h3), h.own⟩
set_option maxRecDepth 20000 in
set_option maxHeartbeats 4000000 in
theorem At_new {base : Nat} {w : World} {B : Nat} {ms mb : Option Nat} {g : Int} {f : Nat} {low : Int} {S : List Sk} {T : List Bt} (h : WinAt base w B ms mb g f low S T) (hfew : S.length < 1000) {view n : Int} (hE : askE low view n = 0) (hno : ∀ a ∈ S, ¬ (a.1 = view ∧ a.2.1 = n)) : Calls Try.prog 18 #[.pointer (some ⟨B, 0, none⟩), .int .i64 view, .int .i64 n] w fun e W' => ∃ b ms', e = .returned (.tuple #[.pointer (some ⟨b, 0, none⟩), .int .i64 0]) ∧ WinAt base W' B ms' mb g f low (S ++ [(view, n, b)]) T ∧ SlotAt W' b g f (primN view f) (fun _ _ => ([], [])) ∧ w.heap.size ≤ b ∧ Wv B ms mb ms' mb w W' := by
  have hF := wfault_any h view n
  rw [hE] at hF
  obtain ⟨a1, a2, a3, a4⟩ := askE_0 hE
  have l0 := h.low0
  have l1 := h.low1
  have f3 := h.f3
  have wv := wf64 (a := view) (by omega) (by omega)
  have wn := wf64 (a := n) (by omega) (by omega)
  have hnl : ∀ p ∈ S.map sent, p.1 ≠ pk view n := by
    intro p hp
    obtain ⟨a, ha, rfl⟩ := List.mem_map.1 hp
    intro e
    obtain ⟨k1, k2, k3, k4⟩ := h.okS a ha
    exact hno a ha (pk_inj (wf64 (by omega) (by omega)) (wf64 (by omega) (by omega)) wv wn e)
  have hba : Below w.heap.size w (w.alloc (.cells #[.int .i64 view, .int .i64 n] 76)) := (Below.refl _ w).alloc (Nat.le_refl _) _
  have h1 := h.on hba
  obtain ⟨c0, c1, c2, c3, c4⟩ := h1.c
  have rK := heap_alloc_new w (.cells #[.int .i64 view, .int .i64 n] 76)
  have hlk : ∀ nq, (Instr.lookup 62 (.map ms) (.agg #[.int .i64 view, .int .i64 n]) true).run Try.prog ((w.alloc (.cells #[.int .i64 view, .int .i64 n] 76)).drewN nq) = .ok (.tuple #[.pointer none, .bool false]) ((w.alloc (.cells #[.int .i64 view, .int .i64 n] 76)).drewN nq) := fun nq =>
    ((h1.slots.drewN nq).look law76 Try.underlying62 (Try.zero48 _) (keyOf_place wv wn)).2 hnl
  have hpr : view % (3 * (f : Int) + 1) = (primN view f : Int) := by
    unfold primN
    have h2 := Int.emod_nonneg view (show (3 * (f : Int) + 1) ≠ 0 by omega)
    omega
  have hpl := primN_le view f
  obtain ⟨p, hp⟩ : ∃ p, primN view f = p := ⟨_, rfl⟩
  rw [hp] at hpr hpl ⊢
  have HN : Hid (∀ W, Calls Try.prog 32 #[.int .i64 g, .int .i64 f, .int .i64 p] W fun e W' => e = .returned (.tuple #[.pointer (some ⟨W.heap.size, 0, none⟩), .int .i64 0]) ∧ SlotAt W' W.heap.size g f p (fun _ _ => ([], [])) ∧ Below W.heap.size W W') := fun W => New_ok h.g4 f3 hpl W
  obtain ⟨m, hm⟩ : ∃ m, 3 * (f : Int) = m := ⟨_, rfl⟩
  obtain ⟨k, hk⟩ : ∃ k, m + 1 = k := ⟨_, rfl⟩
  have v2 : IntKind.i64.wrap (3 * (f : Int)) = m := by rw [← hm]; exact wrap_id (by omega) (by omega)
  have v3 : IntKind.i64.wrap (m + 1) = k := by rw [← hk]; exact wrap_id (by omega) (by omega)
  have kp : 0 < k := by omega
  have k10 : k ≤ 10 := by omega
  have HP : Hid (view % k = (p : Int)) := by show _ = _; rw [← hk, ← hm]; exact hpr
  have HX : Hid (_ ∧ _ ∧ _ ∧ _) := ⟨h1, hba, rK, hnl⟩
  clear h h1 hba hE rK hnl hno hp hm hk hpr
  go_enter Try.func18, Try.ntmps18
  go_upto_region 5 with (first | (go_at_call 31; refine hF.mono ?_; rintro e w1 ⟨rfl, h9⟩; replace h9 := h9.symm; subst h9))
  go_quiet (fail)
  obtain ⟨h1, hba, rK, hnl⟩ := HX.out
  have hbq := below_drewN (Below.refl (w.alloc (.cells #[.int .i64 view, .int .i64 n] 76)).heap.size (w.alloc (.cells #[.int .i64 view, .int .i64 n] 76))) nq
  have h2 := h1.on hbq
  have hB2 := below_drewN hba nq
  have rK2 : ((w.alloc (.cells #[.int .i64 view, .int .i64 n] 76)).drewN nq).heap[w.heap.size]? = some (.cells #[.int .i64 view, .int .i64 n] 76) := rK
  have hsz2 : w.heap.size + 1 = ((w.alloc (.cells #[.int .i64 view, .int .i64 n] 76)).drewN nq).heap.size := by show _ = (w.alloc _).heap.size; simp
  obtain ⟨W2, hW2⟩ : ∃ W, (w.alloc (.cells #[.int .i64 view, .int .i64 n] 76)).drewN nq = W := ⟨_, rfl⟩
  rw [hW2] at h2 hB2 rK2 hsz2 ⊢
  clear HX h1 hba rK c0 c1 c2 c3 c4 hlk hW2 hbq hF
  obtain ⟨c0, c1, c2, c3, c4⟩ := h2.c
  have hN : Calls Try.prog 32 #[.int .i64 g, .int .i64 f, .int .i64 p] W2.drew fun e W' => e = .returned (.tuple #[.pointer (some ⟨W2.heap.size, 0, none⟩), .int .i64 0]) ∧ SlotAt W' W2.heap.size g f p (fun _ _ => ([], [])) ∧ Below W2.heap.size W2 W' ∧ W'.cell? ⟨B, 0, none⟩ = some (.int .i64 g) ∧ W'.cell? ⟨B, 1, none⟩ = some (.int .i64 f) := by
    refine (HN.out W2.drew).mono ?_
    rintro e W' ⟨rfl, hS, hb⟩
    have hb' : Below W2.heap.size W2 W' := ⟨hb.os, hb.tape, hb.output, hb.size, hb.block⟩
    exact ⟨rfl, hS, hb', (h2.on hb').c.1, (h2.on hb').c.2.1⟩
  have hpt : view.tmod k = (p : Int) := by rw [Int.tmod_eq_emod_of_nonneg a1]; exact HP.out
  have hk0 : ¬ k = 0 := by omega
  have hk1 : (k == 0) = false := by simp; omega
  have hpw : IntKind.i64.wrap (p : Int) = (p : Int) := wrap_id (by omega) (by omega)
  have HY : Hid (_ ∧ _ ∧ _ ∧ _ ∧ _) := ⟨h2, hB2, rK2, hnl, hsz2⟩
  clear h2 hB2 rK2 hnl hsz2
  go_upto_region 8 with fail
  go_region_held3 (fun w' => w'.cell? ⟨B, 0, none⟩ = some (.int .i64 g) ∧ w'.cell? ⟨B, 1, none⟩ = some (.int .i64 f)) (go_keep)
    (first
      | (go_at_call 32; refine hN.mono ?_; rintro e w3 ⟨rfl, hS3, hb3, y0, y1⟩))
  obtain ⟨h2, hB2, rK2, hnl, hsz2⟩ := HY.out
  have h3 := h2.on hb3
  have hB3 := hB2.trans (hb3.mono hB2.size)
  have rK3 := (hb3.block _ (Array.getElem?_eq_some_iff.1 rK2).1).trans rK2
  have hlt3 := hS3.lt
  have hbW : w.heap.size < W2.heap.size := by omega
  have hnB : W2.heap.size ≠ B := fun e => by have := h2.lt; omega
  have hXB : w.heap.size ≠ B := by
    intro e
    have e1 := h3.blk
    rw [← e, rK3] at e1
    cases e1
  obtain ⟨b, hbe⟩ : ∃ b, W2.heap.size = b := ⟨_, rfl⟩
  rw [hbe] at hS3 hb3 hlt3 hbW hnB ⊢
  have hSm : ∀ q, ms = some q → q ≠ w.heap.size ∧ q ≠ b := by
    intro q hq
    refine ⟨fun e => ?_, fun e => ?_⟩
    · rcases h3.slots with ⟨h9, _⟩ | ⟨b', D, hb', ho, _⟩
      · rw [h9] at hq; cases hq
      · rw [hq] at hb'
        injection hb' with hb'
        obtain ⟨es, clock, h9, _⟩ := ho
        rw [← hb', e, rK3] at h9
        cases h9
    · have := h2.slots.lt hq; omega
  have hTm : ∀ q, mb = some q → q ≠ b := fun q hq e => by have := h2.bests.lt hq; omega
  clear HY y0 y1 c0 c1 c2 c3 c4 h2 hN hpt hk0 hk1 hpw v2 v3
  cases ms with
  | none =>
    have hS0 : S = [] := by
      rcases h3.slots with ⟨_, h9⟩ | ⟨_, _, h9, _⟩
      · simpa using h9
      · cases h9
    subst hS0
    obtain ⟨c0, c1, c2, c3, c4⟩ := h3.c
    have fz := h3.fz 3
    have hmm := @run_makeMap Try.prog
    have heq := eql62n
    obtain ⟨q, hq⟩ : ∃ q, w3.heap.size = q := ⟨_, rfl⟩
    have hba := (Below.refl w3.heap.size w3).alloc (Nat.le_refl _) (.map #[] 0)
    have h4 := h3.on hba
    have c3' := h4.c.2.2.2.1
    have fz' := h4.fz 3
    have blk4 := setB h4.blk 3 (.map (some w3.heap.size))
    have hmk : MapAt ((w3.alloc (.map #[] 0)).setCell ⟨B, 3, none⟩ (.map (some w3.heap.size))) 76 (some w3.heap.size) [] := (MapAt.made w3 76).keep (fun k e => by injection e with e; subst e; exact set_far (fun e => by have := h3.lt; omega) _ _)
    have hWin : WinAt base ((w3.alloc (.map #[] 0)).setCell ⟨B, 3, none⟩ (.map (some w3.heap.size))) B (some w3.heap.size) mb g f low [] T := by
      refine ⟨blk4, hmk, h4.bests.keep (fun k e => set_far (h3.bb k e).2 _ _), h4.up, fun k e => ?_, h4.bb, fun k e e2 => ?_, h4.f3, h4.g4, h4.low0, h4.low1, h4.okS, h4.okT, h4.few⟩
      · injection e with e
        have := h3.lt
        have := h3.up
        exact ⟨by omega, by omega⟩
      · injection e with e
        have := h3.bests.lt e2
        omega
    have hWv : Wv B none mb (some w3.heap.size) mb w ((w3.alloc (.map #[] 0)).setCell ⟨B, 3, none⟩ (.map (some w3.heap.size))) := by
      refine ⟨hB3.os, hB3.tape, hB3.output, ?_, fun k hk h1 _ _ => (set_far h1 _ _).trans ((Below.heap_alloc _ _ _ (Nat.lt_of_lt_of_le hk hB3.size)).trans (hB3.block k hk)), fun k => ⟨fun e => ?_, .inl⟩⟩
      · have := hB3.size
        simp only [World.setCell, Array.size_modify]
        simp; omega
      · injection e with e
        have := hB3.size
        exact .inr (by omega)
    have hSl : SlotAt ((w3.alloc (.map #[] 0)).setCell ⟨B, 3, none⟩ (.map (some w3.heap.size))) b g f p (fun _ _ => ([], [])) := (hS3.on hba).keep (set_far hnB _ _)
    have rK4 : ((w3.alloc (.map #[] 0)).setCell ⟨B, 3, none⟩ (.map (some w3.heap.size))).heap[w.heap.size]? = some (.cells #[.int .i64 view, .int .i64 n] 76) := (set_far hXB _ _).trans ((Below.heap_alloc _ _ _ (by omega)).trans rK3)
    have HZ : Hid (_ ∧ _ ∧ _ ∧ _) := ⟨hWin, hWv, hSl, rK4⟩
    clear h3 h4 hba blk4 hmk hWin hWv hSl rK4 rK3 hS3 hb3 hB3 hSm hTm
    go_upto_region 13 with fail
    obtain ⟨hWin, hWv, hSl, rK4⟩ := HZ.out
    rw [hq] at hWin hWv hSl rK4
    obtain ⟨W4, hW4⟩ : ∃ W, (w3.alloc (.map #[] 0)).setCell ⟨B, 3, none⟩ (.map (some q)) = W := ⟨_, rfl⟩
    rw [hW4] at hWin hWv hSl rK4 ⊢
    have HQ : Hid (q ≠ b) := by show _ ≠ _; omega
    clear hW4 HZ c0 c1 c2 c3 c4 fz hmm heq hq c3' fz'
    have u0 := cellB rK4 0 _ rfl
    have u1 := cellB rK4 1 _ rfl
    have c3 := hWin.c.2.2.2.1
    have hmd : MapAt W4.drew 76 (some q) (([] : List Sk).map sent) := hWin.slots.keep (fun _ _ => rfl)
    obtain ⟨w5, hup, hM5, hg5⟩ := hmd.store law76 Try.underlying62 (by rw [List.length_map]; omega) (val := .pointer (some ⟨b, 0, none⟩)) (keyOf_place wv wn)
    rw [filter_none hnl, show ([] : List Sk).map sent ++ [(pk view n, .pointer (some ⟨b, 0, none⟩))] = (([] : List Sk) ++ [(view, n, b)]).map sent by simp [sent]] at hM5
    have hqB := (hWin.sb q rfl).2
    have hg : W4.grownBy w5 (some q) := ⟨hg5.os, hg5.tape, hg5.output, hg5.size, hg5.block⟩
    have hqb : q ≠ b := HQ.out
    have hW5 : WinAt base w5 B (some q) mb g f low (([] : List Sk) ++ [(view, n, b)]) T := by
      refine ⟨(hg.block B hWin.lt (fun e => hqB (Option.some.inj e).symm)).trans hWin.blk, hM5, hWin.bests.keep (fun k e => hg.block k (hWin.bests.lt e) (fun e2 => hWin.ne q rfl (by rw [← Option.some.inj e2]; exact e))), hWin.up, hWin.sb, hWin.bb, hWin.ne, hWin.f3, hWin.g4, hWin.low0, hWin.low1, fun a ha => ?_, hWin.okT, ⟨?_, hWin.few.2⟩⟩
      · rcases List.mem_append.1 ha with h9 | h9
        · exact hWin.okS a h9
        · simp at h9; subst h9; exact ⟨a1, a2, by show 0 ≤ n; omega, by show n ≤ _; omega⟩
      · rw [List.length_append, List.length_cons, List.length_nil]; first | omega | (simp only [List.length_nil]; omega)
    have hSl5 : SlotAt w5 b g f p (fun _ _ => ([], [])) := hSl.keep (hg.block b hSl.lt (fun e => hqb (Option.some.inj e).symm))
    have HF : Hid (_ ∧ _ ∧ _) := ⟨hW5, hSl5, hWv.grown hg (.inl rfl)⟩
    clear hW5 hSl5 hg hg5 hM5 hmd hWin hWv hSl rK4 hqB
    go_region
    all_goals
      go_wp2
      exact bodyPost_ret (v := .tuple #[.pointer (some ⟨b, 0, none⟩), .int .i64 0]) (by simp [results, Try.f18, go_sem]) rfl ⟨b, some q, rfl, HF.out.1, HF.out.2.1, by omega, HF.out.2.2⟩
  | some q =>
    obtain ⟨c0, c1, c2, c3, c4⟩ := h3.c
    have heq := eql62s
    have HQ : Hid (q ≠ b) := (hSm q rfl).2
    have HZ : Hid (_ ∧ _ ∧ _ ∧ _) := ⟨h3, Wv.of_below hB3 B (some q) mb, hS3, rK3⟩
    clear h3 rK3 hS3 hb3 hB3 hSm hTm
    go_upto_region 13 with fail
    obtain ⟨hWin, hWv, hSl, rK4⟩ := HZ.out
    clear HZ c0 c1 c2 c3 c4 heq
    have u0 := cellB rK4 0 _ rfl
    have u1 := cellB rK4 1 _ rfl
    have c3 := hWin.c.2.2.2.1
    have hmd : MapAt w3.drew 76 (some q) (S.map sent) := hWin.slots.keep (fun _ _ => rfl)
    obtain ⟨w5, hup, hM5, hg5⟩ := hmd.store law76 Try.underlying62 (by rw [List.length_map]; omega) (val := .pointer (some ⟨b, 0, none⟩)) (keyOf_place wv wn)
    rw [filter_none hnl, show S.map sent ++ [(pk view n, .pointer (some ⟨b, 0, none⟩))] = (S ++ [(view, n, b)]).map sent by simp [sent]] at hM5
    have hqB := (hWin.sb q rfl).2
    have hg : w3.grownBy w5 (some q) := ⟨hg5.os, hg5.tape, hg5.output, hg5.size, hg5.block⟩
    have hqb : q ≠ b := HQ.out
    have hW5 : WinAt base w5 B (some q) mb g f low (S ++ [(view, n, b)]) T := by
      refine ⟨(hg.block B hWin.lt (fun e => hqB (Option.some.inj e).symm)).trans hWin.blk, hM5, hWin.bests.keep (fun k e => hg.block k (hWin.bests.lt e) (fun e2 => hWin.ne q rfl (by rw [← Option.some.inj e2]; exact e))), hWin.up, hWin.sb, hWin.bb, hWin.ne, hWin.f3, hWin.g4, hWin.low0, hWin.low1, fun a ha => ?_, hWin.okT, ⟨?_, hWin.few.2⟩⟩
      · rcases List.mem_append.1 ha with h9 | h9
        · exact hWin.okS a h9
        · simp at h9; subst h9; exact ⟨a1, a2, by show 0 ≤ n; omega, by show n ≤ _; omega⟩
      · rw [List.length_append, List.length_cons, List.length_nil]; first | omega | (simp only [List.length_nil]; omega)
    have hSl5 : SlotAt w5 b g f p (fun _ _ => ([], [])) := hSl.keep (hg.block b hSl.lt (fun e => hqb (Option.some.inj e).symm))
    have HF : Hid (_ ∧ _ ∧ _) := ⟨hW5, hSl5, hWv.grown hg (.inl rfl)⟩
    clear hW5 hSl5 hg hg5 hM5 hmd hWin hWv hSl rK4 hqB
    go_region
    all_goals
      go_wp2
      exact bodyPost_ret (v := .tuple #[.pointer (some ⟨b, 0, none⟩), .int .i64 0]) (by simp [results, Try.f18, go_sem]) rfl ⟨b, some q, rfl, HF.out.1, HF.out.2.1, by omega, HF.out.2.2⟩
end Go.Proofs.Ytobojfkoffhljaa
