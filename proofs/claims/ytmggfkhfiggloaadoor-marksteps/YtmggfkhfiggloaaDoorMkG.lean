/- A vote taken: what it gives, and the marks behind it. -/
import Derived.Test.YtmggfkhfiggloaaDoorMkF
namespace Go.Proofs.YtmggfkhfiggloaaDoor
open Go.RowKit
attribute [local go_sem ↓] Go.wp_at_zero Go.wp_at_succ

/-- A vote more. -/
def updV (V : Nat → Vt) (i : Nat) (t : Vt) : Nat → Vt := fun a => if a = i then t else V a
/-- The world with a replica's vote written anew. -/
def putV (W : World) (B o : Nat) (a b c : Value) : World := ((W.setCell ⟨B, o, none⟩ a).setCell ⟨B, o + 1, none⟩ b).setCell ⟨B, o + 1 + 1, none⟩ c
/-- The world with the stable one written anew. -/
def putS (W : World) (B : Nat) (a b c d e : Value) : World := ((((W.setCell ⟨B, 32, none⟩ a).setCell ⟨B, 33, none⟩ b).setCell ⟨B, 34, none⟩ c).setCell ⟨B, 35, none⟩ d).setCell ⟨B, 36, none⟩ e
theorem putV_far {W : World} {B o k : Nat} (h : k ≠ B) (a b c : Value) : (putV W B o a b c).heap[k]? = W.heap[k]? := (set_far h _ _).trans ((set_far h _ _).trans (set_far h _ _))
theorem putS_far {W : World} {B k : Nat} (h : k ≠ B) (a b c d e : Value) : (putS W B a b c d e).heap[k]? = W.heap[k]? := (set_far h _ _).trans ((set_far h _ _).trans ((set_far h _ _).trans ((set_far h _ _).trans (set_far h _ _))))
theorem putV_size (W : World) (B o : Nat) (a b c : Value) : (putV W B o a b c).heap.size = W.heap.size := by simp [putV, World.setCell]
theorem putS_size (W : World) (B : Nat) (a b c d e : Value) : (putS W B a b c d e).heap.size = W.heap.size := by simp [putS, World.setCell]
theorem Mv.set1 (W : World) (B j : Nat) (u : Value) : Mv B W (W.setCell ⟨B, j, none⟩ u) := ⟨rfl, rfl, rfl, by simp [World.setCell], fun _ _ h => set_far h j u⟩
theorem putV_mv (W : World) (B o : Nat) (a b c : Value) : Mv B W (putV W B o a b c) := ((Mv.set1 W B _ a).trans (Mv.set1 _ B _ b)).trans (Mv.set1 _ B _ c)
theorem putS_mv (W : World) (B : Nat) (a b c d e : Value) : Mv B W (putS W B a b c d e) := ((((Mv.set1 W B _ a).trans (Mv.set1 _ B _ b)).trans (Mv.set1 _ B _ c)).trans (Mv.set1 _ B _ d)).trans (Mv.set1 _ B _ e)
theorem MarkAt.put {w : World} {B : Nat} {g : Int} {f : Nat} {s : St} {cv : Value} (h : MarkAt w B g f s cv) {i : Nat} (hi : i < 10) (n : Int) (st tg : List UInt8) : MarkAt (putV w B (2 + i * 3) (.int .i64 n) (.string (bs st)) (.string (bs tg))) B g f { s with V := updV s.V i (n, st, tg) } cv := by
  obtain ⟨cs, h1, hs, h2, h3, h4, h5, h6, h7, h8, h9⟩ := h.blk
  refine ⟨⟨_, setB (setB (setB h1 _ _) _ _) _ _, by simpa using hs, ?_, ?_, ?_, ?_, ?_, ?_, ?_, ?_⟩, h.f3, h.tags.keep (by rw [putV_size]; exact Nat.le_refl _) (fun k hk hT _ => putV_far (h.own k hk hT) _ _ _), h.own, h.len⟩
  · simp only [Array.getElem?_setIfInBounds, Array.size_setIfInBounds, hs]
    rw [if_neg (by omega), if_neg (by omega), if_neg (by omega)]; exact h2
  · simp only [Array.getElem?_setIfInBounds, Array.size_setIfInBounds, hs]
    rw [if_neg (by omega), if_neg (by omega), if_neg (by omega)]; exact h3
  · intro j hj
    obtain ⟨a, b, c⟩ := h4 j hj
    simp only [Array.getElem?_setIfInBounds, Array.size_setIfInBounds, hs, updV]
    by_cases e : j = i
    · subst e
      refine ⟨?_, ?_, ?_⟩
      · rw [if_neg (by omega), if_neg (by omega), if_pos rfl, if_pos (by omega), if_pos rfl]
      · rw [if_neg (by omega), if_pos rfl, if_pos (by omega), if_pos rfl]
      · rw [if_pos (by omega), if_pos (by omega), if_pos rfl]
    · refine ⟨?_, ?_, ?_⟩
      · rw [if_neg (by omega), if_neg (by omega), if_neg (by omega), if_neg e]; exact a
      · rw [if_neg (by omega), if_neg (by omega), if_neg (by omega), if_neg e]; exact b
      · rw [if_neg (by omega), if_neg (by omega), if_neg (by omega), if_neg e]; exact c
  all_goals
    simp only [Array.getElem?_setIfInBounds, Array.size_setIfInBounds, hs]
    rw [if_neg (by omega), if_neg (by omega), if_neg (by omega)]
    assumption
theorem MarkAt.stab {w : World} {B : Nat} {g : Int} {f : Nat} {s : St} {cv : Value} (h : MarkAt w B g f s cv) (n : Int) (st t : List UInt8) (cg : Int) (T : List Tg) (v : Value) (hv : Tp w v T) (ho : ∀ k, v.ownBlock = some k → T ≠ [] → k ≠ B) (hl : T.length * 24 ≤ 140737488355328) :
    MarkAt (putS w B (.int .i64 n) (.string (bs st)) (.string (bs t)) (.int .i64 cg) v) B g f ⟨s.V, n, st, t, cg, T⟩ v := by
  obtain ⟨cs, h1, hs, h2, h3, h4, h5, h6, h7, h8, h9⟩ := h.blk
  refine ⟨⟨_, setB (setB (setB (setB (setB h1 _ _) _ _) _ _) _ _) _ _, by simpa using hs, ?_, ?_, ?_, ?_, ?_, ?_, ?_, ?_⟩, h.f3, hv.keep (by rw [putS_size]; exact Nat.le_refl _) (fun k hk hT _ => putS_far (ho k hk hT) _ _ _ _ _), ho, hl⟩
  · simp only [Array.getElem?_setIfInBounds, Array.size_setIfInBounds, hs]; simpa using h2
  · simp only [Array.getElem?_setIfInBounds, Array.size_setIfInBounds, hs]; simpa using h3
  · intro j hj
    obtain ⟨a, b, c⟩ := h4 j hj
    simp only [Array.getElem?_setIfInBounds, Array.size_setIfInBounds, hs]
    refine ⟨?_, ?_, ?_⟩
    · rw [if_neg (by omega), if_neg (by omega), if_neg (by omega), if_neg (by omega), if_neg (by omega)]; exact a
    · rw [if_neg (by omega), if_neg (by omega), if_neg (by omega), if_neg (by omega), if_neg (by omega)]; exact b
    · rw [if_neg (by omega), if_neg (by omega), if_neg (by omega), if_neg (by omega), if_neg (by omega)]; exact c
  all_goals
    simp only [Array.getElem?_setIfInBounds, Array.size_setIfInBounds, hs]
    simp

/-- What a vote gives: whether there is a new stable one, why it is none, the marks behind it. -/
def voteR (g : Int) (f : Nat) (s : St) (no n : Int) (st tg : List UInt8) : Bool × Int × St :=
  if tofE g f no n st ≠ 0 then (false, tofE g f no n st, s)
  else if tg.length ≠ 16 then (false, 4, s)
  else if n ≤ (s.V no.toNat).1 then (false, 0, s)
  else if n ≤ s.n ∨ (tagsTo (updV s.V no.toNat (n, st, tg)) n st 10).length < 2 * f + 1 then (false, 0, { s with V := updV s.V no.toNat (n, st, tg) })
  else (true, 0, ⟨updV s.V no.toNat (n, st, tg), n, st, textV g n st, g, tagsTo (updV s.V no.toNat (n, st, tg)) n st 10⟩)
/-- Of one owner, or new. -/
def Fr (N : Nat) (v v' : Value) : Prop := ∀ k, v'.ownBlock = some k → v.ownBlock = some k ∨ N ≤ k
theorem Vote_nil (no n : Int) (st tg : ByteArray) (w : World) : Calls Tryd.prog 15 #[.pointer none, .int .i64 no, .int .i64 n, .string st, .string tg] w fun e W' => e = .returned (.tuple #[.bool false, .int .i64 (nilE no)]) ∧ W' = w := by
  have hT := textOf_nil no n st
  have hE : (nilE no != 0) = true := by unfold nilE; split <;> rfl
  obtain ⟨E, hEe⟩ : ∃ E, nilE no = E := ⟨_, rfl⟩
  rw [hEe] at hT hE ⊢
  clear hEe
  go_enter Tryd.func15, Tryd.ntmps15
  go_wp2_with (first | (go_at_call 34; refine (hT _).mono ?_; rintro e w1 ⟨rfl, h9⟩; subst h9))
  exact bodyPost_ret (v := .tuple #[.bool false, .int .i64 E]) (by simp [results, Tryd.f15, go_sem]) rfl ⟨rfl, rfl⟩
set_option maxRecDepth 20000 in
set_option maxHeartbeats 4000000 in
theorem Vote_any {w : World} {B : Nat} {g : Int} {f : Nat} {s : St} {cv : Value} (h : MarkAt w B g f s cv) (no n : Int) (st tg : List UInt8) (hs : st.length ≤ 140737488351232) (he : EnvP w) (b : Bool) (E : Int) (s' : St) (hR : voteR g f s no n st tg = (b, E, s')) :
    Calls Tryd.prog 15 #[.pointer (some ⟨B, 0, none⟩), .int .i64 no, .int .i64 n, .string (bs st), .string (bs tg)] w fun e W' => e = .returned (.tuple #[.bool b, .int .i64 E]) ∧ ∃ cv', MarkAt W' B g f s' cv' ∧ Mv B w W' ∧ Fr w.heap.size cv cv' := by
  have hF := textOf_any h no n st hs he
  have hsg : (bs tg).size = tg.length := bs_size tg
  unfold voteR at hR
  split at hR
  · rename_i hE
    simp only [Prod.mk.injEq] at hR
    obtain ⟨rfl, hEe, rfl⟩ := hR
    rw [hEe] at hF hE
    have hE2 : (E != 0) = true := by simpa using hE
    obtain ⟨X, hX⟩ : ∃ x, tofV g f no n st = x := ⟨_, rfl⟩
    rw [hX] at hF
    have HX : Hid (_) := h
    clear hEe hE h hX
    go_enter Tryd.func15, Tryd.ntmps15
    go_wp2_with (first | (go_at_call 34; refine hF.mono ?_; rintro e w1 ⟨rfl, hb⟩))
    exact bodyPost_ret (v := .tuple #[.bool false, .int .i64 E]) (by simp [results, Tryd.f15, go_sem]) rfl ⟨rfl, _, HX.out.on hb, Mv.of_below hb _, fun k hk => .inl hk⟩
  · rename_i hE
    have hE : tofE g f no n st = 0 := by simpa using hE
    rw [hE] at hF
    have hno : inR no 0 (3 * (f : Int)) = true := by
      unfold tofE at hE
      split at hE
      · assumption
      · cases hE
    have hX : tofV g f no n st = textV g n st := by rw [tofV, if_pos hno]
    rw [hX] at hF
    obtain ⟨r0, r1⟩ := inR_t hno
    obtain ⟨i, rfl⟩ : ∃ i : Nat, no = i := ⟨no.toNat, by omega⟩
    rw [Int.toNat_natCast] at hR
    have f3 := h.f3
    obtain ⟨X, hXX⟩ : ∃ x, textV g n st = x := ⟨_, rfl⟩
    rw [hXX] at hF hR
    clear hX hE hXX hno
    have i9 : i < 10 := by omega
    have i10 : (i : Int) < 10 := by omega
    split at hR
    · rename_i ht
      simp only [Prod.mk.injEq] at hR
      obtain ⟨rfl, rfl, rfl⟩ := hR
      have ht2 : ((tg.length : Int) != 16) = true := by simp; omega
      have HX : Hid (_) := h
      clear ht h
      go_enter Tryd.func15, Tryd.ntmps15
      go_wp2_with (first | (go_at_call 34; refine hF.mono ?_; rintro e w1 ⟨rfl, hb⟩))
      exact bodyPost_ret (v := .tuple #[.bool false, .int .i64 4]) (by simp [results, Tryd.f15, go_sem]) rfl ⟨rfl, _, HX.out.on hb, Mv.of_below hb _, fun k hk => .inl hk⟩
    · rename_i ht
      have ht : tg.length = 16 := by simpa using ht
      rw [ht] at hsg
      split at hR
      · rename_i hn
        simp only [Prod.mk.injEq] at hR
        obtain ⟨rfl, rfl, rfl⟩ := hR
        have HC : Hid (∀ W, Below w.heap.size w W → W.cell? ⟨B, 2 + i * 3, none⟩ = some (.int .i64 (s.V i).1)) := fun W hW => ((h.on hW).cv i9).1
        obtain ⟨m, hm⟩ : ∃ m, (s.V i).1 = m := ⟨_, rfl⟩
        rw [hm] at HC hn
        have HX : Hid (_) := h
        clear ht h hm
        go_enter Tryd.func15, Tryd.ntmps15
        go_wp2_with (first | (go_at_call 34; refine hF.mono ?_; rintro e w1 ⟨rfl, hb⟩; have x0 := HC.out _ hb))
        exact bodyPost_ret (v := .tuple #[.bool false, .int .i64 0]) (by simp [results, Tryd.f15, go_sem]) rfl ⟨rfl, _, HX.out.on hb, Mv.of_below hb _, fun k hk => .inl hk⟩
      · rename_i hn
        have hn2 : (s.V i).1 < n := by omega
        have hT : ∀ W, Below w.heap.size w W → Calls Tryd.prog 35 #[.pointer (some ⟨B, 0, none⟩), .agg #[.int .i64 n, .string (bs st)]] (putV W B (2 + i * 3) (.int .i64 n) (.string (bs st)) (.string (bs tg))) fun e W' => ∃ v, e = .returned v ∧ W'.ownsRow W.heap.size 94 2 v (tagsTo (updV s.V i (n, st, tg)) n st 10).length (tcs (tagsTo (updV s.V i (n, st, tg)) n st 10)) ∧ MarkAt W' B g f { s with V := updV s.V i (n, st, tg) } cv ∧ Mv B W W' := by
          intro W hW
          have h2 := (h.on hW).put i9 n st tg
          refine (tags_any h2 n st).mono ?_
          rintro e W' ⟨v, rfl, ho, hb⟩
          rw [putV_size] at ho
          exact ⟨v, rfl, ho, h2.on hb, (putV_mv _ _ _ _ _ _).trans (Mv.of_below hb B)⟩
        have hC : ∀ W, Below w.heap.size w W → (W.cell? ⟨B, 2 + i * 3, none⟩ = some (.int .i64 (s.V i).1) ∧ W.cell? ⟨B, 2 + i * 3 + 1, none⟩ = some (.string (bs (s.V i).2.1)) ∧ W.cell? ⟨B, 2 + i * 3 + 2, none⟩ = some (.string (bs (s.V i).2.2))) ∧ (∀ j, W.frozen? ⟨B, j, none⟩ = false) := fun W hW => ⟨(h.on hW).cv i9, (h.on hW).frozen⟩
        obtain ⟨⟨m, ms, mt⟩, hm⟩ : ∃ m, s.V i = m := ⟨_, rfl⟩
        have hTl := tagsTo_le (updV s.V i (n, st, tg)) n st 10
        obtain ⟨T, hTT⟩ : ∃ T, tagsTo (updV s.V i (n, st, tg)) n st 10 = T := ⟨_, rfl⟩
        rw [hm] at hn2 hC
        rw [hTT] at hT hR hTl
        have hBl := h.lt
        have HX : Hid (_ ∧ _ ∧ _) := ⟨hT, hC, hR⟩
        simp only at hn2
        clear hm hTT hn hT hC hR h ht
        go_enter Tryd.func15, Tryd.ntmps15
        go_upto_region 9 with (first | (go_at_call 34; refine hF.mono ?_; rintro e w1 ⟨rfl, hb⟩; have x0 := (HX.out.2.1 _ hb).1.1))
        obtain ⟨hT, hC, hR⟩ := HX.out
        have hba := (Below.refl w1.heap.size w1).alloc (Nat.le_refl _) (.cells #[.int .i64 n, .string (bs st)] 84)
        have rQ := heap_alloc_new w1 (.cells #[.int .i64 n, .string (bs st)] 84)
        have hB2 := hb.trans (hba.mono hb.size)
        have hsz : (w1.alloc (.cells #[.int .i64 n, .string (bs st)] 84)).heap.size = w1.heap.size + 1 := by simp
        obtain ⟨W2, hW2⟩ : ∃ W, w1.alloc (.cells #[.int .i64 n, .string (bs st)] 84) = W := ⟨_, rfl⟩
        rw [hW2] at rQ hB2 hsz ⊢
        have hlw := hb.size
        obtain ⟨Q, hQ⟩ : ∃ Q, w1.heap.size = Q := ⟨_, rfl⟩
        rw [hQ] at rQ hsz hlw ⊢
        have hQB : ¬ Q = B := by omega
        have hBQ : ¬ B = Q := by omega
        obtain ⟨⟨y0, y1, y2⟩, fz⟩ := hC W2 hB2
        have fz0 := fz (2 + i * 3)
        have fz1 := fz (2 + i * 3 + 1)
        have fz2 := fz (2 + i * 3 + 2)
        have hTT := hT W2.drew (below_drew hB2)
        unfold putV at hTT
        have q0 := cellB rQ 0 _ rfl
        have q1 := cellB rQ 1 _ rfl
        have HY : Hid (_ ∧ _ ∧ _ ∧ _ ∧ _) := ⟨rQ, hB2, hsz, hlw, hR⟩
        clear HX hT hC hR hba rQ hB2 hsz hlw hW2 hQ fz hb x0
        go_region
        go_upto_region 11 with (first | (go_at_call 35; refine hTT.mono ?_; rintro e w3 ⟨v, rfl, ho3, h3, hm3⟩))
        obtain ⟨rQ, hB2, hsz, hlw, hR⟩ := HY.out
        have rQ3 : w3.heap[Q]? = some (.cells #[.int .i64 n, .string (bs st)] 84) := (hm3.block Q (by show Q < W2.heap.size; omega) hQB).trans rQ
        obtain ⟨a3, c3, rfl⟩ := owns_slice ho3
        obtain ⟨c32, c33, c34, c35, c36⟩ := h3.cs
        obtain ⟨c0, c1⟩ := h3.c
        have q0 := cellB rQ3 0 _ rfl
        have q1 := cellB rQ3 1 _ rfl
        dsimp only at c32 c33 c34 c35 c36
        have hmv : Mv B w w3 := (Mv.of_below (hB2.mono (Nat.le_refl _)) B).trans ⟨hm3.os, hm3.tape, hm3.output, hm3.size, hm3.block⟩
        obtain ⟨sn, hsn⟩ : ∃ x, s.n = x := ⟨_, rfl⟩
        rw [hsn] at c32 hR h3
        have hf : (f : Int) ≤ 3 := by omega
        have hTl2 : (T.length : Int) ≤ 10 := by omega
        have HZ : Hid (_ ∧ _ ∧ _ ∧ _) := ⟨h3, hmv, ho3, (show W2.drew.heap.size = Q + 1 from hsz)⟩
        clear HY rQ rQ3 ho3 hmv h3 hB2 hsz hm3 hsn
        by_cases hn : n ≤ sn
        · rw [if_pos (.inl hn)] at hR
          simp only [Prod.mk.injEq] at hR
          obtain ⟨rfl, rfl, rfl⟩ := hR
          go_wp2
          obtain ⟨h3, hmv, _, _⟩ := HZ.out
          exact bodyPost_ret (v := .tuple #[.bool false, .int .i64 0]) (by simp [results, Tryd.f15, go_sem]) rfl ⟨rfl, _, h3, hmv, fun k hk => .inl hk⟩
        · by_cases hl : T.length < 2 * f + 1
          · rw [if_pos (.inr hl)] at hR
            simp only [Prod.mk.injEq] at hR
            obtain ⟨rfl, rfl, rfl⟩ := hR
            have hn3 : sn < n := by omega
            have hl2 : (T.length : Int) < 2 * (f : Int) + 1 := by omega
            clear hn hl
            go_wp2
            obtain ⟨h3, hmv, _, _⟩ := HZ.out
            exact bodyPost_ret (v := .tuple #[.bool false, .int .i64 0]) (by simp [results, Tryd.f15, go_sem]) rfl ⟨rfl, _, h3, hmv, fun k hk => .inl hk⟩
          · rw [if_neg (by rintro (h | h); exact hn h; exact hl h)] at hR
            simp only [Prod.mk.injEq] at hR
            have hn3 : sn < n := by omega
            have hl2 : 2 * (f : Int) + 1 ≤ (T.length : Int) := by omega
            have HR : Hid (_) := hR
            clear hn hl hR
            go_upto_region 13 with fail
            obtain ⟨rfl, rfl, rfl⟩ := HR.out
            have hfz := HZ.out.1.frozen
            have z0 := hfz 32
            have z1 := hfz 33
            have z2 := hfz 34
            have z3 := hfz 35
            have z4 := hfz 36
            clear hfz
            go_region
            all_goals
              go_wp2
              obtain ⟨h3, hmv, ho3, hsz⟩ := HZ.out
              have ho4 : ∀ k, (Value.slice a3 T.length c3).ownBlock = some k → Q + 1 ≤ k := fun k hk => by have := (ho3.lt k hk).1; omega
              have h4 := MarkAt.stab (h3.on (below_drew (Below.refl _ w3))) n st X g T (.slice a3 T.length c3) ((Tp.of_owns ho3).on (below_drew (Below.refl _ w3))) (fun k hk _ => by have := ho4 k hk; omega) (by omega)
              have hm4 := hmv.trans (⟨rfl, rfl, rfl, Nat.le_refl _, fun _ _ _ => rfl⟩ : Mv B w3 w3.drew) |>.trans (putS_mv w3.drew B (.int .i64 n) (.string (bs st)) (.string (bs X)) (.int .i64 g) (.slice a3 T.length c3))
              unfold putS at h4 hm4
              exact bodyPost_ret (v := .tuple #[.bool true, .int .i64 0]) (by simp [results, Tryd.f15, go_sem]) rfl ⟨rfl, _, h4, hm4, fun k hk => .inr (by have := ho4 k hk; omega)⟩
end Go.Proofs.YtmggfkhfiggloaaDoor
