/- Moots: take, walked. -/
import Derived.Test.YtfjbhljnledphaaDoorMoA
namespace Go.Proofs.YtfjbhljnledphaaDoor
open Go.RowKit
attribute [local go_sem ↓] Go.wp_at_zero Go.wp_at_succ

def TkPost (base M B : Nat) (v u : Value) (L : List Rc) (cl : List Kn) (k g s : Int) (w W' : World) : Prop :=
  ∃ v' u' L' T', cls L' = doC (cls L) k g s ∧ MtAt base W' M B v' u' L' T' cl ∧ MK M B v u L v' u' L' w W'
/-- What the chain's Do leaves of a moot. -/
def TkMid (base M B : Nat) (v u : Value) (L : List Rc) (T : List C3) (cl : List Kn) (k g s : Int) (w wc : World) : Prop :=
  ∃ v' L', cls L' = doC (cls L) k g s ∧ ChAt base wc B v' L' ∧ wc.heap[M]? = some (.cells (mcs B u cl).toArray 50) ∧ wc.ownsRow base 23 3 u T.length (ccs T) ∧ wc.heap[w.heap.size]? = some (.cells #[.int .i64 k, .int .i64 g, .int .i64 s] 23) ∧
    v'.ownBlock ≠ some M ∧ (∀ (i : Nat) r, L'[i]? = some r → r.1.ownBlock ≠ some M) ∧ (∀ k, u.ownBlock = some k → k ≠ B ∧ v'.ownBlock ≠ some k ∧ ∀ (i : Nat) r, L'[i]? = some r → r.1.ownBlock ≠ some k) ∧ MK M B v u L v' u L' w wc
theorem tk_mid {base M B : Nat} {v u : Value} {L : List Rc} {T : List C3} {cl : List Kn} {k g s : Int} {w W0 wc : World} (h : MtAt base w M B v u L T cl) (hW : w.alloc (.cells #[.int .i64 k, .int .i64 g, .int .i64 s] 23) = W0) (hd : DoPost2 base B v L k g s W0.drew wc) : TkMid base M B v u L T cl k g s w wc := by
  subst hW
  obtain ⟨v', L', h1, h2, h3, h4, h5⟩ := hd
  have hs : (w.alloc (.cells #[.int .i64 k, .int .i64 g, .int .i64 s] 23)).drew.heap.size = w.heap.size + 1 := by simp
  have hb0 : Below w.heap.size w (w.alloc (.cells #[.int .i64 k, .int .i64 g, .int .i64 s] 23)).drew := below_drew ((Below.refl _ w).alloc (Nat.le_refl _) _)
  have hsz := h3.size
  have hkeep : ∀ j, j < w.heap.size → j ≠ B → v.ownBlock ≠ some j → wc.heap[j]? = w.heap[j]? := fun j a b c => (h3.block j (by omega) b c).trans (hb0.block j a)
  refine ⟨v', L', h1, h2, (hkeep M h.lt h.nB h.nv).trans h.blk, owns_kept h.row (fun j hj => hkeep j (h.row.lt j hj).2 (h.ap j hj).1 (h.ap j hj).2.1), (h3.block _ (by omega) (by have := h.ch.lt; omega) (fun e => by have := (h.ch.own.lt _ e).2; omega)).trans (heap_alloc_new _ _), ?_, ?_, ?_, ⟨h3.os.trans hb0.os, h3.tape.trans hb0.tape, h3.output.trans hb0.output, by omega, ?_, ?_⟩⟩
  · intro e
    rcases h4 _ e with e | e
    · exact h.nv e
    · have := h.lt; omega
  · intro i r hr e
    rcases h5 i r hr with hr | hr
    · exact h.nr i r hr e
    · have := hr _ e; have := h.lt; omega
  · intro j hj
    obtain ⟨a1, a2, a3⟩ := h.ap j hj
    have hlt := (h.row.lt j hj).2
    refine ⟨a1, fun e => ?_, fun i r hr e => ?_⟩
    · rcases h4 j e with e | e
      · exact a2 e
      · omega
    · rcases h5 i r hr with hr | hr
      · exact a3 i r hr e
      · have := hr j e; omega
  · intro j hj hn
    exact hkeep j hj (fun e => hn (.inr (.inl e))) (fun e => hn (.inr (.inr (.inl e))))
  · intro j hj
    rcases hj with hj | hj | hj | hj | ⟨i, r, hr, hj⟩
    · exact .inl (.inl hj)
    · exact .inl (.inr (.inl hj))
    · rcases h4 j hj with e | e
      · exact .inl (.inr (.inr (.inl e)))
      · exact .inr (by omega)
    · exact .inl (.inr (.inr (.inr (.inl hj))))
    · rcases h5 i r hr with hr | hr
      · exact .inl (.inr (.inr (.inr (.inr ⟨i, r, hr, hj⟩))))
      · have := hr j hj; exact .inr (by omega)
set_option maxRecDepth 20000 in
set_option maxHeartbeats 1000000 in
theorem take_any (k g s : Int) (base M B : Nat) (v u : Value) (L : List Rc) (T : List C3) (cl : List Kn) (w : World) (h : MtAt base w M B v u L T cl) :
    Calls Tryd.prog 10 #[.pointer (some ⟨M, 0, none⟩), .agg #[.int .i64 k, .int .i64 g, .int .i64 s]] w fun e W' => e = .returned (.int .i64 (doE (cls L) k g s)) ∧ TkPost base M B v u L cl k g s w W' := by
  have hb0 : Below w.heap.size w (w.alloc (.cells #[.int .i64 k, .int .i64 g, .int .i64 s] 23)) := (Below.refl _ w).alloc (Nat.le_refl _) _
  have r0 := heap_alloc_new w (.cells #[.int .i64 k, .int .i64 g, .int .i64 s] 23)
  have h0 := h.next hb0
  have hT : T.length ≤ 40 := by rw [h.tl]; exact h.forty
  have hDo := fun W (hw : Below (w.alloc (.cells #[.int .i64 k, .int .i64 g, .int .i64 s] 23)).heap.size (w.alloc (.cells #[.int .i64 k, .int .i64 g, .int .i64 s] 23)) W) => Do2_any k g s B base v L W (h0.ch.next hw) (by have := h.forty; omega)
  obtain ⟨W0, hW0⟩ : ∃ W, w.alloc (.cells #[.int .i64 k, .int .i64 g, .int .i64 s] 23) = W := ⟨_, rfl⟩
  rw [hW0] at hb0 r0 h0 hDo
  have HV : Hid (w.alloc (.cells #[.int .i64 k, .int .i64 g, .int .i64 s] 23) = W0) := hW0
  have HM : Hid (MtAt base w M B v u L T cl) := h
  have hS0 : W0.drew.heap[M]? = some (.cells (mcs B u cl).toArray 50) ∧ W0.drew.heap[w.heap.size]? = some (.cells #[.int .i64 k, .int .i64 g, .int .i64 s] 23) := ⟨h0.blk, r0⟩
  obtain ⟨ua, uc, rfl⟩ := owns_slice h.row
  obtain ⟨E, hE⟩ : ∃ E, doE (cls L) k g s = E := ⟨_, rfl⟩
  have HE : Hid (doE (cls L) k g s = E) := hE
  have HT : Hid (T.length ≤ 40) := hT
  rw [hE]
  simp only [hE] at hDo
  have HD := hDo W0.drew (below_drew (Below.refl _ _))
  clear hW0 h h0 r0 hb0 hE hT hDo
  go_enter Tryd.func10, Tryd.ntmps10
  go_upto_region 1 with fail
  rw [HV.out]
  go_cut [5] (fun p5 wx => p5 = .int .i64 E ∧ Hid (TkMid base M B v (.slice ua T.length uc) L T cl k g s w wx))
  case first =>
    refine region_Z 99 (fun w' => w'.heap[M]? = some (.cells (mcs B (.slice ua T.length uc) cl).toArray 50) ∧ w'.heap[w.heap.size]? = some (.cells #[.int .i64 k, .int .i64 g, .int .i64 s] 23)) (by kernel_rfl) ?_
    refine Y_take (i := 0) (v := ?_) rfl (by kernel_rfl) (by kernel_rfl) (by kernel_rfl) (by kernel_rfl) (fun _ _ _ h => h) (by rfl) hS0 ?_ ?_
    rotate_left
    · (intro w' hSw; obtain ⟨e0, e1⟩ := hSw; have f0 := cellB e0 0 _ rfl; have f1 := cellB e1 0 _ rfl; have f2 := cellB e1 1 _ rfl; have f3 := cellB e1 2 _ rfl; go_simp; (try with_reducible rfl))
    simp only [Act.put, List.setIfInBounds_toArray]
    refine Y_take (i := 1) (v := ?_) rfl (by kernel_rfl) (by kernel_rfl) (by kernel_rfl) (by kernel_rfl) (fun _ _ _ h => h) (by rfl) hS0 ?_ ?_
    rotate_left
    · (intro w' hSw; obtain ⟨e0, e1⟩ := hSw; have f0 := cellB e0 0 _ rfl; have f1 := cellB e1 0 _ rfl; have f2 := cellB e1 1 _ rfl; have f3 := cellB e1 2 _ rfl; go_simp; (try with_reducible rfl))
    simp only [Act.put]
    refine Y_take (i := 2) (v := ?_) rfl (by kernel_rfl) (by kernel_rfl) (by kernel_rfl) (by kernel_rfl) (fun _ _ _ h => h) (by rfl) hS0 ?_ ?_
    rotate_left
    · (intro w' hSw; obtain ⟨e0, e1⟩ := hSw; have f0 := cellB e0 0 _ rfl; have f1 := cellB e1 0 _ rfl; have f2 := cellB e1 1 _ rfl; have f3 := cellB e1 2 _ rfl; go_simp; (try with_reducible rfl))
    simp only [Act.put]
    refine Y_take (i := 3) (v := ?_) rfl (by kernel_rfl) (by kernel_rfl) (by kernel_rfl) (by kernel_rfl) (fun _ _ _ h => h) (by rfl) hS0 ?_ ?_
    rotate_left
    · (intro w' hSw; obtain ⟨e0, e1⟩ := hSw; have f0 := cellB e0 0 _ rfl; have f1 := cellB e1 0 _ rfl; have f2 := cellB e1 1 _ rfl; have f3 := cellB e1 2 _ rfl; go_simp; (try with_reducible rfl))
    simp only [Act.put]
    refine Y_take (i := 4) (v := ?_) rfl (by kernel_rfl) (by kernel_rfl) (by kernel_rfl) (by kernel_rfl) (fun _ _ _ h => h) (by rfl) hS0 ?_ ?_
    rotate_left
    · (intro w' hSw; obtain ⟨e0, e1⟩ := hSw; have f0 := cellB e0 0 _ rfl; have f1 := cellB e1 0 _ rfl; have f2 := cellB e1 1 _ rfl; have f3 := cellB e1 2 _ rfl; go_simp; (try with_reducible rfl))
    simp only [Act.put]
    refine Z_step (i := 5) (by kernel_rfl) rfl (fun K hK => ?_)
    go_simp
    refine HD.mono ?_
    rintro e wc ⟨rfl, hd⟩
    have hm := tk_mid HM.out HV.out hd
    have hS1 : wc.heap[M]? = some (.cells (mcs B (.slice ua T.length uc) cl).toArray 50) ∧ wc.heap[w.heap.size]? = some (.cells #[.int .i64 k, .int .i64 g, .int .i64 s] 23) := by
      obtain ⟨v', L', _, _, a, _, b, _⟩ := hm
      exact ⟨a, b⟩
    have HMID : Hid (TkMid base M B v (.slice ua T.length uc) L T cl k g s w wc) := hm
    clear hm hd
    refine hK _ _ (fun _ => hS1) ?_
    clear hK K
    refine Z_step (i := 6) (by kernel_rfl) rfl (fun K hK => ?_)
    go_simp
    refine hK _ _ (fun _ => hS1) (Z_done (by kernel_rfl) ?_ _)
    clear hK K hS1 hS0 HD
    go_wp2_with fail
    go_meet
    exact ⟨rfl, HMID⟩
  case rest =>
    obtain ⟨rfl, HMID⟩ := hcut
    clear HD hS0
    by_cases hE0 : E = 0
    · subst hE0
      go_upto_region 3 with fail
      obtain ⟨v', L', m1, m2, m3, m4, m5, m6, m7, m8, m9⟩ := HMID.out
      obtain ⟨i0, hi, hz0, hz1, hz2⟩ := info_parts (show (Tryd.prog.info? 23).map (fun i => (i.zero, i.size, i.bytes)) = some (some (.agg #[.int .i64 0, .int .i64 0, .int .i64 0]), 3, 24) by kernel_rfl)
      have hMw : M < wc.heap.size := (Array.getElem?_eq_some_iff.1 m3).1
      have hXw : w.heap.size < wc.heap.size := (Array.getElem?_eq_some_iff.1 m5).1
      have hbase : base ≤ wc.heap.size := Nat.le_trans HM.out.low (Nat.le_of_lt hMw)
      have hml : T.length + 1 ≤ maxLen := by have := HT.out; unfold maxLen; omega
      have hkb : (T.length + 1) * 24 ≤ 140737488355328 := by have := HT.out; omega
      have hMu : (Value.slice ua T.length uc).ownBlock ≠ some M := HM.out.nu
      have hXu : some w.heap.size ≠ (Value.slice ua T.length uc).ownBlock := fun e => by have := (HM.out.row.lt _ e.symm).2; omega
      have HX : Hid (_ ∧ _) := ⟨hml, hkb⟩
      clear hml hkb
      refine region_Z 10 (fun w' => w'.cell? ⟨M, 1, none⟩ = some (.slice ua T.length uc) ∧ w'.heap[w.heap.size]? = some (.cells #[.int .i64 k, .int .i64 g, .int .i64 s] 23)) (by kernel_rfl) ?_
      have hS0 : wc.drew.cell? ⟨M, 1, none⟩ = some (.slice ua T.length uc) ∧ wc.drew.heap[w.heap.size]? = some (.cells #[.int .i64 k, .int .i64 g, .int .i64 s] 23) := ⟨cellB (w := wc) m3 1 _ rfl, m5⟩
      refine Z_take (i := 0) (v := ?_) rfl (by kernel_rfl) (by kernel_rfl) (by kernel_rfl) (by kernel_rfl) (fun _ _ _ h => h) (by rfl) hS0 ?_ ?_
      rotate_left
      · (intro w' hSw; obtain ⟨e0, e1⟩ := hSw; have f1 := cellB e1 0 _ rfl; have f2 := cellB e1 1 _ rfl; have f3 := cellB e1 2 _ rfl; go_simp; (try with_reducible rfl))
      simp only [Act.put, List.setIfInBounds_toArray]
      refine Z_take (i := 1) (v := ?_) rfl (by kernel_rfl) (by kernel_rfl) (by kernel_rfl) (by kernel_rfl) (fun _ _ _ h => h) (by rfl) hS0 ?_ ?_
      rotate_left
      · (intro w' hSw; obtain ⟨e0, e1⟩ := hSw; have f1 := cellB e1 0 _ rfl; have f2 := cellB e1 1 _ rfl; have f3 := cellB e1 2 _ rfl; go_simp; (try with_reducible rfl))
      simp only [Act.put]
      refine Z_take (i := 2) (v := ?_) rfl (by kernel_rfl) (by kernel_rfl) (by kernel_rfl) (by kernel_rfl) (fun _ _ _ h => h) (by rfl) hS0 ?_ ?_
      rotate_left
      · (intro w' hSw; obtain ⟨e0, e1⟩ := hSw; have f1 := cellB e1 0 _ rfl; have f2 := cellB e1 1 _ rfl; have f3 := cellB e1 2 _ rfl; go_simp; (try with_reducible rfl))
      simp only [Act.put]
      refine Z_take (i := 3) (v := ?_) rfl (by kernel_rfl) (by kernel_rfl) (by kernel_rfl) (by kernel_rfl) (fun _ _ _ h => h) (by rfl) hS0 ?_ ?_
      rotate_left
      · (intro w' hSw; obtain ⟨e0, e1⟩ := hSw; have f1 := cellB e1 0 _ rfl; have f2 := cellB e1 1 _ rfl; have f3 := cellB e1 2 _ rfl; go_simp; (try with_reducible rfl))
      simp only [Act.put]
      refine Z_take (i := 4) (v := ?_) rfl (by kernel_rfl) (by kernel_rfl) (by kernel_rfl) (by kernel_rfl) (fun _ _ _ h => h) (by rfl) hS0 ?_ ?_
      rotate_left
      · (intro w' hSw; obtain ⟨e0, e1⟩ := hSw; have f1 := cellB e1 0 _ rfl; have f2 := cellB e1 1 _ rfl; have f3 := cellB e1 2 _ rfl; go_simp; (try with_reducible rfl))
      simp only [Act.put]
      refine Z_take (i := 5) (v := ?_) rfl (by kernel_rfl) (by kernel_rfl) (by kernel_rfl) (by kernel_rfl) (fun _ _ _ h => h) (by rfl) hS0 ?_ ?_
      rotate_left
      · (intro w' hSw; obtain ⟨e0, e1⟩ := hSw; have f1 := cellB e1 0 _ rfl; have f2 := cellB e1 1 _ rfl; have f3 := cellB e1 2 _ rfl; go_simp; (try with_reducible rfl))
      simp only [Act.put]
      refine Z_step (i := 6) (by kernel_rfl) rfl (fun K hK => ?_)
      go_simp
      have hbA : Below wc.heap.size wc (wc.alloc (.cells #[.int .i64 k, .int .i64 g, .int .i64 s] 23)).drew := below_drew ((Below.refl _ _).alloc (Nat.le_refl _) _)
      have rMA := (hbA.block M hMw).trans m3
      have rXA := (hbA.block w.heap.size hXw).trans m5
      refine hK _ _ (fun _ => ⟨cellB rMA 1 _ rfl, rXA⟩) ?_
      clear hK K
      have hownA := owns_next m4 hbA
      refine Z_step (i := 7) (by kernel_rfl) rfl (fun K hK => ?_)
      refine step_append_lies _ (by rfl) _ _ 45 (by rfl) base 23 i0 (.agg #[.int .i64 0, .int .i64 0, .int .i64 0]) 3 24 (by kernel_rfl) hi hz0 hz1 hz2 rfl (by decide) _ T.length (ccs T) (by rfl) hownA ⟨wc.heap.size, 0, none⟩ 1 1 [.int .i64 k, .int .i64 g, .int .i64 s] (by rfl) rfl (World.news_of_block (B := wc.heap.size) (heap_alloc_new wc (.cells #[.int .i64 k, .int .i64 g, .int .i64 s] 23))) (by simp [Value.oneCell']) (by decide) HX.out.1 HX.out.2 (Nat.le_trans hbase hbA.size) _ rfl ?_
      intro ga ca w7 hown7 hgrow hat hlt7
      have hsA : (wc.alloc (.cells #[.int .i64 k, .int .i64 g, .int .i64 s] 23)).drew.heap.size = wc.heap.size + 1 := by simp
      have rM7 := (hgrow.block M (Nat.lt_of_lt_of_le hMw hbA.size) (fun e => hMu e.symm)).trans rMA
      have rX7 := (hgrow.block w.heap.size (Nat.lt_of_lt_of_le hXw hbA.size) hXu).trans rXA
      have hS7 : w7.cell? ⟨M, 1, none⟩ = some (.slice ua T.length uc) ∧ w7.heap[w.heap.size]? = some (.cells #[.int .i64 k, .int .i64 g, .int .i64 s] 23) := ⟨cellB rM7 1 _ rfl, rX7⟩
      refine hK _ _ (fun _ => hS7) ?_
      clear hK K
      simp only [Act.put]
      refine Z_step (i := 8) (by kernel_rfl) rfl (fun K hK => ?_)
      go_simp
      refine hK _ _ (fun _ => hS7) ?_
      clear hK K
      refine Z_step (i := 9) (by kernel_rfl) rfl (fun K hK => ?_)
      go_simp
      refine hK _ _ (fun _ => hS7) ?_
      clear hK K
      have t5 := hS7.1
      have ft := frozenB rM7 1
      refine Z_step (i := 10) (by kernel_rfl) rfl (fun K hK => ?_)
      go_simp
      refine hK _ _ (fun h => absurd rfl h) (Z_done (by kernel_rfl) ?_ _)
      clear hK K t5 ft hS7
      have HP : Hid (TkPost base M B v (.slice ua T.length uc) L cl k g s w (w7.setCell ⟨M, 1, none⟩ (.slice (some ⟨ga, 0, none⟩) (T.length + 1) ca))) := by
        have hM := HM.out
        have hs7 : wc.heap.size ≤ w7.heap.size := Nat.le_trans hbA.size hgrow.size
        have hga : ∀ j, j < wc.heap.size → (Value.slice ua T.length uc).ownBlock ≠ some j → ga ≠ j := fun j hj hv => by
          rintro rfl
          rcases hat with hat | hat
          · exact hv hat
          · have : wc.heap.size + 1 = ga := hsA.symm.trans hat.symm; omega
        have hkeep : ∀ j, j < wc.heap.size → j ≠ M → (Value.slice ua T.length uc).ownBlock ≠ some j → (w7.setCell ⟨M, 1, none⟩ (.slice (some ⟨ga, 0, none⟩) (T.length + 1) ca)).heap[j]? = wc.heap[j]? := fun j h1 h2 h3 => (set_far h2 _ _).trans ((hgrow.block j (Nat.lt_of_lt_of_le h1 hbA.size) h3.symm).trans (hbA.block j h1))
        have hs8 : (w7.setCell ⟨M, 1, none⟩ (.slice (some ⟨ga, 0, none⟩) (T.length + 1) ca)).heap.size = w7.heap.size := by simp [World.setCell]
        have hown : ∀ j, (Value.slice (some ⟨ga, 0, none⟩) (T.length + 1) ca).ownBlock = some j → ga = j := fun j hj => by simpa [Value.ownBlock] using hj
        have hgM : ga ≠ M := hga M hMw hMu
        have hrun : cls L' = runC [] (T ++ [(k, g, s)]) := by rw [runC_snoc, ← hM.run]; exact m1
        have hlen : L'.length = L.length + 1 := by
          rw [← cls_len L', m1]
          unfold doC
          rw [HE.out, if_pos rfl, List.length_append, cls_len]; rfl
        refine ⟨v', .slice (some ⟨ga, 0, none⟩) (T.length + 1) ca, L', T ++ [(k, g, s)], m1, ⟨?_, hM.len, m2.kept (by omega) (hkeep B m2.lt (Ne.symm hM.nB) (fun e => (m8 B e).1 rfl)) (fun j hj => hkeep j (m2.own.lt j hj).2 (fun e => m6 (e ▸ hj)) (fun e => (m8 j e).2.1 hj)) (fun i r hr j hj => hkeep j ((m2.ok i r hr).2.2.2 j hj).2.1 (fun e => m7 i r hr (e ▸ hj)) (fun e => (m8 j e).2.2 i r hr hj)), ?_, hM.low, hM.nB, m6, (fun e => hgM (hown M e)), m7, ?_, hrun, ?_⟩, ⟨hgrow.os.trans (hbA.os.trans m9.os), hgrow.tape.trans (hbA.tape.trans m9.tape), hgrow.output.trans (hbA.output.trans m9.output), by have := m9.size; omega, ?_, ?_⟩⟩
        · have := setB rM7 1 (Value.slice (some ⟨ga, 0, none⟩) (T.length + 1) ca)
          exact this
        · rw [List.length_append, ccs_snoc]
          exact owns_kept hown7 (fun j hj => set_far (by have := hown j hj; omega) _ _)
        · intro j hj
          have := hown j hj
          subst this
          refine ⟨fun e => ?_, fun e => ?_, fun i r hr e => ?_⟩
          · rcases hat with hat | hat
            · exact (m8 _ hat).1 e
            · have : wc.heap.size + 1 = ga := hsA.symm.trans hat.symm; have := m2.lt; omega
          · rcases hat with hat | hat
            · exact (m8 _ hat).2.1 e
            · have : wc.heap.size + 1 = ga := hsA.symm.trans hat.symm; have := (m2.own.lt _ e).2; omega
          · rcases hat with hat | hat
            · exact (m8 _ hat).2.2 i r hr e
            · have : wc.heap.size + 1 = ga := hsA.symm.trans hat.symm; have := ((m2.ok i r hr).2.2.2 _ e).2.1; omega
        · rw [List.length_append, hlen, hM.tl]; rfl
        · intro j hj hn
          have := m9.size
          exact (hkeep j (by omega) (fun e => hn (.inl e)) (fun e => hn (.inr (.inr (.inr (.inl e)))))).trans (m9.block j hj hn)
        · intro j hj
          rcases hj with hj | hj | hj | hj | hj
          · exact .inl (.inl hj)
          · exact .inl (.inr (.inl hj))
          · exact m9.new j (.inr (.inr (.inl hj)))
          · have := hown j hj
            subst this
            rcases hat with hat | hat
            · exact .inl (.inr (.inr (.inr (.inl hat))))
            · have := m9.size; have : wc.heap.size + 1 = ga := hsA.symm.trans hat.symm; exact .inr (by omega)
          · exact m9.new j (.inr (.inr (.inr (.inr hj))))
      obtain ⟨W8, hW8⟩ : ∃ W, w7.setCell ⟨M, 1, none⟩ (.slice (some ⟨ga, 0, none⟩) (T.length + 1) ca) = W := ⟨_, rfl⟩
      rw [hW8] at HP ⊢
      clear hW8 rM7 rX7 hgrow hown7 hat hlt7 rMA rXA hownA hbA hsA hi hz0 hz1 hz2 m1 m2 m3 m4 m5 m6 m7 m8 m9
      go_wp2
      go_ret
      exact ⟨rfl, HP.out⟩
    · have HP : Hid (TkPost base M B v (.slice ua T.length uc) L cl k g s w wc) := by
        obtain ⟨v', L', m1, m2, m3, m4, m5, m6, m7, m8, m9⟩ := HMID.out
        have hM := HM.out
        have hd : doC (cls L) k g s = cls L := by unfold doC; rw [HE.out, if_neg hE0]
        exact ⟨v', _, L', T, m1, ⟨m3, hM.len, m2, m4, hM.low, hM.nB, m6, hM.nu, m7, m8, by rw [m1, hd, hM.run], by rw [hM.tl, ← cls_len L', m1, hd, cls_len]⟩, m9⟩
      have hne : (E == 0) = false := by rw [beq_eq_false_iff_ne]; exact hE0
      clear HMID hE0
      go_wp2
      go_ret
      exact ⟨rfl, HP.out⟩
end Go.Proofs.YtfjbhljnledphaaDoor
