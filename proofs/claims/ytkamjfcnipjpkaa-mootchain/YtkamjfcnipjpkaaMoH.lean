/- Moots: MootChain: the moot beside the configuration that the document's Next came to; ref of a command. -/
import Derived.Test.YtkamjfcnipjpkaaMoF
import Derived.Test.YtkamjfcnipjpkaaChW
namespace Go.Proofs.Ytkamjfcnipjpkaa
open Go.RowKit
attribute [local go_sem ↓] Go.wp_at_zero Go.wp_at_succ

/-- The moot beside a configuration of the document's own in block K. -/
structure Rx (w : World) (M B : Nat) (v ut : Value) (L : List Rc) (T : List C3) (cl : List Kn) (K : Nat) (n : Int) (gv : Value) (gs : List Nat) (a b c d : Nat) (wr : World) : Prop where
  mt : MtAt w.heap.size wr M B v ut L T cl
  bel : Below w.heap.size w wr
  blk : wr.heap[K]? = some (.cells (cf n gv a b c d) 29)
  il : Il wr gv (zi gs)
  low : w.heap.size ≤ K
  nK : ¬ MOwn M B v ut L K
  ap : ∀ k, gv.ownBlock = some k → ¬ MOwn M B v ut L k ∧ k ≠ K ∧ k < wr.heap.size
theorem Rx.next {w : World} {M B : Nat} {v ut : Value} {L : List Rc} {T : List C3} {cl : List Kn} {K : Nat} {n : Int} {gv : Value} {gs : List Nat} {a b c d : Nat} {wr w' : World} (h : Rx w M B v ut L T cl K n gv gs a b c d wr) (hb : Below wr.heap.size wr w') : Rx w M B v ut L T cl K n gv gs a b c d w' :=
  ⟨h.mt.next hb, h.bel.trans (hb.mono h.bel.size), (hb.block K (Array.getElem?_eq_some_iff.1 h.blk).1).trans h.blk, h.il.next hb, h.low, h.nK, fun k hk => by
    obtain ⟨x, y, z⟩ := h.ap k hk
    exact ⟨x, y, Nat.lt_of_lt_of_le z hb.size⟩⟩
theorem Rx.did {w : World} {M B : Nat} {v ut : Value} {L : List Rc} {T : List C3} {cl : List Kn} {K : Nat} {n : Int} {gv : Value} {gs : List Nat} {a b c d : Nat} {wr w' : World} (h : Rx w M B v ut L T cl K n gv gs a b c d wr) {v' ut' : Value} {L' : List Rc} {T' : List C3} {cl' : List Kn} (hm : MtAt w.heap.size w' M B v' ut' L' T' cl') (hk : MK M B v ut L v' ut' L' wr w') : Rx w M B v' ut' L' T' cl' K n gv gs a b c d w' :=
  have hlt : K < wr.heap.size := (Array.getElem?_eq_some_iff.1 h.blk).1
  ⟨hm, hk.below h.mt h.bel, (hk.block K hlt h.nK).trans h.blk, Il_blk h.il (fun k e => hk.block k (h.ap k e).2.2 (h.ap k e).1) hk.size, h.low, fun ho => (hk.new K ho).elim h.nK (fun q => by omega), fun k e => by
    obtain ⟨x, y, z⟩ := h.ap k e
    exact ⟨fun ho => (hk.new k ho).elim x (fun q => by omega), y, Nat.lt_of_lt_of_le z hk.size⟩⟩
theorem Rx.put {w : World} {M B : Nat} {v ut : Value} {L : List Rc} {T : List C3} {cl : List Kn} {K : Nat} {n : Int} {gv : Value} {gs : List Nat} {a b c d : Nat} {wr : World} (h : Rx w M B v ut L T cl K n gv gs a b c d wr) {n' : Int} {gv' : Value} {gs' : List Nat} {p q r t : Nat} (hi : Il wr gv' (zi gs')) (ha : ∀ k, gv'.ownBlock = some k → ¬ MOwn M B v ut L k ∧ k ≠ K ∧ k < wr.heap.size) :
    Rx w M B v ut L T cl K n' gv' gs' p q r t (wr.setCells K 0 (cfL n' gv' p q r t)) :=
  ⟨h.mt.kept (by rw [blk_size]; exact Nat.le_refl _) (fun k hk => blk_far (fun e : k = K => h.nK (e ▸ hk)) _ _ _), blk_below h.low _ _ _ h.bel, blk_set h.blk (L := cfL n' gv' p q r t) rfl, Il_ne hi (fun k hk => (ha k hk).2.1), h.low, h.nK, fun k hk => by
    obtain ⟨x, y, z⟩ := ha k hk
    exact ⟨x, y, by rw [blk_size]; exact z⟩⟩
/-- Was it taken, or not? -/
theorem mo_split (cs : List (List Nat × List Nat)) (cl : List Kn) (c n k g s : Int) :
    (moR cs cl c n k g s = (0, true, 0) ∧ moL cs cl c n k g s = doC cs k g s ∧ doE cs k g s = 0) ∨
    (moL cs cl c n k g s = cs ∧ ∃ a b E, moR cs cl c n k g s = (a, b, E) ∧ (E ≠ 0 ∨ (E = 0 ∧ b = false) ∨ (E = 0 ∧ b = true ∧ a ≠ 0))) := by
  have stay : moN cl c n = false → moL cs cl c n k g s = cs := fun h => by unfold moL; rw [h]; rfl
  rcases mo_cases cs cl c n k g s with ⟨_, q, hN⟩ | ⟨_, _, q, hN⟩ | ⟨_, _, q, hN⟩ | ⟨_, _, q, hN⟩
  · exact .inr ⟨stay hN, _, _, _, q, .inl (by decide)⟩
  · exact .inr ⟨stay hN, _, _, _, q, .inl (by decide)⟩
  · exact .inr ⟨stay hN, _, _, _, q, .inr (.inl ⟨rfl, rfl⟩)⟩
  · by_cases hE : doE cs k g s = 0
    · refine .inl ⟨by rw [q, hE], by unfold moL; rw [if_pos hN], hE⟩
    · refine .inr ⟨?_, _, _, _, q, .inr (.inr ⟨rfl, rfl, hE⟩)⟩
      unfold moL
      rw [if_pos hN]
      unfold doC
      rw [if_neg hE]
theorem cfg_same {L2 L : List Rc} (h : cls L2 = cls L) : L2.length = L.length ∧ cfgAt L2 L2.length = cfgAt L L.length := by
  have hl : L2.length = L.length := by rw [← cls_len L2, h, cls_len]
  exact ⟨hl, by rw [cfgAt_cls, cfgAt_cls, h, hl]⟩
theorem cfg_next {L2 L : List Rc} {k g s : Int} (h : cls L2 = doC (cls L) k g s) (hE : doE (cls L) k g s = 0) : L2.length = L.length + 1 ∧ cfgAt L2 L2.length = nextC (cfgAt L L.length) k g s := by
  unfold doC at h
  rw [if_pos hE] at h
  have hl : L2.length = L.length + 1 := by rw [← cls_len L2, h, List.length_append, cls_len]; rfl
  refine ⟨hl, ?_⟩
  rw [cfgAt_cls, cfgAt_cls, h, hl]
  show ((cls L ++ [nextC (cfgP (cls L) (cls L).length) k g s])[L.length]?).getD ([], []) = _
  rw [List.getElem?_append_right (by rw [cls_len]; exact Nat.le_refl _), cls_len, Nat.sub_self]
  rfl
theorem nx_taken {L : List Rc} {gs : List Nat} {a b c d : Nat} {k g s : Int} (h : cfgAt L L.length = (gs, [a, b, c, d])) (hE : doE (cls L) k g s = 0) : nxE (L.length : Int) (zi gs) [(a : Int), b, c, d] k g s = 0 := by
  unfold doE at hE
  rw [cls_len] at hE
  by_cases h4 : 40 ≤ L.length
  · rw [if_pos h4] at hE; cases hE
  · rw [if_neg h4, ← cfgAt_cls, h] at hE
    exact hE
theorem Try.size41 : (Try.prog.info? 41).map (·.size) = some 3 := by kernel_rfl
theorem res41 {W : World} {R : Nat} {L : List Value} (h : W.rangeAt R 0 L) (hl : L.length = 3) : (loadVar 41 ⟨R, 0, none⟩).run Try.prog W = .ok (.agg L.toArray) W :=
  run_loadVar_mid W R 0 41 L _ h Try.underlying41 rfl (by rw [hl]; exact Try.size41)
set_option maxRecDepth 20000 in
set_option maxHeartbeats 1000000 in
theorem mref_any (k g s : Int) (w : World) :
    Calls Try.prog 10 #[.agg #[.int .i64 k, .int .i64 g, .int .i64 s]] w fun e W' => e = .returned (.agg #[.int .i64 k, .int .i64 g, .int .i64 s]) ∧ Below w.heap.size w W' := by
  obtain ⟨W0, hW0⟩ : ∃ W, (w.alloc (.cells #[.int .i64 k, .int .i64 g, .int .i64 s] 31)).alloc (.cells #[.int .i64 0, .int .i64 0, .int .i64 0] 41) = W := ⟨_, rfl⟩
  have hb0 : Below w.heap.size w W0 := by
    rw [← hW0]
    exact ((Below.refl _ w).alloc (Nat.le_refl _) _).alloc (by simp) _
  have r0 : W0.heap[w.heap.size]? = some (.cells #[.int .i64 k, .int .i64 g, .int .i64 s] 31) := by
    rw [← hW0]
    exact (Below.heap_alloc _ _ _ (by simp)).trans (heap_alloc_new _ _)
  have r1 : W0.heap[w.heap.size + 1]? = some (.cells #[.int .i64 0, .int .i64 0, .int .i64 0] 41) := by
    rw [← hW0]
    have := heap_alloc_new (w.alloc (.cells #[.int .i64 k, .int .i64 g, .int .i64 s] 31)) (.cells #[.int .i64 0, .int .i64 0, .int .i64 0] 41)
    rwa [show (w.alloc (.cells #[.int .i64 k, .int .i64 g, .int .i64 s] 31)).heap.size = w.heap.size + 1 by simp] at this
  have HV : Hid ((w.alloc (.cells #[.int .i64 k, .int .i64 g, .int .i64 s] 31)).alloc (.cells #[.int .i64 0, .int .i64 0, .int .i64 0] 41) = W0) := hW0
  have x0 := cellB r0 0 _ rfl
  have x1 := cellB r0 1 _ rfl
  have x2 := cellB r0 2 _ rfl
  have R1 : Hid (W0.heap[w.heap.size + 1]? = some (.cells #[.int .i64 0, .int .i64 0, .int .i64 0] 41)) := r1
  have KS : Hid (W0.there (w.heap.size + 1) 0 3) := blk_there r1 0 3 (Nat.le_refl _)
  clear hW0 r0 r1
  go_enter Try.func10, Try.ntmps10
  go_upto_region 1 with fail
  rw [HV.out]
  clear HV
  go_wp2_with (first
    | (refine wpList_store_mid rfl 41 _ _ rfl (w.heap.size + 1) 0 #[.int .i64 k, .int .i64 g, .int .i64 s] rfl rfl KS.out Try.size41 (by simp [Value.oneCell']) ?_))
  have k4 := blk_range (blk_set R1.out (L := [.int .i64 k, .int .i64 g, .int .i64 s]) rfl)
  exact bodyPost_ret (v := .agg #[.int .i64 k, .int .i64 g, .int .i64 s]) (results_one rfl rfl (res41 k4 rfl)) rfl ⟨rfl, blk_below (by omega) _ _ _ hb0⟩
end Go.Proofs.Ytkamjfcnipjpkaa
