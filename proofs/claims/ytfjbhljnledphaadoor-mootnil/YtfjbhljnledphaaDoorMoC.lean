/- Moots: Do, walked. -/
import Derived.Test.YtfjbhljnledphaaDoorMoB
namespace Go.Proofs.YtfjbhljnledphaaDoor
open Go.RowKit
attribute [local go_sem ↓] Go.wp_at_zero Go.wp_at_succ

theorem MDo_bad (c n k g s : Int) (p : Option Addr) (w : World) (hA : isA c n = false) :
    Calls Tryd.prog 4 #[.pointer p, .int .i64 c, .int .i64 n, .agg #[.int .i64 k, .int .i64 g, .int .i64 s]] w fun e W' => e = .returned (.tuple #[.int .i64 0, .bool false, .int .i64 1]) ∧ Below w.heap.size w W' := by
  have hb0 : Below w.heap.size w (w.alloc (.cells #[.int .i64 k, .int .i64 g, .int .i64 s] 23)) := (Below.refl _ w).alloc (Nat.le_refl _) _
  have hI := fun W => isAsker_any c n W
  rw [hA] at hI
  go_enter Tryd.func4, Tryd.ntmps4
  go_wp2_with (go_at_call 9; refine (hI _).mono ?_; rintro e w1 ⟨rfl, h9⟩; subst w1)
  exact bodyPost_ret (v := .tuple #[.int .i64 0, .bool false, .int .i64 1]) (by simp [results, Tryd.f4, go_sem]) rfl ⟨rfl, hb0⟩
set_option maxRecDepth 20000 in
theorem MDo_less (c n m : Nat) (a k g s : Int) (base M B : Nat) (v u : Value) (L : List Rc) (T : List C3) (cl : List Kn) (w : World) (h : MtAt base w M B v u L T cl) (hc : cl[c]? = some (m, a)) (hA : isA c n = true) (hn : n < m) :
    Calls Tryd.prog 4 #[.pointer (some ⟨M, 0, none⟩), .int .i64 c, .int .i64 n, .agg #[.int .i64 k, .int .i64 g, .int .i64 s]] w fun e W' => e = .returned (.tuple #[.int .i64 0, .bool false, .int .i64 6]) ∧ Below w.heap.size w W' := by
  have hb0 : Below w.heap.size w (w.alloc (.cells #[.int .i64 k, .int .i64 g, .int .i64 s] 23)) := (Below.refl _ w).alloc (Nat.le_refl _) _
  have h0 := h.next hb0
  have hc8 : c < 8 := by rw [← h.len]; exact (List.getElem?_eq_some_iff.1 hc).1
  have x1 := cellB h0.blk (2 + c * 2) _ (mcs_at B u cl c _ hc).1
  have hI := fun W => isAsker_any c n W
  rw [hA] at hI
  have c0 : (0 : Int) ≤ (c : Int) := by omega
  have c1 : (c : Int) < 8 := by omega
  clear h h0 hc
  go_enter Tryd.func4, Tryd.ntmps4
  go_wp2_with (go_at_call 9; refine (hI _).mono ?_; rintro e w1 ⟨rfl, h9⟩; subst w1)
  exact bodyPost_ret (v := .tuple #[.int .i64 0, .bool false, .int .i64 6]) (by simp [results, Tryd.f4, go_sem]) rfl ⟨rfl, hb0⟩
set_option maxRecDepth 20000 in
theorem MDo_same (c n : Nat) (a k g s : Int) (base M B : Nat) (v u : Value) (L : List Rc) (T : List C3) (cl : List Kn) (w : World) (h : MtAt base w M B v u L T cl) (hc : cl[c]? = some (n, a)) (hA : isA c n = true) :
    Calls Tryd.prog 4 #[.pointer (some ⟨M, 0, none⟩), .int .i64 c, .int .i64 n, .agg #[.int .i64 k, .int .i64 g, .int .i64 s]] w fun e W' => e = .returned (.tuple #[.int .i64 a, .bool false, .int .i64 0]) ∧ Below w.heap.size w W' := by
  have hb0 : Below w.heap.size w (w.alloc (.cells #[.int .i64 k, .int .i64 g, .int .i64 s] 23)) := (Below.refl _ w).alloc (Nat.le_refl _) _
  have h0 := h.next hb0
  have hc8 : c < 8 := by rw [← h.len]; exact (List.getElem?_eq_some_iff.1 hc).1
  have x1 := cellB h0.blk (2 + c * 2) _ (mcs_at B u cl c _ hc).1
  have x2 := cellB h0.blk (2 + c * 2 + 1) _ (mcs_at B u cl c _ hc).2
  have hI := fun W => isAsker_any c n W
  rw [hA] at hI
  have c0 : (0 : Int) ≤ (c : Int) := by omega
  have c1 : (c : Int) < 8 := by omega
  clear h h0 hc
  go_enter Tryd.func4, Tryd.ntmps4
  go_wp2_with (go_at_call 9; refine (hI _).mono ?_; rintro e w1 ⟨rfl, h9⟩; subst w1)
  exact bodyPost_ret (v := .tuple #[.int .i64 a, .bool false, .int .i64 0]) (by simp [results, Tryd.f4, go_sem]) rfl ⟨rfl, hb0⟩
def MdPost (base M B : Nat) (v u : Value) (L : List Rc) (cl : List Kn) (c n : Nat) (k g s : Int) (w W' : World) : Prop :=
  ∃ v' u' L' T', cls L' = doC (cls L) k g s ∧ MtAt base W' M B v' u' L' T' (cl.set c (n, doE (cls L) k g s)) ∧ MK M B v u L v' u' L' w W'
theorem MK.pre {M B : Nat} {v u v' u' : Value} {L L' : List Rc} {w w0 W' : World} (hb : Below w.heap.size w w0) (h : MK M B v u L v' u' L' w0 W') : MK M B v u L v' u' L' w W' :=
  ⟨h.os.trans hb.os, h.tape.trans hb.tape, h.output.trans hb.output, Nat.le_trans hb.size h.size, fun k hk hn => (h.block k (Nat.lt_of_lt_of_le hk hb.size) hn).trans (hb.block k hk), fun k hk => (h.new k hk).imp id (fun e => Nat.le_trans hb.size e)⟩
theorem MK.set {M B : Nat} {v u v' u' : Value} {L L' : List Rc} {w W' : World} (h : MK M B v u L v' u' L' w W') (o : Nat) (l : List Value) : MK M B v u L v' u' L' w (W'.setCells M o l) :=
  ⟨by rw [← h.os]; exact (blk_below (w0 := W') (Nat.zero_le M) l o W' (Below.refl 0 W')).os, by rw [← h.tape]; exact (blk_below (w0 := W') (Nat.zero_le M) l o W' (Below.refl 0 W')).tape, by rw [← h.output]; exact (blk_below (w0 := W') (Nat.zero_le M) l o W' (Below.refl 0 W')).output, by rw [blk_size]; exact h.size, fun k hk hn => (blk_far (fun e => hn (.inl e)) _ _ _).trans (h.block k hk hn), h.new⟩
theorem Tryd.size43 : (Tryd.prog.info? 43).map (·.size) = some 2 := by kernel_rfl
set_option maxRecDepth 20000 in
set_option maxHeartbeats 1000000 in
theorem MDo_new (c n m : Nat) (a k g s : Int) (base M B : Nat) (v u : Value) (L : List Rc) (T : List C3) (cl : List Kn) (w : World) (h : MtAt base w M B v u L T cl) (hc : cl[c]? = some (m, a)) (hA : isA c n = true) (hn : m < n) :
    Calls Tryd.prog 4 #[.pointer (some ⟨M, 0, none⟩), .int .i64 c, .int .i64 n, .agg #[.int .i64 k, .int .i64 g, .int .i64 s]] w fun e W' => e = .returned (.tuple #[.int .i64 (doE (cls L) k g s), .bool true, .int .i64 0]) ∧ MdPost base M B v u L cl c n k g s w W' := by
  have hb0 : Below w.heap.size w (w.alloc (.cells #[.int .i64 k, .int .i64 g, .int .i64 s] 23)) := (Below.refl _ w).alloc (Nat.le_refl _) _
  have r0 := heap_alloc_new w (.cells #[.int .i64 k, .int .i64 g, .int .i64 s] 23)
  have h0 := h.next hb0
  have hc8 : c < 8 := by rw [← h.len]; exact (List.getElem?_eq_some_iff.1 hc).1
  have x1 := cellB h0.blk (2 + c * 2) _ (mcs_at B u cl c _ hc).1
  have hI := fun W => isAsker_any c n W
  rw [hA] at hI
  have hTk := take_any k g s base M B v u L T cl (w.alloc (.cells #[.int .i64 k, .int .i64 g, .int .i64 s] 23)).drew (h.next (below_drew hb0))
  have hsz : (w.alloc (.cells #[.int .i64 k, .int .i64 g, .int .i64 s] 23)).heap.size = w.heap.size + 1 := by simp
  obtain ⟨W0, hW0⟩ : ∃ W, w.alloc (.cells #[.int .i64 k, .int .i64 g, .int .i64 s] 23) = W := ⟨_, rfl⟩
  rw [hW0] at hb0 r0 h0 x1 hTk hsz
  have HV : Hid (w.alloc (.cells #[.int .i64 k, .int .i64 g, .int .i64 s] 23) = W0) := hW0
  have HM : Hid (MtAt base w M B v u L T cl) := h
  have HB : Hid (Below w.heap.size w W0 ∧ W0.heap.size = w.heap.size + 1) := ⟨hb0, hsz⟩
  have hS0 : W0.drew.heap[w.heap.size]? = some (.cells #[.int .i64 k, .int .i64 g, .int .i64 s] 23) := r0
  obtain ⟨E, hE⟩ : ∃ E, doE (cls L) k g s = E := ⟨_, rfl⟩
  have HE : Hid (doE (cls L) k g s = E) := hE
  rw [hE] at hTk ⊢
  have c0 : (0 : Int) ≤ (c : Int) := by omega
  have c1 : (c : Int) < 8 := by omega
  clear hW0 h h0 r0 hb0 hE hc hsz
  go_enter Tryd.func4, Tryd.ntmps4
  go_upto_region 1 with fail
  rw [HV.out]
  clear HV
  go_upto_region 10 with (go_at_call 9; refine (hI _).mono ?_; rintro e w1 ⟨rfl, h9⟩; subst w1)
  clear x1 hI
  refine region_Z 99 (fun w' => w'.heap[w.heap.size]? = some (.cells #[.int .i64 k, .int .i64 g, .int .i64 s] 23)) (by kernel_rfl) ?_
  refine Y_take (i := 0) (v := ?_) rfl (by kernel_rfl) (by kernel_rfl) (by kernel_rfl) (by kernel_rfl) (fun _ _ _ h => h) (by rfl) hS0 ?_ ?_
  rotate_left
  · (intro w' hSw; go_simp; (try with_reducible rfl))
  simp only [Act.put, List.setIfInBounds_toArray]
  refine Y_take (i := 1) (v := ?_) rfl (by kernel_rfl) (by kernel_rfl) (by kernel_rfl) (by kernel_rfl) (fun _ _ _ h => h) (by rfl) hS0 ?_ ?_
  rotate_left
  · (intro w' hSw; go_simp; (try with_reducible rfl))
  simp only [Act.put]
  refine Y_take (i := 2) (v := ?_) rfl (by kernel_rfl) (by kernel_rfl) (by kernel_rfl) (by kernel_rfl) (fun _ _ _ h => h) (by rfl) hS0 ?_ ?_
  rotate_left
  · (intro w' hSw; go_simp; (try with_reducible rfl))
  simp only [Act.put]
  refine Y_take (i := 3) (v := ?_) rfl (by kernel_rfl) (by kernel_rfl) (by kernel_rfl) (by kernel_rfl) (fun _ _ _ h => h) (by rfl) hS0 ?_ ?_
  rotate_left
  · (intro w' hSw; go_simp; (try with_reducible rfl))
  simp only [Act.put]
  refine Y_take (i := 4) (v := ?_) rfl (by kernel_rfl) (by kernel_rfl) (by kernel_rfl) (by kernel_rfl) (fun _ _ _ h => h) (by rfl) hS0 ?_ ?_
  rotate_left
  · (intro w' hSw; go_simp; (try with_reducible rfl))
  simp only [Act.put]
  refine Y_take (i := 5) (v := ?_) rfl (by kernel_rfl) (by kernel_rfl) (by kernel_rfl) (by kernel_rfl) (fun _ _ _ h => h) (by rfl) hS0 ?_ ?_
  rotate_left
  · (intro w' hSw; have f1 := cellB hSw 0 _ rfl; have f2 := cellB hSw 1 _ rfl; have f3 := cellB hSw 2 _ rfl; go_simp; (try with_reducible rfl))
  simp only [Act.put]
  refine Z_step (i := 6) (by kernel_rfl) rfl (fun K hK => ?_)
  go_simp
  refine hTk.mono ?_
  rintro e w1 ⟨rfl, v', u', L', T', t1, t2, t3⟩
  have hM := HM.out
  obtain ⟨hb0, hsz⟩ := HB.out
  have t4 := MK.pre (below_drew hb0) t3
  have hS1 : w1.heap[w.heap.size]? = some (.cells #[.int .i64 k, .int .i64 g, .int .i64 s] 23) := (t3.block w.heap.size (by show w.heap.size < W0.heap.size; omega) (fun ho => by have := (hM.own_lt ho).2; omega)).trans hS0
  have hsM : (mcs B u' cl).toArray.size = 18 := by rw [List.size_toArray]; exact mcs_len B u' cl t2.len
  refine hK _ _ (fun _ => hS1) ?_
  clear hK K
  refine Z_step (i := 7) (by kernel_rfl) rfl (fun K hK => ?_)
  go_simp
  refine hK _ _ (fun _ => hS1) ?_
  clear hK K
  refine Z_step (i := 8) (by kernel_rfl) rfl (fun K hK => ?_)
  go_simp
  refine hK _ _ (fun _ => hS1) ?_
  clear hK K
  refine Z_step (i := 9) (by kernel_rfl) rfl (fun K hK => ?_)
  refine step_store_mid (by rfl) 43 _ _ (by rfl) M (2 + c * 2) #[.int .i64 (n : Int), .int .i64 E] (by rfl) (by rfl) (blk_there t2.blk (2 + c * 2) 2 (by rw [hsM]; omega)) Tryd.size43 (by simp [Value.oneCell']) ?_
  have t5 := t2.put c hc8 n E
  have t6 := t4.set (2 + c * 2) [.int .i64 (n : Int), .int .i64 E]
  have hS2 : (w1.setCells M (2 + c * 2) [.int .i64 (n : Int), .int .i64 E]).heap[w.heap.size]? = some (.cells #[.int .i64 k, .int .i64 g, .int .i64 s] 23) := (blk_far (by have := hM.lt; omega) _ _ _).trans hS1
  refine hK _ _ (fun _ => hS2) (Z_done (by kernel_rfl) ?_ _)
  clear hK K
  have x2 := cellB t5.blk (2 + c * 2 + 1) _ (mcs_at B u' (cl.set c (n, E)) c (n, E) (by rw [List.getElem?_set_self (by rw [t2.len]; exact hc8)])).2
  have HP : Hid (MdPost base M B v u L cl c n k g s w (w1.setCells M (2 + c * 2) [.int .i64 (n : Int), .int .i64 E])) := ⟨v', u', L', T', t1, by rw [HE.out]; exact t5, t6⟩
  obtain ⟨W2, hW2⟩ : ∃ W, w1.setCells M (2 + c * 2) [.int .i64 (n : Int), .int .i64 E] = W := ⟨_, rfl⟩
  have hx2 : W2.cell? ⟨M, 2 + c * 2 + 1, none⟩ = some (.int .i64 E) := by rw [← hW2]; exact x2
  rw [hW2] at HP
  rw [hW2]
  clear hW2 t1 t2 t3 t4 t5 t6 hS1 hS2 hM hb0 hsz hsM x2 hS0 HM HB
  go_wp2
  exact bodyPost_ret (v := .tuple #[.int .i64 E, .bool true, .int .i64 0]) (by simp [results, Tryd.f4, go_sem]) rfl ⟨rfl, HP.out⟩
end Go.Proofs.YtfjbhljnledphaaDoor
