/- Moots: Do whole; Get, Last; one, walked. -/
import Derived.Test.YtfjbhljnledphaaDoorMoC
namespace Go.Proofs.YtfjbhljnledphaaDoor
open Go.RowKit
attribute [local go_sem ↓] Go.wp_at_zero Go.wp_at_succ

/-- What is known of a client. -/
def kn (cl : List Kn) (c : Int) : Kn := cl.getD c.toNat (0, 0)
/-- Is a command to be done now? -/
def moN (cl : List Kn) (c n : Int) : Bool := isA c n && decide (((kn cl c).1 : Int) < n)
/-- What a moot's Do tells. -/
def moR (cs : List (List Nat × List Nat)) (cl : List Kn) (c n k g s : Int) : Int × Bool × Int :=
  if isA c n = true then (if n < ((kn cl c).1 : Int) then (0, false, 6) else if n = ((kn cl c).1 : Int) then ((kn cl c).2, false, 0) else (doE cs k g s, true, 0)) else (0, false, 1)
def moC (cs : List (List Nat × List Nat)) (cl : List Kn) (c n k g s : Int) : List Kn := if moN cl c n = true then cl.set c.toNat (n.toNat, doE cs k g s) else cl
def moL (cs : List (List Nat × List Nat)) (cl : List Kn) (c n k g s : Int) : List (List Nat × List Nat) := if moN cl c n = true then doC cs k g s else cs
def MaPost (base M B : Nat) (v u : Value) (L : List Rc) (cl : List Kn) (c n k g s : Int) (w W' : World) : Prop :=
  ∃ v' u' L' T', cls L' = moL (cls L) cl c n k g s ∧ MtAt base W' M B v' u' L' T' (moC (cls L) cl c n k g s) ∧ MK M B v u L v' u' L' w W'
theorem MDo_all (c n k g s : Int) (base M B : Nat) (v u : Value) (L : List Rc) (T : List C3) (cl : List Kn) (w : World) (h : MtAt base w M B v u L T cl) :
    Calls Tryd.prog 4 #[.pointer (some ⟨M, 0, none⟩), .int .i64 c, .int .i64 n, .agg #[.int .i64 k, .int .i64 g, .int .i64 s]] w fun e W' => e = .returned (.tuple #[.int .i64 (moR (cls L) cl c n k g s).1, .bool (moR (cls L) cl c n k g s).2.1, .int .i64 (moR (cls L) cl c n k g s).2.2]) ∧ MaPost base M B v u L cl c n k g s w W' := by
  have stay : moN cl c n = false → ∀ W', Below w.heap.size w W' → MaPost base M B v u L cl c n k g s w W' := fun hf W' hb => ⟨v, u, L, T, by unfold moL; rw [hf]; rfl, by unfold moC; rw [hf]; exact h.next hb, MK.of_below hb⟩
  cases hA : isA c n with
  | false =>
    refine (MDo_bad c n k g s (some ⟨M, 0, none⟩) w hA).mono ?_
    rintro e W' ⟨rfl, hb⟩
    exact ⟨by unfold moR; rw [hA]; rfl, stay (by unfold moN; rw [hA]; rfl) W' hb⟩
  | true =>
    have hA2 := hA
    unfold isA at hA2
    rw [Bool.and_eq_true] at hA2
    obtain ⟨h1, h2⟩ := wi_t hA2.1
    obtain ⟨h3, h4⟩ := wi_t hA2.2
    obtain ⟨c, rfl⟩ := Int.eq_ofNat_of_zero_le h1
    obtain ⟨n, rfl⟩ := Int.eq_ofNat_of_zero_le (show (0 : Int) ≤ n by omega)
    obtain ⟨⟨m, a⟩, hc⟩ : ∃ x, cl[c]? = some x := ⟨_, List.getElem?_eq_getElem (by rw [h.len]; omega)⟩
    have hk : kn cl (c : Int) = (m, a) := by unfold kn; rw [Int.toNat_natCast, List.getD_eq_getElem?_getD, hc]; rfl
    rcases Nat.lt_trichotomy n m with hl | hl | hl
    · refine (MDo_less c n m a k g s base M B v u L T cl w h hc hA hl).mono ?_
      rintro e W' ⟨rfl, hb⟩
      exact ⟨by unfold moR; rw [hA, hk, if_pos rfl, if_pos (by show (n : Int) < (m : Int); omega)], stay (by unfold moN; rw [hA, hk, Bool.true_and, decide_eq_false_iff_not]; show ¬ (m : Int) < (n : Int); omega) W' hb⟩
    · subst hl
      refine (MDo_same c n a k g s base M B v u L T cl w h hc hA).mono ?_
      rintro e W' ⟨rfl, hb⟩
      exact ⟨by unfold moR; rw [hA, hk, if_pos rfl, if_neg (by show ¬ (n : Int) < (n : Int); omega), if_pos rfl], stay (by unfold moN; rw [hA, hk, Bool.true_and, decide_eq_false_iff_not]; show ¬ (n : Int) < (n : Int); omega) W' hb⟩
    · refine (MDo_new c n m a k g s base M B v u L T cl w h hc hA hl).mono ?_
      rintro e W' ⟨rfl, v', u', L', T', t1, t2, t3⟩
      have hN : moN cl c n = true := by unfold moN; rw [hA, hk, Bool.true_and, decide_eq_true_iff]; show (m : Int) < (n : Int); omega
      exact ⟨by unfold moR; rw [hA, hk, if_pos rfl, if_neg (by show ¬ (n : Int) < (m : Int); omega), if_neg (by show ¬ (n : Int) = (m : Int); omega)], v', u', L', T', by unfold moL; rw [hN]; exact t1, by unfold moC; rw [hN, Int.toNat_natCast, Int.toNat_natCast]; exact t2, t3⟩
set_option maxRecDepth 20000 in
set_option maxHeartbeats 4000000 in
theorem MLast_any (base M B : Nat) (v u : Value) (L : List Rc) (T : List C3) (cl : List Kn) (w : World) (h : MtAt base w M B v u L T cl) :
    Calls Tryd.prog 6 #[.pointer (some ⟨M, 0, none⟩)] w fun e W' => ∃ x, e = .returned x ∧ GtPost L L.length w x W' := by
  have hb0 : Below w.heap.size w (w.alloc (.cells (cf 0 (.slice none 0 0) 0 0 0 0) 33)) := (Below.refl _ w).alloc (Nat.le_refl _) _
  have r0 := heap_alloc_new w (.cells (cf 0 (.slice none 0 0) 0 0 0 0) 33)
  have h0 := h.next hb0
  have hsz : (w.alloc (.cells (cf 0 (.slice none 0 0) 0 0 0 0) 33)).heap.size = w.heap.size + 1 := by simp
  have x0 := cellB h0.blk 0 _ rfl
  have hG := Last_any B base v L _ h0.ch (by have := h.forty; omega)
  obtain ⟨W0, hW0⟩ : ∃ W, w.alloc (.cells (cf 0 (.slice none 0 0) 0 0 0 0) 33) = W := ⟨_, rfl⟩
  rw [hW0] at hb0 r0 x0 hsz hG
  have HV : Hid (w.alloc (.cells (cf 0 (.slice none 0 0) 0 0 0 0) 33) = W0) := hW0
  have R0 : Hid (W0.heap[w.heap.size]? = some (.cells (cf 0 (.slice none 0 0) 0 0 0 0) 33)) := r0
  have HSZ : Hid (W0.heap.size = w.heap.size + 1 ∧ Below w.heap.size w W0) := ⟨hsz, hb0⟩
  obtain ⟨gs, hgs⟩ : ∃ gs, (cfgAt L L.length).1 = gs := ⟨_, rfl⟩
  have HGS : Hid ((cfgAt L L.length).1 = gs) := hgs
  clear hW0 r0 h h0 hsz hgs hb0
  go_enter Tryd.func6, Tryd.ntmps6
  go_upto_region 1 with fail
  rw [HV.out]
  clear HV
  go_wp2_with (first
    | (go_at_call 12; refine hG.mono ?_; rintro e w1 ⟨x, rfl, u1, a, b, c, d, j1, rfl, j3, j4, j5⟩; rw [HGS.out] at j3; have hil := j3; obtain ⟨ua, uc, rfl⟩ := j3.slice; have R2 : Hid (w1.heap[w.heap.size]? = some (.cells (cf 0 (.slice none 0 0) 0 0 0 0) 33)) := (j5.block _ (by have := HSZ.out.1; omega)).trans R0.out; have HJ : Hid (_ ∧ _ ∧ _ ∧ _) := ⟨j1, hil, j4, j5⟩; clear j1 j3 hil j4 j5 hG)
    | (refine wpList_store_mid rfl 33 _ _ rfl w.heap.size 0 (cf L.length (.slice ua (zi gs).length uc) a b c d) rfl rfl (blk_there R2.out 0 6 (Nat.le_refl _)) Tryd.size33 (cf_ones _ _ _ _ _ _ _ _) ?_))
  obtain ⟨j1, hil, j4, j5⟩ := HJ.out
  obtain ⟨hsz, hb0⟩ := HSZ.out
  have k4 := blk_range (blk_set R2.out (L := cfL L.length (.slice ua (zi gs).length uc) a b c d) rfl)
  refine bodyPost_ret (v := .agg (cf L.length (.slice ua (zi gs).length uc) a b c d)) (results_one rfl rfl (res25 k4 rfl)) rfl ⟨_, rfl, .slice ua (zi gs).length uc, a, b, c, d, j1, rfl, ?_, fun k hk => by have := j4 k hk; omega, blk_below (Nat.le_refl _) _ _ _ (hb0.trans (j5.mono hb0.size))⟩
  rw [HGS.out]
  exact Il_keep hil (fun k hk => by have := j4 k hk; omega)
set_option maxRecDepth 20000 in
set_option maxHeartbeats 4000000 in
theorem MGet_ok (n : Nat) (base M B : Nat) (v u : Value) (L : List Rc) (T : List C3) (cl : List Kn) (w : World) (h : MtAt base w M B v u L T cl) (hn : n ≤ L.length) :
    Calls Tryd.prog 5 #[.pointer (some ⟨M, 0, none⟩), .int .i64 n] w fun e W' => ∃ x, e = .returned (.tuple #[x, .int .i64 0]) ∧ GtPost L n w x W' := by
  have hb0 : Below w.heap.size w (w.alloc (.cells (cf 0 (.slice none 0 0) 0 0 0 0) 33)) := (Below.refl _ w).alloc (Nat.le_refl _) _
  have r0 := heap_alloc_new w (.cells (cf 0 (.slice none 0 0) 0 0 0 0) 33)
  have h0 := h.next hb0
  have hsz : (w.alloc (.cells (cf 0 (.slice none 0 0) 0 0 0 0) 33)).heap.size = w.heap.size + 1 := by simp
  have x0 := cellB h0.blk 0 _ rfl
  have hG := Get_ok n B base v L _ h0.ch (by have := h.forty; omega) hn
  obtain ⟨W0, hW0⟩ : ∃ W, w.alloc (.cells (cf 0 (.slice none 0 0) 0 0 0 0) 33) = W := ⟨_, rfl⟩
  rw [hW0] at hb0 r0 x0 hsz hG
  have HV : Hid (w.alloc (.cells (cf 0 (.slice none 0 0) 0 0 0 0) 33) = W0) := hW0
  have R0 : Hid (W0.heap[w.heap.size]? = some (.cells (cf 0 (.slice none 0 0) 0 0 0 0) 33)) := r0
  have HSZ : Hid (W0.heap.size = w.heap.size + 1 ∧ Below w.heap.size w W0) := ⟨hsz, hb0⟩
  obtain ⟨gs, hgs⟩ : ∃ gs, (cfgAt L n).1 = gs := ⟨_, rfl⟩
  have HGS : Hid ((cfgAt L n).1 = gs) := hgs
  clear hW0 r0 h h0 hsz hgs hb0 hn
  go_enter Tryd.func5, Tryd.ntmps5
  go_upto_region 1 with fail
  rw [HV.out]
  clear HV
  go_wp2_with (first
    | (go_at_call 11; refine hG.mono ?_; rintro e w1 ⟨x, rfl, u1, a, b, c, d, j1, rfl, j3, j4, j5⟩; rw [HGS.out] at j3; have hil := j3; obtain ⟨ua, uc, rfl⟩ := j3.slice; have R2 : Hid (w1.heap[w.heap.size]? = some (.cells (cf 0 (.slice none 0 0) 0 0 0 0) 33)) := (j5.block _ (by have := HSZ.out.1; omega)).trans R0.out; have HJ : Hid (_ ∧ _ ∧ _ ∧ _) := ⟨j1, hil, j4, j5⟩; clear j1 j3 hil j4 j5 hG)
    | (refine wpList_store_mid rfl 33 _ _ rfl w.heap.size 0 (cf n (.slice ua (zi gs).length uc) a b c d) rfl rfl (blk_there R2.out 0 6 (Nat.le_refl _)) Tryd.size33 (cf_ones _ _ _ _ _ _ _ _) ?_))
  obtain ⟨j1, hil, j4, j5⟩ := HJ.out
  obtain ⟨hsz, hb0⟩ := HSZ.out
  have k4 := blk_range (blk_set R2.out (L := cfL n (.slice ua (zi gs).length uc) a b c d) rfl)
  refine bodyPost_ret (v := .tuple #[.agg (cf n (.slice ua (zi gs).length uc) a b c d), .int .i64 0]) (results_two rfl rfl rfl (res25 k4 rfl)) rfl ⟨_, rfl, .slice ua (zi gs).length uc, a, b, c, d, j1, rfl, ?_, fun k hk => by have := j4 k hk; omega, blk_below (Nat.le_refl _) _ _ _ (hb0.trans (j5.mono hb0.size))⟩
  rw [HGS.out]
  exact Il_keep hil (fun k hk => by have := j4 k hk; omega)
end Go.Proofs.YtfjbhljnledphaaDoor
