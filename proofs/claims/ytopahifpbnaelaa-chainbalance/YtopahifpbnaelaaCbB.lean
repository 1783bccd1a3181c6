/- Chains: ChainBalance, walked. -/
import Derived.Test.YtopahifpbnaelaaCbA
namespace Go.Proofs.Ytopahifpbnaelaa
open Go.RowKit
attribute [local go_sem ↓] Go.wp_at_zero Go.wp_at_succ

theorem bal_parts {L : List Nat} (h : balL L = true) : (∀ a ∈ L, ∀ b ∈ L, a ≤ b + 1) ∧ (∀ a ∈ L, a ≤ 4) ∧ L.foldl (· + ·) 0 = 4 := by
  simp [balL] at h
  exact ⟨h.1.1, h.1.2, h.2⟩
/-- Sums of beginnings. -/
def sumT (L : List Nat) (k : Nat) : Nat := (L.take k).foldl (· + ·) 0
theorem sumT_succ (L : List Nat) (k t : Nat) (h : L[k]? = some t) : sumT L (k + 1) = sumT L k + t := by
  unfold sumT
  rw [List.take_add_one, h]
  simp [List.foldl_append]
theorem sumT_le (L : List Nat) (h4 : ∀ a ∈ L, a ≤ 4) : ∀ k, k ≤ L.length → sumT L k ≤ 4 * k
  | 0, _ => by simp [sumT]
  | k + 1, hk => by
    obtain ⟨t, ht⟩ : ∃ t, L[k]? = some t := ⟨_, List.getElem?_eq_getElem (by omega)⟩
    rw [sumT_succ L k t ht]
    have := h4 t (List.mem_of_getElem? ht)
    have := sumT_le L h4 k (by omega)
    omega
set_option maxRecDepth 20000 in
set_option maxHeartbeats 4000000 in
theorem balance_any (num : Int) (gv : Value) (ns : List Int) (a b c d : Int) (k g s : Int) (w : World) (hu : Il w gv ns) :
    Calls Try.prog 5 #[.agg (cf num gv a b c d), .agg #[.int .i64 k, .int .i64 g, .int .i64 s]] w fun e W' => e = .returned (.bool true) ∧ Below w.heap.size w W' := by
  have hT := fun W => three_any W
  obtain ⟨W0, hW0⟩ : ∃ W, (w.alloc (.cells (cf num gv a b c d) 25)).alloc (.cells #[.int .i64 k, .int .i64 g, .int .i64 s] 27) = W := ⟨_, rfl⟩
  have hb0 : Below w.heap.size w W0 := by
    rw [← hW0]
    exact ((Below.refl _ w).alloc (Nat.le_refl _) _).alloc (by simp) _
  have hsz : W0.heap.size = w.heap.size + 2 := by rw [← hW0]; simp
  have r0 : W0.heap[w.heap.size]? = some (.cells (cf num gv a b c d) 25) := by
    rw [← hW0]
    exact (Below.heap_alloc _ _ _ (by simp)).trans (heap_alloc_new _ _)
  have r1 : W0.heap[w.heap.size + 1]? = some (.cells #[.int .i64 k, .int .i64 g, .int .i64 s] 27) := by
    rw [← hW0]
    have := heap_alloc_new (w.alloc (.cells (cf num gv a b c d) 25)) (.cells #[.int .i64 k, .int .i64 g, .int .i64 s] 27)
    rwa [show (w.alloc (.cells (cf num gv a b c d) 25)).heap.size = w.heap.size + 1 by simp] at this
  have HV : Hid ((w.alloc (.cells (cf num gv a b c d) 25)).alloc (.cells #[.int .i64 k, .int .i64 g, .int .i64 s] 27) = W0) := hW0
  have x1 := cellB r0 1 _ rfl
  have c0 := cellB r1 0 _ rfl
  have c1 := cellB r1 1 _ rfl
  have c2 := cellB r1 2 _ rfl
  have K0 : Hid (W0.rangeAt w.heap.size 0 (cfL num gv a b c d)) := blk_range (L := cfL num gv a b c d) r0
  have HX : Hid (Below w.heap.size w W0 ∧ W0.heap.size = w.heap.size + 2 ∧ W0.heap[w.heap.size]? = some (.cells (cf num gv a b c d) 25) ∧ W0.heap[w.heap.size + 1]? = some (.cells #[.int .i64 k, .int .i64 g, .int .i64 s] 27)) := ⟨hb0, hsz, r0, r1⟩
  have HU : Hid (Il W0 gv ns) := hu.next hb0
  obtain ⟨pa, pc, rfl⟩ := hu.slice
  clear hW0 r0 r1 hu hsz
  by_cases hbig : 100 < ns.length
  · have hq : (100 : Int) < (ns.length : Int) := by omega
    go_enter Try.func5, Try.ntmps5
    go_upto_region 1 with fail
    rw [HV.out]
    clear HV
    go_wp2_with (first
      | (go_at_call 8; refine (hT _).mono ?_; rintro e w5 ⟨rfl, hb5⟩; have hB5 := hb0.trans (hb5.mono hb0.size)))
    go_ret
    exact ⟨rfl, hB5⟩
  have hq : ¬ (100 : Int) < (ns.length : Int) := by omega
  have hN := Next_all num (.slice pa ns.length pc) ns a b c d k g s W0 HU.out (by omega)
  obtain ⟨E, hE⟩ : ∃ E, nxE num ns [a, b, c, d] k g s = E := ⟨_, rfl⟩
  rw [hE] at hN
  clear hE hbig
  go_enter Try.func5, Try.ntmps5
  go_upto_region 1 with fail
  rw [HV.out]
  clear HV
  go_upto_region 4 with (first
    | (refine wpList_load_mid rfl 25 _ rfl w.heap.size 0 rfl (cfL num (.slice pa ns.length pc) a b c d) _ K0.out Try.underlying25 rfl Try.size25 ?_)
    | (go_at_call 9; refine hN.mono ?_; rintro e w1 ⟨x, rfl, v, n, G', O', p, q, r, t, rfl, j1, j2, j3, j4, j5, j6, j7, j8⟩; have hj1 := j1; obtain ⟨ua, uc, rfl⟩ := j1.slice; rw [zi_len] at hj1 ⊢; have HJ : Hid (Il w1 (.slice ua G'.length uc) (zi G') ∧ _ ∧ _ ∧ _ ∧ _ ∧ _) := ⟨hj1, j2, j3, j6, j7, j8⟩; clear hj1 j1 j2 j3 j4 j5 j6 j7 j8))
  obtain ⟨j1, j2, j3, j6, j7, _⟩ := HJ.out
  obtain ⟨_, hsz, r0, r1⟩ := HX.out
  have hbA := j6.alloc j6.size (.cells (cf n (.slice ua G'.length uc) p q r t) 25)
  have s0 := (hbA.block _ (by omega)).trans r0
  have s1 := (hbA.block _ (by omega)).trans r1
  have s2 := heap_alloc_new w1 (.cells (cf n (.slice ua G'.length uc) p q r t) 25)
  have hilA := j1.next ((Below.refl _ w1).alloc (Nat.le_refl _) (.cells (cf n (.slice ua G'.length uc) p q r t) 25))
  have hbw := hb0.trans (hbA.mono hb0.size)
  obtain ⟨W1, hW1⟩ : ∃ W, w1.alloc (.cells (cf n (.slice ua G'.length uc) p q r t) 25) = W := ⟨_, rfl⟩
  have hlt : w1.heap.size < W1.heap.size := by rw [← hW1]; simp
  have hwl : w.heap.size + 1 < W1.heap.size := by have := hbA.size; rw [hW1] at this; omega
  rw [hW1] at s0 s1 s2 hilA hbw ⊢
  obtain ⟨X, hX⟩ : ∃ X, w1.heap.size = X := ⟨_, rfl⟩
  rw [hX] at s2 hlt ⊢
  have y0 := cellB s1 0 _ rfl
  clear hN hX hW1 hbA r0 r1 hsz j1 j6 HJ x1 c0 c1 c2 K0 HX HU
  have hB1 := hbw.size
  by_cases hE0 : E = 0
  · subst hE0
    obtain ⟨gs, o, K, G, S, rfl, ho4, rfl, rfl, rfl, hg, ho, hk, n0, n1, rfl, hG, hO, m1, m2⟩ := j7 rfl
    by_cases hk3 : K = 3
    · subst hk3
      go_wp2_with (first
        | (go_at_call 8; refine (hT _).mono ?_; rintro e w5 ⟨rfl, hb5⟩; have hB5 := hbw.trans (hb5.mono hB1)))
      go_ret
      exact ⟨rfl, hB5⟩
    · have hbal := bal_of hg ho hk hk3
      rw [← hG, ← hO, j2] at hbal
      rw [j2] at m2
      have hL := Loads_any (num + 1) (by omega) (by omega) (.slice ua G'.length uc) G' p q r t W1 hilA m1 m2
      have hq3 : ((K : Int) == 3) = false := by rw [beq_eq_false_iff_ne]; omega
      have KX : Hid (W1.rangeAt X 0 (cfL (num + 1) (.slice ua G'.length uc) p q r t)) := blk_range (L := cfL (num + 1) (.slice ua G'.length uc) p q r t) s2
      obtain ⟨L, hLL⟩ : ∃ L, ldL G' [p, q, r, t] = L := ⟨_, rfl⟩
      rw [hLL] at hbal hL
      have HS : Hid (W1.heap[w.heap.size]? = some (.cells (cf num (.slice pa (zi gs).length pc) a b c d) 25) ∧ W1.heap[X]? = some (.cells (cf (num + 1) (.slice ua G'.length uc) p q r t) 25) ∧ Il W1 (.slice ua G'.length uc) (zi G') ∧ G' ∈ subs0 ∧ [p, q, r, t] ∈ owners0 G' ∧ L.length ≤ 4) := ⟨s0, s2, hilA, m1, m2, by rw [← hLL]; simpa [ldL] using j3⟩
      clear hLL hk hG hO m1 m2 hk3 j2 j3 j7 ho4 hg ho hilA s0 s1 s2 hq
      go_upto_region 7 with (first
        | (refine wpList_load_mid rfl 25 _ rfl X 0 rfl (cfL (num + 1) (.slice ua G'.length uc) p q r t) _ KX.out Try.underlying25 rfl Try.size25 ?_)
        | (go_at_call 19; refine hL.mono ?_; rintro e w2 ⟨u, rfl, hil, hb2⟩; have hil' := hil; obtain ⟨la, lc, rfl⟩ := hil.slice; rw [zi_len] at hil' ⊢; have HI : Hid (Il w2 (.slice la L.length lc) (zi L)) := hil'; clear hil hil'))
      obtain ⟨p2, p3, p4, p5, p6, p7⟩ := HS.out
      obtain ⟨b1, b2, b3⟩ := bal_parts hbal
      have q0 := (hb2.block _ (by omega)).trans p2
      have q1 := (hb2.block _ hlt).trans p3
      have hB2 := hbw.trans (hb2.mono hB1)
      have hC := Check_any (num + 1) (.slice ua G'.length uc) (zi G') p q r t w2 (p4.next hb2) (by rw [zi_len]; have := (conf_of p5).1; omega)
      rw [if_pos (show okC (num + 1) (zi G') [(p : Int), q, r, t] = true from ok_conf p5 p6 (by omega) (by omega))] at hC
      have HB1 : Hid (∀ a ∈ L, ∀ b ∈ L, a ≤ b + 1) := b1
      have HB2 : Hid (∀ a ∈ L, a ≤ 4) := b2
      have HB3 : Hid (sumT L L.length = 4) := by show _ = _; unfold sumT; rw [List.take_length]; exact b3
      have HQ : Hid (w2.heap[w.heap.size]? = some (.cells (cf num (.slice pa (zi gs).length pc) a b c d) 25) ∧ w2.heap[X]? = some (.cells (cf (num + 1) (.slice ua G'.length uc) p q r t) 25) ∧ Below w.heap.size w w2) := ⟨q0, q1, hB2⟩
      have HC : Hid (Calls Try.prog 20 #[.agg (cf (num + 1) (.slice ua G'.length uc) p q r t)] w2 fun e W' => e = .returned (.int .i64 0) ∧ Below w2.heap.size w2 W') := hC
      have HLT : Hid (w.heap.size < w2.heap.size ∧ X < w2.heap.size) := ⟨by have := hb2.size; omega, by have := hb2.size; omega⟩
      have hLn : L.length ≤ 4 := p7
      clear p2 p3 p4 p5 p6 p7 b1 b2 b3 q0 q1 hB2 hC hbal hL KX HS hb2 hB1 hbw hlt hwl
      go_wp2_with fail
      go_loopg [8, 36] L.length (fun gk sm i wr => ∃ (k : Nat), k + gk = L.length ∧ sm = .int .i64 (sumT L k : Nat) ∧ i = .int .i64 k ∧ wr = w2)
      case atStart => exact ⟨0, by omega, rfl, rfl, rfl⟩
      case round =>
        obtain ⟨k, hk, rfl, rfl, hwr⟩ := hrel
        subst wr
        by_cases hlt : k < L.length
        · obtain ⟨t1, ht⟩ : ∃ t, L[k]? = some t := ⟨_, List.getElem?_eq_getElem hlt⟩
          have hil := HI.out
          rw [← zi_len L] at hil
          obtain ⟨b1, o1, hpa, _, q1⟩ := hil.at (zi_at L k t1 ht)
          subst hpa
          have hsum := sumT_succ L k t1 ht
          have hle := sumT_le L HB2.out k (by omega)
          have t14 := HB2.out t1 (List.mem_of_getElem? ht)
          have HM : Hid (t1 ∈ L) := List.mem_of_getElem? ht
          have k0 : (0 : Int) ≤ (k : Int) := by omega
          have k1 : (k : Int) < (L.length : Int) := by omega
          obtain ⟨sm, hsm⟩ : ∃ sm, sumT L k = sm := ⟨_, rfl⟩
          rw [hsm] at hsum hle
          rw [hsm]
          have HSM : Hid (sumT L (k + 1) = sm + t1) := hsum
          have HIL : Hid (Il w2 (.slice (some ⟨b1, o1, none⟩) (zi L).length lc) (zi L)) := hil
          clear ht hil hsm hsum
          go_wp2_with fail
          go_loopg [45] L.length (fun gk i wr => ∃ (m : Nat), m + gk = L.length ∧ i = .int .i64 m ∧ wr = w2)
          case atStart => exact ⟨0, by omega, rfl, rfl⟩
          case round =>
            obtain ⟨m, hm, rfl, hwr⟩ := hrel
            subst wr
            by_cases hlm : m < L.length
            · obtain ⟨t2, ht2⟩ : ∃ t, L[m]? = some t := ⟨_, List.getElem?_eq_getElem hlm⟩
              have hmem := List.mem_of_getElem? ht2
              have hle2 := HB1.out t1 HM.out t2 hmem
              have t24 := HB2.out t2 hmem
              obtain ⟨b2, o2, hpa, _, q2⟩ := HIL.out.at (zi_at L m t2 ht2)
              injection hpa with hpa
              injection hpa with e1 e2 _
              subst e1 e2
              have m0 : (0 : Int) ≤ (m : Int) := by omega
              have m1 : (m : Int) < (L.length : Int) := by omega
              have d1 : ¬ (1 : Int) < (t1 : Int) - (t2 : Int) := by omega
              clear ht2 hmem
              go_wp2
              go_roundg (L.length - (m + 1))
              case measure => omega
              case rel => exact ⟨m + 1, by omega, by go_num, rfl⟩
            · have hml : m = L.length := by omega
              subst hml
              go_wp2
              go_roundg (L.length - (k + 1))
              case measure => omega
              case rel => exact ⟨k + 1, by omega, by rw [HSM.out]; go_num, by go_num, rfl⟩
        · have hkl : k = L.length := by omega
          subst hkl
          obtain ⟨q0, q1, hB2⟩ := HQ.out
          have z0 := cellB q0 0 _ rfl
          have zx0 := cellB q1 0 _ rfl
          have zx1 := cellB q1 1 _ rfl
          have zx2 := cellB q1 2 _ rfl
          have zx3 := cellB q1 3 _ rfl
          have zx4 := cellB q1 4 _ rfl
          have zx5 := cellB q1 5 _ rfl
          have HCC := HC.out
          have QX : Hid (w2.heap[w.heap.size]? = some (.cells (cf num (.slice pa (zi gs).length pc) a b c d) 25) ∧ w2.heap[X]? = some (.cells (cf (num + 1) (.slice ua G'.length uc) p q r t) 25)) := ⟨q0, q1⟩
          rw [HB3.out]
          clear q0 q1 HC HQ HB1 HB2 HB3 HI
          go_upto_region 19 with fail
          go_wp2_with (first
            | (go_at_call 20; refine HCC.mono ?_; rintro e w3 ⟨rfl, hb3⟩; have u0 := cellB ((hb3.block _ HLT.out.1).trans QX.out.1) 0 _ rfl; have u1 := cellB ((hb3.block _ HLT.out.2).trans QX.out.2) 0 _ rfl; have hB3 := hB2.trans (hb3.mono hB2.size))
            | (go_at_call 8; refine (hT _).mono ?_; rintro e w5 ⟨rfl, hb5⟩; have hB5 := hB3.trans (hb5.mono hB3.size)))
          go_ret
          exact ⟨rfl, hB5⟩
  · have hne : (E != 0) = true := by simpa using hE0
    clear j2 j3 j7 hilA s0 s1 s2 hE0
    go_wp2_with (first
      | (go_at_call 8; refine (hT _).mono ?_; rintro e w5 ⟨rfl, hb5⟩; have hB5 := hbw.trans (hb5.mono hB1)))
    go_ret
    exact ⟨rfl, hB5⟩
end Go.Proofs.Ytopahifpbnaelaa
