/- Nothing settled is lost: where the case is one, and enough hold the order. -/
import Derived.Test.YtifalaigfinciaaDoorShV
namespace Go.Proofs.YtifalaigfinciaaDoor
open Go.RowKit
attribute [local go_sem ↓] Go.wp_at_zero Go.wp_at_succ

set_option maxRecDepth 20000 in
set_option maxHeartbeats 2000000 in
theorem lost_in (f : Nat) (F : Int) (hFf : F = f) (Bad Held In V O : Int) (m : Nat) (batch other : List UInt8) (w : World) (he : Env w)
    (hf : f ≤ 3) (v0 : 0 ≤ V) (v1 : V ≤ 1000) (hm : m ≤ 7) (o0 : 0 ≤ O) (o1 : O < V) (hbl : batch.length ≤ 9000) (hol : other.length ≤ 9000)
    (hfw : cntB Bad (3 * f + 1) ≤ f) (hfw2 : 2 * f + 1 ≤ cntB Held (3 * f + 1)) (hfw3 : 2 * f + 1 ≤ cntB In (3 * f + 1)) :
    Calls Tryd.prog 4 #[.agg #[.int .i64 F, .int .i64 Bad, .int .i64 Held, .int .i64 In, .int .i64 V, .int .i64 ((m : Int) + 1), .int .i64 O], .string (bs batch), .string (bs other)] w fun e W' => e = .returned (.bool true) ∧ Below w.heap.size w W' := by
  have hba := (Below.refl w.heap.size w).alloc (Nat.le_refl _) (.cells #[.int .i64 F, .int .i64 Bad, .int .i64 Held, .int .i64 In, .int .i64 V, .int .i64 ((m : Int) + 1), .int .i64 O] 49)
  have rP := heap_alloc_new w (.cells #[.int .i64 F, .int .i64 Bad, .int .i64 Held, .int .i64 In, .int .i64 V, .int .i64 ((m : Int) + 1), .int .i64 O] 49)
  have s1 : (bs batch).size = batch.length := bs_size _
  have s2 : (bs other).size = other.length := bs_size _
  have hbit : ∀ (s : Int) (W : World), Calls Tryd.prog 14 #[.int .i64 s, .int .i64 (3 * F + 1)] W fun e W' => e = .returned (.int .i64 (cntB s (3 * f + 1))) ∧ W' = W := fun s W => by
    have := bits_any s (3 * f + 1) (by omega) W
    rw [show ((3 * f + 1 : Nat) : Int) = 3 * F + 1 by omega] at this
    exact this
  have HFi : Hid (∀ W, Below w.heap.size w W → Calls Tryd.prog 7 #[] W fun e W' => e = .returned (.bool true) ∧ Below w.heap.size w W') := fun W hW => by
    refine (fills_any W (he.next hW)).mono ?_
    rintro e W' ⟨rfl, hb⟩
    exact ⟨rfl, hW.trans (hb.mono hW.size)⟩
  have h0 : 0 ≤ F := by omega
  have h1 : F ≤ 3 := by omega
  have d0 : decide (F < 0) = false := decide_eq_false (by omega)
  have d1 : decide (3 < F) = false := decide_eq_false (by omega)
  have d2 : decide (V < 0) = false := decide_eq_false (by omega)
  have d3 : decide (1000 < V) = false := decide_eq_false (by omega)
  have d4 : decide ((m : Int) + 1 < 1) = false := decide_eq_false (by omega)
  have d5 : decide (8 < (m : Int) + 1) = false := decide_eq_false (by omega)
  have d6 : decide (O < 0) = false := decide_eq_false (by omega)
  have d7 : decide (V ≤ O) = false := decide_eq_false (by omega)
  have d8 : decide ((9000 : Int) < (batch.length : Int)) = false := decide_eq_false (by omega)
  have d9 : decide ((9000 : Int) < (other.length : Int)) = false := decide_eq_false (by omega)
  obtain ⟨W0, hW0⟩ : ∃ W, w.alloc (.cells #[.int .i64 F, .int .i64 Bad, .int .i64 Held, .int .i64 In, .int .i64 V, .int .i64 ((m : Int) + 1), .int .i64 O] 49) = W := ⟨_, rfl⟩
  have HW : Hid (w.alloc (.cells #[.int .i64 F, .int .i64 Bad, .int .i64 Held, .int .i64 In, .int .i64 V, .int .i64 ((m : Int) + 1), .int .i64 O] 49) = W0) := hW0
  rw [hW0] at hba rP
  have hlP := (Array.getElem?_eq_some_iff.1 rP).1
  obtain ⟨P, hP⟩ : ∃ P, w.heap.size = P := ⟨_, rfl⟩
  have HP : Hid (w.heap.size = P) := hP
  rw [hP] at rP hlP
  have HK : Hid (∀ W, Below W0.heap.size W0 W → (W.cell? ⟨P, 0, none⟩ = some (.int .i64 F) ∧ W.cell? ⟨P, 1, none⟩ = some (.int .i64 Bad) ∧ W.cell? ⟨P, 2, none⟩ = some (.int .i64 Held) ∧ W.cell? ⟨P, 3, none⟩ = some (.int .i64 In) ∧ W.cell? ⟨P, 4, none⟩ = some (.int .i64 V) ∧ W.cell? ⟨P, 5, none⟩ = some (.int .i64 ((m : Int) + 1)) ∧ W.cell? ⟨P, 6, none⟩ = some (.int .i64 O))) := fun W hb => by
    have r := (hb.block _ hlP).trans rP
    exact ⟨cellB r 0 _ rfl, cellB r 1 _ rfl, cellB r 2 _ rfl, cellB r 3 _ rfl, cellB r 4 _ rfl, cellB r 5 _ rfl, cellB r 6 _ rfl⟩
  obtain ⟨k0, k1, k2, k3, k4, k5, k6⟩ := HK.out W0 (Below.refl _ _)
  have HBa : Hid (_) := hba
  obtain ⟨cS, hcS⟩ : ∃ cS : Int → Int, ∀ s, (cntB s (3 * f + 1) : Int) = cS s := ⟨fun s => (cntB s (3 * f + 1) : Int), fun _ => rfl⟩
  have hcB := hcS Bad
  have hcH := hcS Held
  have hcI := hcS In
  have hb1 : ∀ (s : Int) (W : World), Calls Tryd.prog 14 #[.int .i64 s, .int .i64 (3 * F + 1)] W fun e W' => e = .returned (.int .i64 (cS s)) ∧ W' = W := fun s W => by
    have := hbit s W
    rw [hcS] at this
    exact this
  have q1 : decide (F < cS Bad) = false := decide_eq_false (by omega)
  have q2 : decide (cS Held < 2 * F + 1) = false := decide_eq_false (by omega)
  have q3 : decide (cS In < 2 * F + 1) = false := decide_eq_false (by omega)
  have hEx : ∃ i, i < 3 * f + 1 ∧ bitN In i = 1 ∧ bitN Held i = 1 ∧ bitN Bad i = 0 := by
    rcases cnt3 In Held Bad (3 * f + 1) with h | h
    · omega
    · exact h
  have eG := said_small (k := kOrd) (g := 1) (v := V) (n := (m : Int) + 1) (b := batch) (by simp [inS, inR]; omega) (by decide) hbl
  have eB := said_small (k := kOrd) (g := 1) (v := O) (n := (m : Int) + 1) (b := other) (by simp [inS, inR]; omega) (by decide) hol
  have rG := congrArg (fun y : Sd => y.2.2.2.2) (sread_said (k := kOrd) (.inl rfl) eG)
  have HOG : Hid (∀ W, Below w.heap.size w W → Calls Tryd.prog 15 #[.int .i64 1, .int .i64 V, .int .i64 ((m : Int) + 1), .string (bs batch)] W fun e W' => e = .returned (.tuple #[.string (bs (saidV kOrd 1 V ((m : Int) + 1) batch)), .int .i64 (saidE kOrd 1 V ((m : Int) + 1) batch)]) ∧ Below W.heap.size W W') := fun W hW => Order_any 1 V ((m : Int) + 1) batch W (by omega) (he.next hW).p
  have HOB : Hid (∀ W, Below w.heap.size w W → Calls Tryd.prog 15 #[.int .i64 1, .int .i64 O, .int .i64 ((m : Int) + 1), .string (bs other)] W fun e W' => e = .returned (.tuple #[.string (bs (saidV kOrd 1 O ((m : Int) + 1) other)), .int .i64 (saidE kOrd 1 O ((m : Int) + 1) other)]) ∧ Below W.heap.size W W') := fun W hW => Order_any 1 O ((m : Int) + 1) other W (by omega) (he.next hW).p
  rw [eG] at HOG
  rw [eB] at HOB
  obtain ⟨G, hG⟩ : ∃ x, saidV kOrd 1 V ((m : Int) + 1) batch = x := ⟨_, rfl⟩
  obtain ⟨Bt, hBt⟩ : ∃ x, saidV kOrd 1 O ((m : Int) + 1) other = x := ⟨_, rfl⟩
  rw [hG] at HOG rG
  rw [hBt] at HOB
  have HRG : Hid (_) := rG
  have HEx : Hid (_) := hEx
  have HE : Hid (Env w) := he
  have HFf : Hid (F = f ∧ f ≤ 3 ∧ m ≤ 7 ∧ O < V) := ⟨hFf, hf, hm, o1⟩
  have hV1 : V ≤ 1000 := v1
  clear hfw hfw2 hfw3 hcS hcB hcH hcI hbit hW0 rP hP hFf hf hm hbl hol rG hEx eG eB hG hBt he o0 o1 k1 k2 k3 k4 k5 k6
  have hlP2 : P < W0.heap.size := hlP
  go_enter Tryd.func4, Tryd.ntmps4
  go_upto_region 1 with fail
  rw [HW.out, HP.out]
  clear HW
  obtain ⟨k0, k1, k2, k3, k4, k5, k6⟩ := HK.out W0 (Below.refl _ _)
  go_upto_region 4 with fail
  go_big_quiet (first | (go_at_call 14; refine Calls.quiet_of_same (hb1 _ _)))
  have hOG := HOG.out (W0.drewN nq) (below_drewN HBa.out nq)
  clear hb1 q1 q2 q3 HOG d0 d1 d2 d3 d4 d5 d6 d7 d8 d9
  go_upto_region 7 with (first | (go_at_call 15; refine hOG.mono ?_; clear hOG; rintro e w1 ⟨rfl, hb1⟩))
  have hB1 : Below W0.heap.size W0 w1 := (below_drewN (Below.refl _ W0) nq).trans hb1
  obtain ⟨j0, j1, j2, j3, j4, j5, j6⟩ := HK.out w1 hB1
  have hOB := HOB.out w1 (HBa.out.trans (hB1.mono HBa.out.size))
  clear k0 k1 k2 k3 k4 k5 k6 hb1
  go_upto_region 10 with (first | (go_at_call 15; refine hOB.mono ?_; clear hOB; rintro e w2 ⟨rfl, hb2⟩))
  have hB2 := hB1.trans (hb2.mono hB1.size)
  clear j0 j1 j2 j3 j4 j5 j6 HOB hb2 hB1
  go_wp2
  obtain ⟨gd, hgd⟩ : ∃ gd : Nat → Prop, gd = fun i => bitN In i = 1 ∧ bitN Held i = 1 ∧ bitN Bad i = 0 := ⟨_, rfl⟩
  have HGD : Hid (gd = fun i => bitN In i = 1 ∧ bitN Held i = 1 ∧ bitN Bad i = 0) := hgd
  clear hgd
  go_loopw [12, 13] (fun u p wr => ∃ (j : Nat) (L : List Cv), p = .int .i64 j ∧ (j : Int) ≤ 3 * F + 1 ∧ Hid (LI W0.heap.size ((m : Int) + 1) V O G gd wr u j L) ∧ Below W0.heap.size W0 wr)
    (fun _ p _ => (3 * F + 1 - intOf p).toNat)
  case atStart => exact ⟨0, [], rfl, by omega, ⟨World.ownsRow_nil _ _ _ _, by simp, by simp, by simp, fun i hi => by omega⟩, hB2⟩
  case round =>
    obtain ⟨j, L, rfl, hj, HL, hB⟩ := hrel
    obtain ⟨ua, uc, rfl⟩ := owns_slice HL.out.own
    obtain ⟨j0, j1, j2, j3, j4, j5, j6⟩ := HK.out wr hB
    by_cases hj1 : (j : Int) < 3 * F + 1
    · have b1 := bitN_is In j
      have b2 := bitN_is Held j
      have b3 := bitN_is Bad j
      have c1 := bitN_le In j
      have c2 := bitN_le Held j
      have c3 := bitN_le Bad j
      have HG : Hid (gd j ↔ bitN In j = 1 ∧ bitN Held j = 1 ∧ bitN Bad j = 0) := by rw [HGD.out]; exact Iff.rfl
      obtain ⟨bI, hbI⟩ : ∃ b, bitN In j = b := ⟨_, rfl⟩
      obtain ⟨bH, hbH⟩ : ∃ b, bitN Held j = b := ⟨_, rfl⟩
      obtain ⟨bB, hbB⟩ : ∃ b, bitN Bad j = b := ⟨_, rfl⟩
      rw [hbI] at b1 c1 HG
      rw [hbH] at b2 c2 HG
      rw [hbB] at b3 c3 HG
      clear hbI hbH hbB
      have m1 : (j : Int) ≤ 10 := by omega
      have hcI : bI = 0 ∨ bI = 1 := by omega
      rcases hcI with rfl | rfl
      · have HR : Hid (_) := HL.out.skip (fun h => by have := (HG.out.1 h).1; omega)
        clear b2 b3
        go_wp2
        go_roundw
        case rel => exact ⟨j + 1, L, by go_num, by omega, HR.out, hB⟩
        case measure => simp [intOf]; omega
      · have hcs : (bB = 1) ∨ (bB = 0 ∧ (bH = 0 ∨ bH = 1)) := by omega
        obtain ⟨a0, a1, a2, a3, a4, a5, a6⟩ := HK.out (wr.alloc (.cells #[.int .i64 (V + 1), .int .i64 0, .string ⟨#[]⟩, .int .i64 0, .slice none 0 0, .slice none 0 0] 27)) (hB.alloc hB.size _)
        have hW4 : ∀ (xv : Int) (xt : List UInt8), Below wr.heap.size wr (((wr.alloc (.cells #[.int .i64 (V + 1), .int .i64 0, .string ⟨#[]⟩, .int .i64 0, .slice none 0 0, .slice (some ⟨wr.heap.size + 1, 0, none⟩) 1 1] 27)).alloc (.cells #[.int .i64 ((m : Int) + 1), .int .i64 xv, .string (bs xt), .int .i64 0, .slice none 0 0] 55)).alloc (.cells #[.int .i64 (V + 1), .int .i64 0, .string ⟨#[]⟩, .int .i64 0, .slice none 0 0, .slice (some ⟨wr.heap.size + 1, 0, none⟩) 1 1] 27)) ∧ (((wr.alloc (.cells #[.int .i64 (V + 1), .int .i64 0, .string ⟨#[]⟩, .int .i64 0, .slice none 0 0, .slice (some ⟨wr.heap.size + 1, 0, none⟩) 1 1] 27)).alloc (.cells #[.int .i64 ((m : Int) + 1), .int .i64 xv, .string (bs xt), .int .i64 0, .slice none 0 0] 55)).alloc (.cells #[.int .i64 (V + 1), .int .i64 0, .string ⟨#[]⟩, .int .i64 0, .slice none 0 0, .slice (some ⟨wr.heap.size + 1, 0, none⟩) 1 1] 27)).heap[wr.heap.size + 1 + 1]? = some (.cells #[.int .i64 (V + 1), .int .i64 0, .string ⟨#[]⟩, .int .i64 0, .slice none 0 0, .slice (some ⟨wr.heap.size + 1, 0, none⟩) 1 1] 27) ∧ (((wr.alloc (.cells #[.int .i64 (V + 1), .int .i64 0, .string ⟨#[]⟩, .int .i64 0, .slice none 0 0, .slice (some ⟨wr.heap.size + 1, 0, none⟩) 1 1] 27)).alloc (.cells #[.int .i64 ((m : Int) + 1), .int .i64 xv, .string (bs xt), .int .i64 0, .slice none 0 0] 55)).alloc (.cells #[.int .i64 (V + 1), .int .i64 0, .string ⟨#[]⟩, .int .i64 0, .slice none 0 0, .slice (some ⟨wr.heap.size + 1, 0, none⟩) 1 1] 27)).heap[wr.heap.size + 1]? = some (.cells #[.int .i64 ((m : Int) + 1), .int .i64 xv, .string (bs xt), .int .i64 0, .slice none 0 0] 55) := fun xv xt => by
          have h1 : Below wr.heap.size wr (wr.alloc (.cells #[.int .i64 (V + 1), .int .i64 0, .string ⟨#[]⟩, .int .i64 0, .slice none 0 0, .slice (some ⟨wr.heap.size + 1, 0, none⟩) 1 1] 27)) := (Below.refl _ wr).alloc (Nat.le_refl _) _
          have s1 : (wr.alloc (.cells #[.int .i64 (V + 1), .int .i64 0, .string ⟨#[]⟩, .int .i64 0, .slice none 0 0, .slice (some ⟨wr.heap.size + 1, 0, none⟩) 1 1] 27)).heap.size = wr.heap.size + 1 := by simp
          obtain ⟨w1, hw1⟩ : ∃ w1, wr.alloc (.cells #[.int .i64 (V + 1), .int .i64 0, .string ⟨#[]⟩, .int .i64 0, .slice none 0 0, .slice (some ⟨wr.heap.size + 1, 0, none⟩) 1 1] 27) = w1 := ⟨_, rfl⟩
          rw [hw1] at h1 s1
          rw [hw1]
          have r2 := heap_alloc_new w1 (.cells #[.int .i64 ((m : Int) + 1), .int .i64 xv, .string (bs xt), .int .i64 0, .slice none 0 0] 55)
          have s2 : (w1.alloc (.cells #[.int .i64 ((m : Int) + 1), .int .i64 xv, .string (bs xt), .int .i64 0, .slice none 0 0] 55)).heap.size = wr.heap.size + 1 + 1 := by simp [s1]
          have h2 := h1.alloc h1.size (.cells #[.int .i64 ((m : Int) + 1), .int .i64 xv, .string (bs xt), .int .i64 0, .slice none 0 0] 55)
          obtain ⟨w2, hw2⟩ : ∃ w2, w1.alloc (.cells #[.int .i64 ((m : Int) + 1), .int .i64 xv, .string (bs xt), .int .i64 0, .slice none 0 0] 55) = w2 := ⟨_, rfl⟩
          rw [hw2, s1] at r2
          rw [hw2] at s2 h2
          rw [hw2]
          have r3 := heap_alloc_new w2 (.cells #[.int .i64 (V + 1), .int .i64 0, .string ⟨#[]⟩, .int .i64 0, .slice none 0 0, .slice (some ⟨wr.heap.size + 1, 0, none⟩) 1 1] 27)
          rw [s2] at r3
          exact ⟨h2.alloc h2.size _, r3, (Below.heap_alloc w2 (.cells #[.int .i64 (V + 1), .int .i64 0, .string ⟨#[]⟩, .int .i64 0, .slice none 0 0, .slice (some ⟨wr.heap.size + 1, 0, none⟩) 1 1] 27) (wr.heap.size + 1) (by omega)).trans r2⟩
        have HW4 : Hid (_) := hW4
        have HLe : Hid (L.length ≤ 100000) := by have := HL.out.len; show L.length ≤ 100000; omega
        have hQw : W0.heap.size ≤ wr.heap.size := hB.size
        clear hW4
        rcases hcs with rfl | ⟨rfl, rfl | rfl⟩
        · have HO4 : Hid (_) := own_kept HL.out.own (HW4.out O Bt).1
          have hQ4 := Nat.le_trans hQw (HW4.out O Bt).1.size
          have HQ4 : Hid (_) := hQ4
          clear hQ4
          go_wp2_with (first | (at_builtin; refine wpList_append_change rfl _ _ rfl W0.heap.size _ L.length _ rfl HO4.out (wr.heap.size + 1 + 1) ⟨V + 1, 0, [], 0, none, 0, 0, .slice (some ⟨wr.heap.size + 1, 0, none⟩) 1 1, [⟨(m : Int) + 1, O, Bt, 0, none, 0, 0⟩]⟩ rfl (HW4.out O Bt).2.1 ⟨_, _, _, rfl⟩ HLe.out HQ4.out ?_; intro v' w5 hown5 hg5 hb5; obtain ⟨ua5, uc5, rfl⟩ := owns_slice hown5))
          have HR : Hid (_) := HL.out.step (HW4.out O Bt).1 (HW4.out O Bt).2.2 (x := ⟨(m : Int) + 1, O, Bt, 0, none, 0, 0⟩) ⟨rfl, .inr rfl⟩ (fun h => by have := (HG.out.1 h).2.2; omega) hown5 hg5
          have HB5 : Hid (_) := (hB.trans ((HW4.out O Bt).1.mono hB.size)).trans hb5
          go_roundw
          case rel => exact ⟨j + 1, _, by go_num, by omega, HR.out, HB5.out⟩
          case measure => simp [intOf]; omega
        · have HO4 : Hid (_) := own_kept HL.out.own (HW4.out O Bt).1
          have hQ4 := Nat.le_trans hQw (HW4.out O Bt).1.size
          have HQ4 : Hid (_) := hQ4
          clear hQ4
          go_wp2_with (first | (at_builtin; refine wpList_append_change rfl _ _ rfl W0.heap.size _ L.length _ rfl HO4.out (wr.heap.size + 1 + 1) ⟨V + 1, 0, [], 0, none, 0, 0, .slice (some ⟨wr.heap.size + 1, 0, none⟩) 1 1, [⟨(m : Int) + 1, O, Bt, 0, none, 0, 0⟩]⟩ rfl (HW4.out O Bt).2.1 ⟨_, _, _, rfl⟩ HLe.out HQ4.out ?_; intro v' w5 hown5 hg5 hb5; obtain ⟨ua5, uc5, rfl⟩ := owns_slice hown5))
          have HR : Hid (_) := HL.out.step (HW4.out O Bt).1 (HW4.out O Bt).2.2 (x := ⟨(m : Int) + 1, O, Bt, 0, none, 0, 0⟩) ⟨rfl, .inr rfl⟩ (fun h => by have := (HG.out.1 h).2.1; omega) hown5 hg5
          have HB5 : Hid (_) := (hB.trans ((HW4.out O Bt).1.mono hB.size)).trans hb5
          go_roundw
          case rel => exact ⟨j + 1, _, by go_num, by omega, HR.out, HB5.out⟩
          case measure => simp [intOf]; omega
        · have HO4 : Hid (_) := own_kept HL.out.own (HW4.out V G).1
          have hQ4 := Nat.le_trans hQw (HW4.out V G).1.size
          have HQ4 : Hid (_) := hQ4
          clear hQ4
          go_wp2_with (first | (at_builtin; refine wpList_append_change rfl _ _ rfl W0.heap.size _ L.length _ rfl HO4.out (wr.heap.size + 1 + 1) ⟨V + 1, 0, [], 0, none, 0, 0, .slice (some ⟨wr.heap.size + 1, 0, none⟩) 1 1, [⟨(m : Int) + 1, V, G, 0, none, 0, 0⟩]⟩ rfl (HW4.out V G).2.1 ⟨_, _, _, rfl⟩ HLe.out HQ4.out ?_; intro v' w5 hown5 hg5 hb5; obtain ⟨ua5, uc5, rfl⟩ := owns_slice hown5))
          have HR : Hid (_) := HL.out.step (HW4.out V G).1 (HW4.out V G).2.2 (x := ⟨(m : Int) + 1, V, G, 0, none, 0, 0⟩) ⟨rfl, .inl ⟨rfl, rfl⟩⟩ (fun _ => rfl) hown5 hg5
          have HB5 : Hid (_) := (hB.trans ((HW4.out V G).1.mono hB.size)).trans hb5
          go_roundw
          case rel => exact ⟨j + 1, _, by go_num, by omega, HR.out, HB5.out⟩
          case measure => simp [intOf]; omega
    · have hplan := HL.out.plan (batch := batch) (by omega) (by have := HFf.out.2.2.1; omega) HFf.out.2.2.2 (by
        obtain ⟨i, h1, h2⟩ := HEx.out
        have h3 := HFf.out.1
        refine ⟨i, by omega, ?_⟩
        rw [HGD.out]
        exact h2) HRG.out
      have hN : ((m : Int) + 1).toNat = m + 1 := by omega
      rw [hN, Nat.add_sub_cancel] at hplan
      obtain ⟨p1, p2, p3⟩ := hplan
      obtain ⟨hcl, hcb⟩ := HL.out.cl
      have hBe := HBa.out.trans (hB.mono HBa.out.size)
      have hPl := Plan_any L (.slice ua L.length uc) wr (by have := HL.out.len; omega) hcb (HE.out.next hBe) hcl
      have hPl2 : Calls Tryd.prog 16 #[.slice ua L.length uc] wr fun e W' => ∃ g o cap, e = .returned (.tuple #[.int .i64 0, .slice (some ⟨g, o, none⟩) (m + 1) cap]) ∧ g < W'.heap.size ∧ (W'.cell? ⟨g, o + m * 2, none⟩ = some (.int .i64 ((m : Int) + 1)) ∧ W'.cell? ⟨g, o + m * 2 + 1, none⟩ = some (.string (bs batch))) ∧ Below wr.heap.size wr W' := by
        refine hPl.mono ?_
        rintro e W' ⟨u, rfl, hu, hb⟩
        obtain ⟨g, o, cap, rfl, hg, hc⟩ := fills_cells hu (by omega)
        rw [p1, p2]
        exact ⟨g, o, cap, rfl, hg, hc m _ p3, hb⟩
      have hlm : (m : Int) ≤ 7 := by have := HFf.out.2.2.1; omega
      clear hPl hcl hcb p1 p2 p3 hN hBe HL HEx HGD HRG j0 j1 j2 j3 j4 j5 j6
      go_upto_region 21 with (first | (go_at_call 16; refine hPl2.mono ?_; clear hPl2; rintro e w3 ⟨g, o, cap, rfl, hg, ⟨e1, e2⟩, hb3⟩))
      have hB3 := hB.trans (hb3.mono hB.size)
      have hB3w := HBa.out.trans (hB3.mono HBa.out.size)
      have gF := fills_grow w3 (HE.out.next hB3w)
      have kC5 : ∀ x : Cw w3, x.w.cell? ⟨P, 5, none⟩ = some (.int .i64 ((m : Int) + 1)) := fun x => (HK.out _ (hB3.trans (x.h.mono hB3.size))).2.2.2.2.2.1
      have kE1 : ∀ x : Cw w3, x.w.cell? ⟨g, o + m * 2, none⟩ = some (.int .i64 ((m : Int) + 1)) := fun x => (x.h.cell (p := ⟨g, o + m * 2, none⟩) hg).trans e1
      have kE2 : ∀ x : Cw w3, x.w.cell? ⟨g, o + m * 2 + 1, none⟩ = some (.string (bs batch)) := fun x => (x.h.cell (p := ⟨g, o + m * 2 + 1, none⟩) hg).trans e2
      have hne : Nonempty (Cw w3) := ⟨⟨w3, Below.refl _ _⟩⟩
      have z1 : (((m + 1 : Nat) : Int) == (m : Int) + 1) = true := by simp
      have z2 := str_same batch
      have z3 : ((m : Int) + 1 == (m : Int) + 1) = true := by simp
      have HF3 : Hid (_) := hB3w
      clear hB3 hB3w hb3 e1 e2 hB HK hB2
      refine wp_region_grow (W0 := w3) (by kernel_rfl) (by kernel_rfl) (Below.refl _ _) ?_
      repeat (go_big_quiet_step (first | (go_at_call 7; exact gF _)))
      refine wpQuiet_nil ?_
      rintro _ ⟨xx, rfl⟩
      have HX : Hid (_) := HF3.out.trans (xx.h.mono HF3.out.size)
      clear kC5 kE1 kE2 gF
      go_wp2
      exact bodyPost_ret (v := .bool true) (by simp [results, Tryd.f4, go_sem]) rfl ⟨rfl, HX.out⟩
end Go.Proofs.YtifalaigfinciaaDoor
