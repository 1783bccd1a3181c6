/- Moots, the document's side: Text, walked. -/
import Derived.Test.YtfolnlgceighbaaGreatDoorMrO
import Derived.Test.YtfolnlgceighbaaGreatDoorCe1
namespace Go.Proofs.YtfolnlgceighbaaGreatDoor
open Go.RowKit
attribute [local go_sem ↓] Go.wp_at_zero Go.wp_at_succ

theorem ofL_lt : ∀ (cl : List Kn) (j : Nat) (i : Int), i < j → ofL (knF j cl) i = (0, 0, 0)
  | [], _, _, _ => rfl
  | x :: r, j, i, h => by
    show ofL ((if 0 < x.1 then [((j : Int), (x.1 : Int), x.2)] else []) ++ knF (j + 1) r) i = _
    have ih := ofL_lt r (j + 1) i (by omega)
    by_cases h0 : 0 < x.1
    · rw [if_pos h0]
      show (if (j : Int) = i then _ else ofL (knF (j + 1) r) i) = _
      rw [if_neg (by omega), ih]
    · rw [if_neg h0]; exact ih
theorem ofL_kn : ∀ (cl : List Kn) (j k : Nat) (x : Kn), cl[k]? = some x → ofL (knF j cl) ((j + k : Nat) : Int) = if 0 < x.1 then (((j + k : Nat) : Int), (x.1 : Int), x.2) else (0, 0, 0)
  | [], _, _, _, h => by cases h
  | y :: r, j, 0, x, h => by
    have : y = x := by simpa using h
    subst this
    show ofL ((if 0 < y.1 then [((j : Int), (y.1 : Int), y.2)] else []) ++ knF (j + 1) r) (j : Int) = _
    by_cases h0 : 0 < y.1
    · rw [if_pos h0, if_pos h0]
      show (if (j : Int) = (j : Int) then _ else _) = _
      rw [if_pos rfl]; rfl
    · rw [if_neg h0, if_neg h0]
      exact ofL_lt r (j + 1) j (by omega)
  | y :: r, j, k + 1, x, h => by
    have ih := ofL_kn r (j + 1) k x (by simpa using h)
    rw [show j + 1 + k = j + (k + 1) by omega] at ih
    show ofL ((if 0 < y.1 then [((j : Int), (y.1 : Int), y.2)] else []) ++ knF (j + 1) r) _ = _
    by_cases h0 : 0 < y.1
    · rw [if_pos h0]
      show (if (j : Int) = ((j + (k + 1) : Nat) : Int) then _ else ofL (knF (j + 1) r) _) = _
      rw [if_neg (by omega)]; exact ih
    · rw [if_neg h0]; exact ih
theorem Cs_rowN {w : World} {base : Nat} {v : Value} {n : Nat} {L : List (List UInt8)} (h : w.ownsRow base 9 1 v n (strs L)) (hn : n = L.length) : Sl w v L := by
  subst hn
  exact Sl.of_owns h
set_option maxRecDepth 20000 in
set_option maxHeartbeats 4000000 in
theorem rMText_any (K : Nat) (u c : Value) (T : List C3) (cl : List Kn) (w : World) (hK : w.heap[K]? = some (.cells #[u, c] 51)) (hu : Cs w u T) (hc : Cs w c (knF 0 cl)) (hT : ∀ x ∈ T, ok3 x) (h40 : T.length ≤ 40) (hKn : okK2 cl) (h8 : cl.length = 8) :
    Calls Tryz.prog 22 #[.pointer (some ⟨K, 0, none⟩)] w fun e W' => e = .returned (.string (bs (mootT T cl))) ∧ Below w.heap.size w W' := by
  obtain ⟨i0, hi, hz0, hz1, hz2⟩ := info_parts Tryz.info9
  have HINF : Hid (Tryz.prog.info? 9 = some i0 ∧ i0.zero = some (.string ⟨#[]⟩) ∧ i0.size = 1 ∧ i0.bytes = 16) := ⟨hi, hz0, hz1, hz2⟩
  have HKB : Hid (∀ W, Below w.heap.size w W → W.heap[K]? = some (.cells #[u, c] 51) ∧ Cs W u T ∧ Cs W c (knF 0 cl)) := fun W hb => ⟨(hb.block K (Array.getElem?_eq_some_iff.1 hK).1).trans hK, hu.next hb, hc.next hb⟩
  have HOK : Hid ((∀ x ∈ T, ok3 x) ∧ (∀ x ∈ knF 0 cl, ok3 x) ∧ (knF 0 cl).length ≤ 8) := ⟨hT, knF_ok cl 0 hKn (by omega), by have := knF_len cl 0; omega⟩
  have HL : Hid (T.length ≤ 40 ∧ cl.length = 8) := ⟨h40, h8⟩
  have HKN : Hid (okK2 cl) := hKn
  have HPK : Hid (∀ W v l, Sl W v (flat3 l) → (∀ x ∈ l, ok3 x) → l.length ≤ 1000 → Calls Tryz.prog 33 #[v] W fun e W' => e = .returned (.string (bs (packT l))) ∧ Below W.heap.size W W') := fun W v l h1 h2 h3 => by
    obtain ⟨t1, _⟩ := flat3_small h2
    exact rPack_any (flat3 l) v W (by omega) (by rw [flat3_len]; omega) h1
  have HPP : Hid (∀ W v', Sl W v' [packT T, packT (knF 0 cl)] → Calls Tryz.prog 33 #[v'] W fun e W' => e = .returned (.string (bs (mootT T cl))) ∧ Below W.heap.size W W') := fun W v' hs => by
    have h1 := (flat3_small hT).1
    have h2 := flat3_len T
    have h3 := pack_len (flat3 T) (by omega)
    have g0 := knF_len cl 0
    have g1 := (flat3_small (knF_ok cl 0 hKn (by omega))).1
    have g2 := flat3_len (knF 0 cl)
    have g3 := pack_len (flat3 (knF 0 cl)) (by omega)
    have e1 : (packT T).length ≤ 60 * T.length + 22 * (flat3 T).length := by unfold packT; omega
    have e2 : (packT (knF 0 cl)).length ≤ 60 * (knF 0 cl).length + 22 * (flat3 (knF 0 cl)).length := by unfold packT; omega
    have := h40
    have := h8
    refine rPack_any [packT T, packT (knF 0 cl)] v' W ?_ (by simp) hs
    rw [tot_cons, tot_cons]
    have : tot [] = 0 := rfl
    omega
  obtain ⟨Z, hZ⟩ : ∃ Z, mootT T cl = Z := ⟨_, rfl⟩
  rw [hZ] at HPP
  rw [hZ]
  obtain ⟨pa, pc, rfl⟩ := hu.slice
  have x0 := cellB hK 0 (.slice pa T.length pc) rfl
  clear hK hu hc hT h40 hKn h8 hZ hi hz0 hz1 hz2
  go_enter Tryz.func22, Tryz.ntmps22
  go_wp2_with fail
  clear x0
  go_loopg [3, 14] T.length (fun gk v i wr => ∃ k : Nat, k + gk = T.length ∧ i = .int .i64 k ∧ wr.ownsRow w.heap.size 9 1 v (k * 3) (strs (flat3 (T.take k))) ∧ Below w.heap.size w wr)
  case atStart => exact ⟨0, by omega, rfl, World.ownsRow_nil _ _ _ _, Below.refl _ _⟩
  case round =>
    obtain ⟨k, hk, rfl, hown, hB⟩ := hrel
    obtain ⟨ua, uc, rfl⟩ := owns_slice hown
    by_cases hlt : k < T.length
    · obtain ⟨x, hx⟩ : ∃ x, T[k]? = some x := ⟨_, List.getElem?_eq_getElem hlt⟩
      have h3 := HOK.out.1 x (List.mem_of_getElem? hx)
      have HT : Hid (flat3 (T.take (k + 1)) = flat3 (T.take k) ++ trio x) := flat3_take hx
      obtain ⟨b1, o1, hpa, y0, y1, y2⟩ := (HKB.out _ hB).2.1.at hx
      obtain ⟨xa, xb, xc⟩ := x
      subst hpa
      obtain ⟨o3a, o3b, o3c⟩ : (0 ≤ xa ∧ xa ≤ 1099511627776) ∧ (0 ≤ xb ∧ xb ≤ 1099511627776) ∧ 0 ≤ xc ∧ xc ≤ 1099511627776 := h3
      have HN1 : Hid (∀ W, Calls Tryz.prog 34 #[.int .i64 xa] W fun e W' => e = .returned (.string (bs (Lib.itoa xa))) ∧ Below W.heap.size W W') := fun W => rNum_any xa W (by omega) (by omega)
      have HN2 : Hid (∀ W, Calls Tryz.prog 34 #[.int .i64 xb] W fun e W' => e = .returned (.string (bs (Lib.itoa xb))) ∧ Below W.heap.size W W') := fun W => rNum_any xb W (by omega) (by omega)
      have HN3 : Hid (∀ W, Calls Tryz.prog 34 #[.int .i64 xc] W fun e W' => e = .returned (.string (bs (Lib.itoa xc))) ∧ Below W.heap.size W W') := fun W => rNum_any xc W (by omega) (by omega)
      have HTR : Hid (strs (flat3 (T.take (k + 1))) = strs (flat3 (T.take k)) ++ [.string (bs (Lib.itoa xa)), .string (bs (Lib.itoa xb)), .string (bs (Lib.itoa xc))]) := by show _ = _; rw [HT.out, strs_app]; rfl
      obtain ⟨I1, hI1⟩ : ∃ I, Lib.itoa xa = I := ⟨_, rfl⟩
      obtain ⟨I2, hI2⟩ : ∃ I, Lib.itoa xb = I := ⟨_, rfl⟩
      obtain ⟨I3, hI3⟩ : ∃ I, Lib.itoa xc = I := ⟨_, rfl⟩
      rw [hI1] at HN1 HTR
      rw [hI2] at HN2 HTR
      rw [hI3] at HN3 HTR
      obtain ⟨F, hF⟩ : ∃ F, flat3 (T.take k) = F := ⟨_, rfl⟩
      rw [hF] at hown HTR
      have hbA := (Below.refl wr.heap.size wr).alloc (Nat.le_refl _) (.cells #[.int .i64 xa, .int .i64 xb, .int .i64 xc] 100)
      have rD := heap_alloc_new wr (.cells #[.int .i64 xa, .int .i64 xb, .int .i64 xc] 100)
      have hownA := own_kept hown hbA
      have hBA := hB.trans (hbA.mono hB.size)
      obtain ⟨WA, hWA⟩ : ∃ W, wr.alloc (.cells #[.int .i64 xa, .int .i64 xb, .int .i64 xc] 100) = W := ⟨_, rfl⟩
      obtain ⟨D, hD⟩ : ∃ D, wr.heap.size = D := ⟨_, rfl⟩
      have HDL : Hid (D < WA.heap.size) := by show _ < _; rw [← hWA, ← hD]; simp
      have HDN : Hid (some D ≠ (Value.slice ua (k * 3) uc).ownBlock) := fun e => by have := (hown.lt D e.symm).2; omega
      rw [hWA] at rD hownA hBA
      rw [hD] at rD
      have HV : Hid (wr.alloc (.cells #[.int .i64 xa, .int .i64 xb, .int .i64 xc] 100) = WA ∧ wr.heap.size = D) := ⟨hWA, hD⟩
      have HSB : Hid (∀ W, Below WA.heap.size WA W → W.heap[D]? = some (.cells #[.int .i64 xa, .int .i64 xb, .int .i64 xc] 100)) := fun W hb => (hb.block D HDL.out).trans rD
      have HOA : Hid (WA.ownsRow w.heap.size 9 1 (.slice ua (k * 3) uc) (k * 3) (strs F)) := hownA
      have HBA : Hid (Below w.heap.size w WA) := hBA
      have HML : Hid (k * 3 + 3 ≤ maxLen ∧ (k * 3 + 3) * 16 ≤ 140737488355328) := by have := HL.out.1; exact ⟨by unfold maxLen; omega, by omega⟩
      have k0 : (0 : Int) ≤ (k : Int) := by omega
      have k1 : (k : Int) < (T.length : Int) := by omega
      have hk9 : k ≤ 1000 := by have := HL.out.1; omega
      clear hx hbA rD hownA hBA hWA hD hown hB hF hI1 hI2 hI3 o3a o3b o3c HT
      go_upto_region 5 with fail
      rw [HV.out.1, HV.out.2]
      clear HV y0 y1 y2
      refine region_Z 99 (fun w' => w'.heap[D]? = some (.cells #[.int .i64 xa, .int .i64 xb, .int .i64 xc] 100)) (by kernel_rfl) ?_
      have hbD : Below WA.heap.size WA WA.drew := below_drew (Below.refl _ _)
      have hS0 := HSB.out _ hbD
      refine Y_take (i := 0) (v := ?_) rfl (by kernel_rfl) (by kernel_rfl) (by kernel_rfl) (by kernel_rfl) (fun _ _ _ h => h) (by rfl) hS0 ?_ ?_
      rotate_left
      · (intro w' hSw; have f0 := cellB hSw 0 (.int .i64 xa) rfl; have f1 := cellB hSw 1 (.int .i64 xb) rfl; have f2 := cellB hSw 2 (.int .i64 xc) rfl; go_simp; (try with_reducible rfl))
      simp only [Act.put, List.setIfInBounds_toArray]
      refine Y_take (i := 1) (v := ?_) rfl (by kernel_rfl) (by kernel_rfl) (by kernel_rfl) (by kernel_rfl) (fun _ _ _ h => h) (by rfl) hS0 ?_ ?_
      rotate_left
      · (intro w' hSw; have f0 := cellB hSw 0 (.int .i64 xa) rfl; have f1 := cellB hSw 1 (.int .i64 xb) rfl; have f2 := cellB hSw 2 (.int .i64 xc) rfl; go_simp; (try with_reducible rfl))
      simp only [Act.put]
      refine Y_take (i := 2) (v := ?_) rfl (by kernel_rfl) (by kernel_rfl) (by kernel_rfl) (by kernel_rfl) (fun _ _ _ h => h) (by rfl) hS0 ?_ ?_
      rotate_left
      · (intro w' hSw; have f0 := cellB hSw 0 (.int .i64 xa) rfl; have f1 := cellB hSw 1 (.int .i64 xb) rfl; have f2 := cellB hSw 2 (.int .i64 xc) rfl; go_simp; (try with_reducible rfl))
      simp only [Act.put]
      refine Y_take (i := 4) (v := ?_) rfl (by kernel_rfl) (by kernel_rfl) (by kernel_rfl) (by kernel_rfl) (fun _ _ _ h => h) (by rfl) hS0 ?_ ?_
      rotate_left
      · (intro w' hSw; have f0 := cellB hSw 0 (.int .i64 xa) rfl; have f1 := cellB hSw 1 (.int .i64 xb) rfl; have f2 := cellB hSw 2 (.int .i64 xc) rfl; go_simp; (try with_reducible rfl))
      simp only [Act.put]
      refine Y_take (i := 5) (v := ?_) rfl (by kernel_rfl) (by kernel_rfl) (by kernel_rfl) (by kernel_rfl) (fun _ _ _ h => h) (by rfl) hS0 ?_ ?_
      rotate_left
      · (intro w' hSw; have f0 := cellB hSw 0 (.int .i64 xa) rfl; have f1 := cellB hSw 1 (.int .i64 xb) rfl; have f2 := cellB hSw 2 (.int .i64 xc) rfl; go_simp; (try with_reducible rfl))
      simp only [Act.put]
      refine Y_take (i := 7) (v := ?_) rfl (by kernel_rfl) (by kernel_rfl) (by kernel_rfl) (by kernel_rfl) (fun _ _ _ h => h) (by rfl) hS0 ?_ ?_
      rotate_left
      · (intro w' hSw; have f0 := cellB hSw 0 (.int .i64 xa) rfl; have f1 := cellB hSw 1 (.int .i64 xb) rfl; have f2 := cellB hSw 2 (.int .i64 xc) rfl; go_simp; (try with_reducible rfl))
      simp only [Act.put]
      refine Y_take (i := 8) (v := ?_) rfl (by kernel_rfl) (by kernel_rfl) (by kernel_rfl) (by kernel_rfl) (fun _ _ _ h => h) (by rfl) hS0 ?_ ?_
      rotate_left
      · (intro w' hSw; have f0 := cellB hSw 0 (.int .i64 xa) rfl; have f1 := cellB hSw 1 (.int .i64 xb) rfl; have f2 := cellB hSw 2 (.int .i64 xc) rfl; go_simp; (try with_reducible rfl))
      simp only [Act.put]
      refine Z_step (i := 3) (by kernel_rfl) rfl (fun Kk hK => ?_)
      go_simp
      refine (HN1.out _).mono ?_
      rintro e w2 ⟨rfl, hb2'⟩
      have hb2 := hbD.trans (hb2'.mono hbD.size)
      have hS2 := HSB.out _ hb2
      refine hK _ _ (fun _ => hS2) ?_
      clear hK Kk
      refine Z_step (i := 6) (by kernel_rfl) rfl (fun Kk hK => ?_)
      go_simp
      refine (HN2.out _).mono ?_
      rintro e w3 ⟨rfl, hb3'⟩
      have hb3 := hb2.trans (hb3'.mono hb2.size)
      have hS3 := HSB.out _ hb3
      refine hK _ _ (fun _ => hS3) ?_
      clear hK Kk
      refine Z_step (i := 9) (by kernel_rfl) rfl (fun Kk hK => ?_)
      go_simp
      refine (HN3.out _).mono ?_
      rintro e w4 ⟨rfl, hb4'⟩
      have hb4 := hb3.trans (hb4'.mono hb3.size)
      have hS4 := HSB.out _ hb4
      refine hK _ _ (fun _ => hS4) ?_
      clear hK Kk
      refine Z_step (i := 10) (by kernel_rfl) rfl (fun Kk hK => ?_)
      go_simp
      have hb5 := hb4.alloc hb4.size (.cells #[.string (bs I1), .string (bs I2), .string (bs I3)] 9)
      have rN := heap_alloc_new w4 (.cells #[.string (bs I1), .string (bs I2), .string (bs I3)] 9)
      have hS5 := HSB.out _ hb5
      refine hK _ _ (fun _ => hS5) ?_
      clear hK Kk
      have hown5 := own_kept HOA.out hb5
      refine Z_step (i := 11) (by kernel_rfl) rfl (fun Kk hK => ?_)
      refine step_append_lies _ (by rfl) _ _ 73 (by rfl) w.heap.size 9 i0 (.string ⟨#[]⟩) 1 16 Tryz.underlying73 HINF.out.1 HINF.out.2.1 HINF.out.2.2.1 HINF.out.2.2.2 rfl (by decide) _ (k * 3) (strs F) (by rfl) hown5 ⟨w4.heap.size, 0, none⟩ 3 3 [.string (bs I1), .string (bs I2), .string (bs I3)] (by rfl) rfl (World.news_of_block (B := w4.heap.size) rN) (by simp [Value.oneCell']) (by decide) HML.out.1 HML.out.2 (Nat.le_trans HBA.out.size hb5.size) _ rfl ?_
      intro ga ca w7 hown7 hgrow hat hlt7
      have hB7 := (HBA.out.trans (hb5.mono HBA.out.size)).grown hgrow (Nat.le_trans HBA.out.size hb5.size) (fun q hq => (hown5.lt q hq).1)
      have rD7 := (hgrow.block D (Nat.lt_of_lt_of_le HDL.out hb5.size) HDN.out).trans hS5
      refine hK _ _ (fun _ => rD7) ?_
      clear hK Kk
      simp only [Act.put]
      refine Z_step (i := 12) (by kernel_rfl) rfl (fun Kk hK => ?_)
      go_simp
      refine hK _ _ (fun _ => rD7) (Z_done (by kernel_rfl) ?_ _)
      clear hK Kk
      have HRR : Hid (w7.ownsRow w.heap.size 9 1 (.slice (some ⟨ga, 0, none⟩) (k * 3 + 3) ca) (k * 3 + 3) (strs F ++ [.string (bs I1), .string (bs I2), .string (bs I3)]) ∧ _) := ⟨hown7, hB7⟩
      clear hown7 hB7 rD7 hat hlt7 hgrow hown5 hS5 rN hb5 hS4 hb4 hb4' hS3 hb3 hb3' hS2 hb2 hb2' hS0 hbD
      go_wp2_with fail
      go_roundg (T.length - (k + 1))
      case measure => omega
      case rel => exact ⟨k + 1, by omega, by go_num, by rw [HTR.out, show (k + 1) * 3 = k * 3 + 3 by omega]; exact HRR.out.1, HRR.out.2⟩
    · have hkl : k = T.length := by omega
      subst hkl
      rw [List.take_length] at hown
      have HA : Hid (Sl wr (.slice ua (T.length * 3) uc) (flat3 T)) := Cs_rowN hown (by rw [flat3_len])
      have HWS : Hid (Below w.heap.size w wr) := hB
      obtain ⟨ws, rfl⟩ : ∃ ws, ws = wr := ⟨_, rfl⟩
      clear hown hB hk hlt
      go_wp2_with fail
      go_loopg [6, 7] 8 (fun gk v i wr => ∃ (k : Nat) (Q : List C3), k + gk = 8 ∧ i = .int .i64 k ∧ Q = knF 0 (cl.take k) ∧ wr.ownsRow ws.heap.size 9 1 v (Q.length * 3) (strs (flat3 Q)) ∧ Below ws.heap.size ws wr)
      case atStart => exact ⟨0, [], by omega, rfl, rfl, World.ownsRow_nil _ _ _ _, Below.refl _ _⟩
      case round =>
        obtain ⟨k, Q, hk, rfl, hQ, hown, hB⟩ := hrel
        obtain ⟨va, vc, rfl⟩ := owns_slice hown
        by_cases hlt : k < 8
        · obtain ⟨x, hx⟩ : ∃ x, cl[k]? = some x := ⟨_, List.getElem?_eq_getElem (by rw [HL.out.2]; exact hlt)⟩
          obtain ⟨n, a⟩ := x
          have hbw := HWS.out.trans (hB.mono HWS.out.size)
          obtain ⟨q1, _, q3⟩ := HKB.out _ hbw
          have hOf := of_any (k : Int) K _ c (knF 0 cl) wr q1 q3 (by have := HOK.out.2.2; omega)
          have e9 := ofL_kn cl 0 k (n, a) hx
          rw [Nat.zero_add] at e9
          rw [e9] at hOf
          have HQT : Hid (knF 0 (cl.take (k + 1)) = Q ++ (if 0 < n then [((k : Int), (n : Int), a)] else [])) := by show _ = _; rw [hQ]; exact knF_take hx
          have hxo := HKN.out (n, a) (List.mem_of_getElem? hx)
          have hQ8 : Q.length ≤ 8 := by rw [hQ]; have h1 := knF_len (cl.take k) 0; have h2 := List.length_take_le k cl; omega
          have k0 : (0 : Int) ≤ (k : Int) := by omega
          have k1 : (k : Int) < 8 := by omega
          by_cases hn0 : 0 < n
          · rw [if_pos hn0] at hOf HQT
            have hOf2 : Calls Tryz.prog 51 #[.pointer (some ⟨K, 0, none⟩), .int .i64 (k : Int)] wr fun e W' => e = .returned (.agg #[.int .i64 (k : Int), .int .i64 (n : Int), .int .i64 a]) ∧ Below wr.heap.size wr W' := hOf
            have n0 : (0 : Int) < (n : Int) := by omega
            obtain ⟨o1, o2, o3⟩ := hxo
            have HN1 : Hid (∀ W, Calls Tryz.prog 34 #[.int .i64 (k : Int)] W fun e W' => e = .returned (.string (bs (Lib.itoa (k : Int)))) ∧ Below W.heap.size W W') := fun W => rNum_any (k : Int) W (by omega) (by omega)
            have HN2 : Hid (∀ W, Calls Tryz.prog 34 #[.int .i64 (n : Int)] W fun e W' => e = .returned (.string (bs (Lib.itoa (n : Int)))) ∧ Below W.heap.size W W') := fun W => rNum_any (n : Int) W (by omega) (by show (n : Int) ≤ _; have h : n ≤ 1099511627776 := o1; omega)
            have HN3 : Hid (∀ W, Calls Tryz.prog 34 #[.int .i64 a] W fun e W' => e = .returned (.string (bs (Lib.itoa a))) ∧ Below W.heap.size W W') := fun W => rNum_any a W (by have h : 0 ≤ a := o2; omega) (by have h : a ≤ 999 := o3; omega)
            have HTR : Hid (strs (flat3 (knF 0 (cl.take (k + 1)))) = strs (flat3 Q) ++ [.string (bs (Lib.itoa (k : Int))), .string (bs (Lib.itoa (n : Int))), .string (bs (Lib.itoa a))] ∧ (knF 0 (cl.take (k + 1))).length = Q.length + 1) := by
              rw [HQT.out]
              refine ⟨?_, by simp⟩
              show strs (flat3 (Q ++ [((k : Int), (n : Int), a)])) = _
              rw [show flat3 (Q ++ [((k : Int), (n : Int), a)]) = flat3 Q ++ trio ((k : Int), (n : Int), a) by simp [flat3], strs_app]
              rfl
            obtain ⟨I1, hI1⟩ : ∃ I, Lib.itoa (k : Int) = I := ⟨_, rfl⟩
            obtain ⟨I2, hI2⟩ : ∃ I, Lib.itoa (n : Int) = I := ⟨_, rfl⟩
            obtain ⟨I3, hI3⟩ : ∃ I, Lib.itoa a = I := ⟨_, rfl⟩
            rw [hI1] at HN1 HTR
            rw [hI2] at HN2 HTR
            rw [hI3] at HN3 HTR
            obtain ⟨F, hF⟩ : ∃ F, flat3 Q = F := ⟨_, rfl⟩
            rw [hF] at hown HTR
            have HO : Hid (wr.ownsRow ws.heap.size 9 1 (.slice va (Q.length * 3) vc) (Q.length * 3) (strs F)) := hown
            have HB : Hid (Below ws.heap.size ws wr) := hB
            have HML : Hid (Q.length * 3 + 3 ≤ maxLen ∧ (Q.length * 3 + 3) * 16 ≤ 140737488355328) := by exact ⟨by unfold maxLen; omega, by omega⟩
            clear hx hbw q1 q3 hOf e9 HQT o1 o2 o3 hQ8 hI1 hI2 hI3 hF hown hB hQ
            go_upto_region 12 with (first
              | (go_at_call 51; refine hOf2.mono ?_; clear hOf2; rintro e w1 ⟨rfl, hb1⟩; have HB1 : Hid (Below wr.heap.size wr w1) := hb1; clear hb1))
            have hbA := (Below.refl w1.heap.size w1).alloc (Nat.le_refl _) (.cells #[.int .i64 (k : Int), .int .i64 (n : Int), .int .i64 a] 103)
            have rD := heap_alloc_new w1 (.cells #[.int .i64 (k : Int), .int .i64 (n : Int), .int .i64 a] 103)
            have hown1 := own_kept HO.out HB1.out
            have hownA := own_kept hown1 hbA
            have hB1 := HB.out.trans (HB1.out.mono HB.out.size)
            have hBA := hB1.trans (hbA.mono hB1.size)
            obtain ⟨WA, hWA⟩ : ∃ W, w1.alloc (.cells #[.int .i64 (k : Int), .int .i64 (n : Int), .int .i64 a] 103) = W := ⟨_, rfl⟩
            obtain ⟨D, hD⟩ : ∃ D, w1.heap.size = D := ⟨_, rfl⟩
            have HDL : Hid (D < WA.heap.size) := by show _ < _; rw [← hWA, ← hD]; simp
            have HDN : Hid (some D ≠ (Value.slice va (Q.length * 3) vc).ownBlock) := fun e => by have := (hown1.lt D e.symm).2; omega
            rw [hWA] at rD hownA hBA ⊢
            rw [hD] at rD ⊢
            have HSB : Hid (∀ W, Below WA.heap.size WA W → W.heap[D]? = some (.cells #[.int .i64 (k : Int), .int .i64 (n : Int), .int .i64 a] 103)) := fun W hb => (hb.block D HDL.out).trans rD
            have HOA : Hid (WA.ownsRow ws.heap.size 9 1 (.slice va (Q.length * 3) vc) (Q.length * 3) (strs F)) := hownA
            have HBA : Hid (Below ws.heap.size ws WA) := hBA
            have f1 := cellB rD 1 (.int .i64 (n : Int)) rfl
            clear hbA rD hown1 hownA hB1 hBA hWA hD
            go_upto_region 13 with fail
            clear f1
            refine region_Z 99 (fun w' => w'.heap[D]? = some (.cells #[.int .i64 (k : Int), .int .i64 (n : Int), .int .i64 a] 103)) (by kernel_rfl) ?_
            have hbD : Below WA.heap.size WA WA.drew := below_drew (Below.refl _ _)
            have hS0 := HSB.out _ hbD
            refine Y_take (i := 0) (v := ?_) rfl (by kernel_rfl) (by kernel_rfl) (by kernel_rfl) (by kernel_rfl) (fun _ _ _ h => h) (by rfl) hS0 ?_ ?_
            rotate_left
            · (intro w' hSw; have f0 := cellB hSw 0 (.int .i64 (k : Int)) rfl; have f1 := cellB hSw 1 (.int .i64 (n : Int)) rfl; have f2 := cellB hSw 2 (.int .i64 a) rfl; go_simp; (try with_reducible rfl))
            simp only [Act.put, List.setIfInBounds_toArray]
            refine Y_take (i := 1) (v := ?_) rfl (by kernel_rfl) (by kernel_rfl) (by kernel_rfl) (by kernel_rfl) (fun _ _ _ h => h) (by rfl) hS0 ?_ ?_
            rotate_left
            · (intro w' hSw; have f0 := cellB hSw 0 (.int .i64 (k : Int)) rfl; have f1 := cellB hSw 1 (.int .i64 (n : Int)) rfl; have f2 := cellB hSw 2 (.int .i64 a) rfl; go_simp; (try with_reducible rfl))
            simp only [Act.put]
            refine Y_take (i := 3) (v := ?_) rfl (by kernel_rfl) (by kernel_rfl) (by kernel_rfl) (by kernel_rfl) (fun _ _ _ h => h) (by rfl) hS0 ?_ ?_
            rotate_left
            · (intro w' hSw; have f0 := cellB hSw 0 (.int .i64 (k : Int)) rfl; have f1 := cellB hSw 1 (.int .i64 (n : Int)) rfl; have f2 := cellB hSw 2 (.int .i64 a) rfl; go_simp; (try with_reducible rfl))
            simp only [Act.put]
            refine Y_take (i := 4) (v := ?_) rfl (by kernel_rfl) (by kernel_rfl) (by kernel_rfl) (by kernel_rfl) (fun _ _ _ h => h) (by rfl) hS0 ?_ ?_
            rotate_left
            · (intro w' hSw; have f0 := cellB hSw 0 (.int .i64 (k : Int)) rfl; have f1 := cellB hSw 1 (.int .i64 (n : Int)) rfl; have f2 := cellB hSw 2 (.int .i64 a) rfl; go_simp; (try with_reducible rfl))
            simp only [Act.put]
            refine Y_take (i := 6) (v := ?_) rfl (by kernel_rfl) (by kernel_rfl) (by kernel_rfl) (by kernel_rfl) (fun _ _ _ h => h) (by rfl) hS0 ?_ ?_
            rotate_left
            · (intro w' hSw; have f0 := cellB hSw 0 (.int .i64 (k : Int)) rfl; have f1 := cellB hSw 1 (.int .i64 (n : Int)) rfl; have f2 := cellB hSw 2 (.int .i64 a) rfl; go_simp; (try with_reducible rfl))
            simp only [Act.put]
            refine Y_take (i := 7) (v := ?_) rfl (by kernel_rfl) (by kernel_rfl) (by kernel_rfl) (by kernel_rfl) (fun _ _ _ h => h) (by rfl) hS0 ?_ ?_
            rotate_left
            · (intro w' hSw; have f0 := cellB hSw 0 (.int .i64 (k : Int)) rfl; have f1 := cellB hSw 1 (.int .i64 (n : Int)) rfl; have f2 := cellB hSw 2 (.int .i64 a) rfl; go_simp; (try with_reducible rfl))
            simp only [Act.put]
            refine Z_step (i := 2) (by kernel_rfl) rfl (fun Kk hK => ?_)
            go_simp
            refine (HN1.out _).mono ?_
            rintro e w2 ⟨rfl, hb2'⟩
            have hb2 := hbD.trans (hb2'.mono hbD.size)
            have hS2 := HSB.out _ hb2
            refine hK _ _ (fun _ => hS2) ?_
            clear hK Kk
            refine Z_step (i := 5) (by kernel_rfl) rfl (fun Kk hK => ?_)
            go_simp
            refine (HN2.out _).mono ?_
            rintro e w3 ⟨rfl, hb3'⟩
            have hb3 := hb2.trans (hb3'.mono hb2.size)
            have hS3 := HSB.out _ hb3
            refine hK _ _ (fun _ => hS3) ?_
            clear hK Kk
            refine Z_step (i := 8) (by kernel_rfl) rfl (fun Kk hK => ?_)
            go_simp
            refine (HN3.out _).mono ?_
            rintro e w4 ⟨rfl, hb4'⟩
            have hb4 := hb3.trans (hb4'.mono hb3.size)
            have hS4 := HSB.out _ hb4
            refine hK _ _ (fun _ => hS4) ?_
            clear hK Kk
            refine Z_step (i := 9) (by kernel_rfl) rfl (fun Kk hK => ?_)
            go_simp
            have hb5 := hb4.alloc hb4.size (.cells #[.string (bs I1), .string (bs I2), .string (bs I3)] 9)
            have rN := heap_alloc_new w4 (.cells #[.string (bs I1), .string (bs I2), .string (bs I3)] 9)
            have hS5 := HSB.out _ hb5
            refine hK _ _ (fun _ => hS5) ?_
            clear hK Kk
            have hown5 := own_kept HOA.out hb5
            refine Z_step (i := 10) (by kernel_rfl) rfl (fun Kk hK => ?_)
            refine step_append_lies _ (by rfl) _ _ 73 (by rfl) ws.heap.size 9 i0 (.string ⟨#[]⟩) 1 16 Tryz.underlying73 HINF.out.1 HINF.out.2.1 HINF.out.2.2.1 HINF.out.2.2.2 rfl (by decide) _ (Q.length * 3) (strs F) (by rfl) hown5 ⟨w4.heap.size, 0, none⟩ 3 3 [.string (bs I1), .string (bs I2), .string (bs I3)] (by rfl) rfl (World.news_of_block (B := w4.heap.size) rN) (by simp [Value.oneCell']) (by decide) HML.out.1 HML.out.2 (Nat.le_trans HBA.out.size hb5.size) _ rfl ?_
            intro ga ca w7 hown7 hgrow hat hlt7
            have hB7 := (HBA.out.trans (hb5.mono HBA.out.size)).grown hgrow (Nat.le_trans HBA.out.size hb5.size) (fun q hq => (hown5.lt q hq).1)
            have rD7 := (hgrow.block D (Nat.lt_of_lt_of_le HDL.out hb5.size) HDN.out).trans hS5
            refine hK _ _ (fun _ => rD7) ?_
            clear hK Kk
            simp only [Act.put]
            refine Z_step (i := 11) (by kernel_rfl) rfl (fun Kk hK => ?_)
            go_simp
            refine hK _ _ (fun _ => rD7) (Z_done (by kernel_rfl) ?_ _)
            clear hK Kk
            have HRR : Hid (w7.ownsRow ws.heap.size 9 1 (.slice (some ⟨ga, 0, none⟩) (Q.length * 3 + 3) ca) (Q.length * 3 + 3) (strs F ++ [.string (bs I1), .string (bs I2), .string (bs I3)]) ∧ _) := ⟨hown7, hB7⟩
            clear hown7 hB7 rD7 hat hlt7 hgrow hown5 hS5 rN hb5 hS4 hb4 hb4' hS3 hb3 hb3' hS2 hb2 hb2' hS0 hbD
            go_wp2_with fail
            go_roundg (8 - (k + 1))
            case measure => omega
            case rel => exact ⟨k + 1, _, by omega, by go_num, rfl, by rw [HTR.out.1, HTR.out.2, show (Q.length + 1) * 3 = Q.length * 3 + 3 by omega]; exact HRR.out.1, HRR.out.2⟩
          · rw [if_neg hn0] at hOf HQT
            have hOf2 : Calls Tryz.prog 51 #[.pointer (some ⟨K, 0, none⟩), .int .i64 (k : Int)] wr fun e W' => e = .returned (.agg #[.int .i64 0, .int .i64 0, .int .i64 0]) ∧ Below wr.heap.size wr W' := hOf
            have HO : Hid (wr.ownsRow ws.heap.size 9 1 (.slice va (Q.length * 3) vc) (Q.length * 3) (strs (flat3 Q))) := hown
            have HB : Hid (Below ws.heap.size ws wr) := hB
            have HQ2 : Hid (Q = knF 0 (cl.take (k + 1))) := by show _ = _; rw [HQT.out, List.append_nil]
            clear hx hbw q1 q3 hOf e9 HQT hxo hQ8 hown hB hQ hn0
            go_upto_region 12 with (first
              | (go_at_call 51; refine hOf2.mono ?_; clear hOf2; rintro e w1 ⟨rfl, hb1⟩; have HB1 : Hid (Below wr.heap.size wr w1) := hb1; clear hb1))
            have hbA := (Below.refl w1.heap.size w1).alloc (Nat.le_refl _) (.cells #[.int .i64 0, .int .i64 0, .int .i64 0] 103)
            have rD := heap_alloc_new w1 (.cells #[.int .i64 0, .int .i64 0, .int .i64 0] 103)
            have hb2 := HB1.out.trans (hbA.mono HB1.out.size)
            have hownA := own_kept HO.out hb2
            have hBA := HB.out.trans (hb2.mono HB.out.size)
            obtain ⟨WA, hWA⟩ : ∃ W, w1.alloc (.cells #[.int .i64 0, .int .i64 0, .int .i64 0] 103) = W := ⟨_, rfl⟩
            obtain ⟨D, hD⟩ : ∃ D, w1.heap.size = D := ⟨_, rfl⟩
            rw [hWA] at rD hownA hBA ⊢
            rw [hD] at rD ⊢
            have HOA : Hid (WA.ownsRow ws.heap.size 9 1 (.slice va (Q.length * 3) vc) (Q.length * 3) (strs (flat3 Q)) ∧ Below ws.heap.size ws WA) := ⟨hownA, hBA⟩
            have f1 := cellB rD 1 (.int .i64 0) rfl
            clear hbA rD hb2 hownA hBA hWA hD
            go_wp2_with fail
            go_roundg (8 - (k + 1))
            case measure => omega
            case rel => exact ⟨k + 1, Q, by omega, by go_num, HQ2.out, HOA.out⟩
        · have hk8 : k = 8 := by omega
          subst hk8
          rw [List.take_of_length_le (by have := HL.out.2; omega)] at hQ
          subst hQ
          have hslb : Sl wr (.slice va ((knF 0 cl).length * 3) vc) (flat3 (knF 0 cl)) := Cs_rowN hown (by rw [flat3_len])
          have hP1 := HPK.out wr _ T (HA.out.below hB (Nat.le_refl _)) HOK.out.1 (by have := HL.out.1; omega)
          have HP2 : Hid (∀ W, Below wr.heap.size wr W → Calls Tryz.prog 33 #[.slice va ((knF 0 cl).length * 3) vc] W fun e W' => e = .returned (.string (bs (packT (knF 0 cl)))) ∧ Below W.heap.size W W') := fun W hW => HPK.out W _ (knF 0 cl) (hslb.below hW (Nat.le_refl _)) HOK.out.2.1 (by have := HOK.out.2.2; omega)
          have HBW : Hid (Below w.heap.size w wr) := HWS.out.trans (hB.mono HWS.out.size)
          obtain ⟨P1, hP1'⟩ : ∃ P, packT T = P := ⟨_, rfl⟩
          obtain ⟨P2, hP2'⟩ : ∃ P, packT (knF 0 cl) = P := ⟨_, rfl⟩
          rw [hP1'] at hP1 HPP
          rw [hP2'] at HP2 HPP
          clear hown hB hslb hP1' hP2'
          go_wp2_with (first
            | (go_at_call 33; have hb53 := H52.out.alloc H52.out.size (.cells #[.string (bs P1), .string (bs P2)] 9); refine (HPP.out _ _ (Sl_new2 w52 P1 P2)).mono ?_; rintro e w54 ⟨rfl, hb54⟩; have hB54 := HBW.out.trans ((hb53.trans (hb54.mono hb53.size)).mono HBW.out.size); clear hb53 hb54)
            | (go_at_call 33; have hg := H51.out; refine (HP2.out _ hg).mono ?_; rintro e w52 ⟨rfl, hb52⟩; have H52 : Hid (Below wr.heap.size wr w52) := hg.trans (hb52.mono hg.size); clear hb52 hg)
            | (go_at_call 33; refine hP1.mono ?_; clear hP1; rintro e w51 ⟨rfl, hb51⟩; have H51 : Hid (Below wr.heap.size wr w51) := hb51; clear hb51))
          go_ret
          exact ⟨rfl, hB54⟩
end Go.Proofs.YtfolnlgceighbaaGreatDoor
