/- Configurations' texts: Text, the document's Text, ref, walked. -/
import Derived.Test.YtfjbhljnledphaaGreatDoorKtA
import Derived.Test.YtfjbhljnledphaaGreatDoorKtC
import Derived.Test.YtfjbhljnledphaaGreatDoorCdA
import Derived.Test.YtfjbhljnledphaaGreatDoorChT
namespace Go.Proofs.YtfjbhljnledphaaGreatDoor
open Go.RowKit
attribute [local go_sem ↓] Go.wp_at_zero Go.wp_at_succ

theorem Tryz.size32 : (Tryz.prog.info? 32).map (·.size) = some 6 := by kernel_rfl
theorem res32 {W : World} {R : Nat} {L : List Value} (h : W.rangeAt R 0 L) (hl : L.length = 6) : (loadVar 32 ⟨R, 0, none⟩).run Tryz.prog W = .ok (.agg L.toArray) W :=
  run_loadVar_mid W R 0 32 L _ h Tryz.underlying32 rfl (by rw [hl]; exact Tryz.size32)
theorem Sl_new4 (w : World) (s0 s1 s2 s3 : List UInt8) : Sl (w.alloc (.cells #[.string (bs s0), .string (bs s1), .string (bs s2), .string (bs s3)] 9)) (.slice (some ⟨w.heap.size, 0, none⟩) 4 4) [s0, s1, s2, s3] := by
  have r := heap_alloc_new w (.cells #[.string (bs s0), .string (bs s1), .string (bs s2), .string (bs s3)] 9)
  refine .inr ⟨w.heap.size, 0, 4, rfl, by simp, fun i t ht => ?_⟩
  rw [Nat.zero_add]
  rcases i with _ | _ | _ | _ | i <;> simp at ht <;> subst ht
  · exact cellB r 0 _ rfl
  · exact cellB r 1 _ rfl
  · exact cellB r 2 _ rfl
  · exact cellB r 3 _ rfl
theorem Il_arr {w : World} {B : Nat} {num : Int} {gv : Value} {a b c d : Int} {t : TypeId} (h : w.heap[B]? = some (.cells (cf num gv a b c d) t)) : Il w (.slice (some ⟨B, 2, none⟩) 4 4) [a, b, c, d] := by
  refine .inr ⟨B, 2, 4, rfl, (Array.getElem?_eq_some_iff.1 h).1, fun i n hn => ?_⟩
  exact cellB h (2 + i) _ (cf_at num gv a b c d i n hn)
set_option maxRecDepth 20000 in
set_option maxHeartbeats 1000000 in
theorem cref_any (num : Int) (gv : Value) (hgv : ∃ x n c, gv = .slice x n c) (a b c d : Int) (w : World) :
    Calls Tryz.prog 9 #[.agg (cf num gv a b c d)] w fun e W' => e = .returned (.agg (cf num gv a b c d)) ∧ Below w.heap.size w W' := by
  obtain ⟨W0, hW0⟩ : ∃ W, (w.alloc (.cells (cf num gv a b c d) 25)).alloc (.cells (cf 0 (.slice none 0 0) 0 0 0 0) 32) = W := ⟨_, rfl⟩
  have hb0 : Below w.heap.size w W0 := by
    rw [← hW0]
    exact ((Below.refl _ w).alloc (Nat.le_refl _) _).alloc (by simp) _
  have r0 : W0.heap[w.heap.size]? = some (.cells (cf num gv a b c d) 25) := by
    rw [← hW0]
    exact (Below.heap_alloc _ _ _ (by simp)).trans (heap_alloc_new _ _)
  have r1 : W0.heap[w.heap.size + 1]? = some (.cells (cf 0 (.slice none 0 0) 0 0 0 0) 32) := by
    rw [← hW0]
    have := heap_alloc_new (w.alloc (.cells (cf num gv a b c d) 25)) (.cells (cf 0 (.slice none 0 0) 0 0 0 0) 32)
    rwa [show (w.alloc (.cells (cf num gv a b c d) 25)).heap.size = w.heap.size + 1 by simp] at this
  have HV : Hid ((w.alloc (.cells (cf num gv a b c d) 25)).alloc (.cells (cf 0 (.slice none 0 0) 0 0 0 0) 32) = W0) := hW0
  have x0 := cellB r0 0 _ rfl
  have x1 := cellB r0 1 _ rfl
  have x2 := cellB r0 2 _ rfl
  have x3 := cellB r0 3 _ rfl
  have x4 := cellB r0 4 _ rfl
  have x5 := cellB r0 5 _ rfl
  have R1 : Hid (W0.heap[w.heap.size + 1]? = some (.cells (cf 0 (.slice none 0 0) 0 0 0 0) 32)) := r1
  have KS : Hid (W0.there (w.heap.size + 1) 0 6) := blk_there r1 0 6 (Nat.le_refl _)
  obtain ⟨ga, gn, gc, rfl⟩ := hgv
  clear hW0 r0 r1
  go_enter Tryz.func9, Tryz.ntmps9
  go_upto_region 1 with fail
  rw [HV.out]
  clear HV
  go_wp2_with (first
    | (refine wpList_store_mid rfl 32 _ _ rfl (w.heap.size + 1) 0 (cf num (.slice ga gn gc) a b c d) rfl rfl KS.out Tryz.size32 (cf_ones _ _ _ _ _ _ _ _) ?_))
  have k4 := blk_range (blk_set R1.out (L := cfL num (.slice ga gn gc) a b c d) rfl)
  exact bodyPost_ret (v := .agg (cf num (.slice ga gn gc) a b c d)) (results_one rfl rfl (res32 k4 rfl)) rfl ⟨rfl, blk_below (by omega) _ _ _ hb0⟩
set_option maxRecDepth 20000 in
set_option maxHeartbeats 4000000 in
theorem cText_any (num : Int) (gv : Value) (ns : List Int) (a b c d : Int) (w : World) (hu : Il w gv ns) (hl : ns.length ≤ 1000000) (he : EnvP w) :
    Calls Tryz.prog 7 #[.agg (cf num gv a b c d)] w fun e W' => e = .returned (.tuple #[.string (bs (if okC num ns [a, b, c, d] = true then cfgT num ns [a, b, c, d] else [])), .int .i64 (if okC num ns [a, b, c, d] = true then 0 else 4)]) ∧ Below w.heap.size w W' := by
  have hb0 : Below w.heap.size w (w.alloc (.cells (cf num gv a b c d) 25)) := (Below.refl _ w).alloc (Nat.le_refl _) _
  have r0 := heap_alloc_new w (.cells (cf num gv a b c d) 25)
  obtain ⟨W0, hW0⟩ : ∃ W, w.alloc (.cells (cf num gv a b c d) 25) = W := ⟨_, rfl⟩
  have hsz : w.heap.size < W0.heap.size := by rw [← hW0]; simp
  rw [hW0] at hb0 r0
  have hC := Check_wide num gv ns a b c d W0 (hu.next hb0) hl
  have K0 : Hid (W0.rangeAt w.heap.size 0 (cfL num gv a b c d)) := blk_range (L := cfL num gv a b c d) r0
  have HV : Hid (w.alloc (.cells (cf num gv a b c d) 25) = W0) := hW0
  have HB : Hid (Below w.heap.size w W0 ∧ w.heap.size < W0.heap.size ∧ W0.heap[w.heap.size]? = some (.cells (cf num gv a b c d) 25) ∧ Il w gv ns ∧ EnvP w) := ⟨hb0, hsz, r0, hu, he⟩
  obtain ⟨pa, pc, hpv⟩ := hu.slice
  subst hpv
  clear hW0 r0 hb0 hsz hu he hl
  cases hok : okC num ns [a, b, c, d] with
  | false =>
    rw [hok, if_neg (by decide)] at hC
    rw [if_neg (by decide), if_neg (by decide)]
    clear hok
    go_enter Tryz.func7, Tryz.ntmps7
    go_upto_region 1 with fail
    rw [HV.out]
    clear HV
    go_wp2_with (first
      | (refine wpList_load_mid rfl 25 _ rfl w.heap.size 0 rfl (cfL num (.slice pa ns.length pc) a b c d) _ K0.out Tryz.underlying25 rfl Tryz.size25 ?_)
      | (go_at_call 13; refine hC.mono ?_; rintro e w1 ⟨rfl, hb1⟩; have hB1 := HB.out.1.trans (hb1.mono HB.out.1.size); clear hb1))
    exact bodyPost_ret (v := .tuple #[.string (bs []), .int .i64 4]) (by simp [results, Tryz.f7, go_sem, bs]) rfl ⟨rfl, hB1⟩
  | true =>
    rw [hok, if_pos rfl] at hC
    rw [if_pos rfl, if_pos rfl]
    have HOK : Hid (okC num ns [a, b, c, d] = true) := hok
    clear hok
    go_enter Tryz.func7, Tryz.ntmps7
    go_upto_region 1 with fail
    rw [HV.out]
    clear HV
    go_upto_region 4 with (first
      | (refine wpList_load_mid rfl 25 _ rfl w.heap.size 0 rfl (cfL num (.slice pa ns.length pc) a b c d) _ K0.out Tryz.underlying25 rfl Tryz.size25 ?_)
      | (go_at_call 13; refine hC.mono ?_; rintro e w1 ⟨rfl, hb1⟩; have H1 : Hid (Below W0.heap.size W0 w1) := hb1; clear hb1))
    obtain ⟨hb0, hsz, r0, hu, he⟩ := HB.out
    obtain ⟨n0, n1, hl4, hs, hos⟩ := okC_small HOK.out rfl
    have hbw1 := hb0.trans (H1.out.mono hb0.size)
    have r1 := (H1.out.block _ hsz).trans r0
    have hsz1 : w.heap.size < w1.heap.size := Nat.lt_of_lt_of_le hsz H1.out.size
    have HSB : Hid (∀ W, Below w1.heap.size w1 W → W.heap[w.heap.size]? = some (.cells (cf num (.slice pa ns.length pc) a b c d) 25)) := fun W hW => (hW.block _ hsz1).trans r1
    have HN : Hid (∀ W, Below w1.heap.size w1 W → Calls Tryz.prog 31 #[.int .i64 num] W fun e W' => e = .returned (.string (bs (Lib.itoa num))) ∧ Below W.heap.size W W') := fun W hW => Num_any num W (by omega) (by omega) (he.next (hbw1.trans (hW.mono hbw1.size)))
    have HG : Hid (∀ W, Below w1.heap.size w1 W → Calls Tryz.prog 32 #[.slice pa ns.length pc] W fun e W' => e = .returned (.string (bs (numsL ns))) ∧ Below W.heap.size W W') := fun W hW => cpack_any ns _ W (hu.next (hbw1.trans (hW.mono hbw1.size))) hs hl4 (he.next (hbw1.trans (hW.mono hbw1.size)))
    have HO : Hid (∀ W, Below w1.heap.size w1 W → Calls Tryz.prog 32 #[.slice (some ⟨w.heap.size, 2, none⟩) 4 4] W fun e W' => e = .returned (.string (bs (numsL [a, b, c, d]))) ∧ Below W.heap.size W W') := fun W hW => cpack_any [a, b, c, d] _ W (Il_arr ((hW.block _ hsz1).trans r1)) hos (Nat.le_refl _) (he.next (hbw1.trans (hW.mono hbw1.size)))
    have HBW : Hid (Below w.heap.size w w1) := hbw1
    have HP0 : Hid (∀ W u, Below w1.heap.size w1 W → Sl W u (cfgTs num ns [a, b, c, d]) → Calls Tryz.prog 30 #[u] W fun e W' => e = .returned (.string (bs (cfgT num ns [a, b, c, d]))) ∧ Below W.heap.size W W') := fun W u hW hs => by
      obtain ⟨t1, t2, _⟩ := cfg_tot HOK.out (by rfl : [a, b, c, d].length = 4)
      exact Pack_any (cfgTs num ns [a, b, c, d]) u W (by omega) (by omega) (he.next (hbw1.trans (hW.mono hbw1.size))) hs
    obtain ⟨Z, hZ⟩ : ∃ Z, cfgT num ns [a, b, c, d] = Z := ⟨_, rfl⟩
    have HZ : Hid (cfgT num ns [a, b, c, d] = Z) := hZ
    rw [hZ] at HP0
    unfold cfgTs at HP0
    obtain ⟨I1, hI1⟩ : ∃ I, Lib.itoa num = I := ⟨_, rfl⟩
    obtain ⟨I2, hI2⟩ : ∃ I, numsL ns = I := ⟨_, rfl⟩
    obtain ⟨I3, hI3⟩ : ∃ I, numsL [a, b, c, d] = I := ⟨_, rfl⟩
    rw [hI1] at HN HP0
    rw [hI2] at HG HP0
    rw [hI3] at HO HP0
    have HP : Hid (∀ W u, Below w1.heap.size w1 W → Sl W u [cfgW, I1, I2, I3] → Calls Tryz.prog 30 #[u] W fun e W' => e = .returned (.string (bs Z)) ∧ Below W.heap.size W W') := HP0.out
    clear HP0 hZ hI1 hI2 hI3 hb0 hsz r0 hu he n0 n1 hl4 hs hos hbw1 r1 hsz1 hC K0 HB H1 HOK
    refine region_Z 99 (fun w' => w'.heap[w.heap.size]? = some (.cells (cf num (.slice pa ns.length pc) a b c d) 25)) (by kernel_rfl) ?_
    have hbD : Below w1.heap.size w1 w1.drew := below_drew (Below.refl _ _)
    have hS0 := HSB.out _ hbD
    refine Y_take (i := 0) (v := ?_) rfl (by kernel_rfl) (by kernel_rfl) (by kernel_rfl) (by kernel_rfl) (fun _ _ _ h => h) (by rfl) hS0 ?_ ?_
    rotate_left
    · (intro w' hSw; have f0 := cellB hSw 0 _ rfl; have f1 := cellB hSw 1 _ rfl; go_simp; (try with_reducible rfl))
    simp only [Act.put, List.setIfInBounds_toArray]
    refine Y_take (i := 1) (v := ?_) rfl (by kernel_rfl) (by kernel_rfl) (by kernel_rfl) (by kernel_rfl) (fun _ _ _ h => h) (by rfl) hS0 ?_ ?_
    rotate_left
    · (intro w' hSw; have f0 := cellB hSw 0 _ rfl; have f1 := cellB hSw 1 _ rfl; go_simp; (try with_reducible rfl))
    simp only [Act.put]
    refine Y_take (i := 3) (v := ?_) rfl (by kernel_rfl) (by kernel_rfl) (by kernel_rfl) (by kernel_rfl) (fun _ _ _ h => h) (by rfl) hS0 ?_ ?_
    rotate_left
    · (intro w' hSw; have f0 := cellB hSw 0 _ rfl; have f1 := cellB hSw 1 _ rfl; go_simp; (try with_reducible rfl))
    simp only [Act.put]
    refine Y_take (i := 4) (v := ?_) rfl (by kernel_rfl) (by kernel_rfl) (by kernel_rfl) (by kernel_rfl) (fun _ _ _ h => h) (by rfl) hS0 ?_ ?_
    rotate_left
    · (intro w' hSw; have f0 := cellB hSw 0 _ rfl; have f1 := cellB hSw 1 _ rfl; go_simp; (try with_reducible rfl))
    simp only [Act.put]
    refine Y_take (i := 6) (v := ?_) rfl (by kernel_rfl) (by kernel_rfl) (by kernel_rfl) (by kernel_rfl) (fun _ _ _ h => h) (by rfl) hS0 ?_ ?_
    rotate_left
    · (intro w' hSw; have f0 := cellB hSw 0 _ rfl; have f1 := cellB hSw 1 _ rfl; go_simp; (try with_reducible rfl))
    simp only [Act.put]
    refine Y_take (i := 7) (v := ?_) rfl (by kernel_rfl) (by kernel_rfl) (by kernel_rfl) (by kernel_rfl) (fun _ _ _ h => h) (by rfl) hS0 ?_ ?_
    rotate_left
    · (intro w' hSw; have f0 := cellB hSw 0 _ rfl; have f1 := cellB hSw 1 _ rfl; go_simp; (try with_reducible rfl))
    simp only [Act.put]
    refine Z_step (i := 2) (by kernel_rfl) rfl (fun K hK => ?_)
    go_simp
    refine (HN.out _ hbD).mono ?_
    rintro e w2 ⟨rfl, hb2'⟩
    have hb2 := hbD.trans (hb2'.mono hbD.size)
    have hS2 := HSB.out _ hb2
    refine hK _ _ (fun _ => hS2) ?_
    clear hK K
    refine Z_step (i := 5) (by kernel_rfl) rfl (fun K hK => ?_)
    go_simp
    refine (HG.out _ hb2).mono ?_
    rintro e w3 ⟨rfl, hb3'⟩
    have hb3 := hb2.trans (hb3'.mono hb2.size)
    have hS3 := HSB.out _ hb3
    refine hK _ _ (fun _ => hS3) ?_
    clear hK K
    refine Z_step (i := 8) (by kernel_rfl) rfl (fun K hK => ?_)
    go_simp
    refine (HO.out _ hb3).mono ?_
    rintro e w4 ⟨rfl, hb4'⟩
    have hb4 := hb3.trans (hb4'.mono hb3.size)
    refine hK _ _ (fun _ => HSB.out _ hb4) ?_
    clear hK K
    refine Z_step (i := 9) (by kernel_rfl) rfl (fun K hK => ?_)
    go_simp
    have hb5 := hb4.alloc hb4.size (.cells #[.string (bs cfgW), .string (bs I1), .string (bs I2), .string (bs I3)] 9)
    have hsl := Sl_new4 w4 cfgW I1 I2 I3
    refine hK _ _ (fun _ => HSB.out _ hb5) ?_
    clear hK K
    refine Z_step (i := 10) (by kernel_rfl) rfl (fun K hK => ?_)
    go_simp
    refine (HP.out _ _ hb5 hsl).mono ?_
    rintro e w6 ⟨rfl, hb6'⟩
    have hb6 := hb5.trans (hb6'.mono hb5.size)
    have hS6 := HSB.out _ hb6
    refine hK _ _ (fun _ => hS6) ?_
    clear hK K
    refine Z_step (i := 11) (by kernel_rfl) rfl (fun K hK => ?_)
    go_simp
    refine hK _ _ (fun _ => hS6) ?_
    clear hK K
    refine Z_step (i := 12) (by kernel_rfl) rfl (fun K hK => ?_)
    go_simp
    refine hK _ _ (fun _ => hS6) (Z_done (by kernel_rfl) ?_ _)
    clear hK K
    go_wp2
    exact bodyPost_ret (v := .tuple #[.string (bs Z), .int .i64 0]) (by simp [results, Tryz.f7, go_sem]) rfl ⟨by rw [HZ.out], HBW.out.trans (hb6.mono HBW.out.size)⟩
set_option maxRecDepth 20000 in
set_option maxHeartbeats 4000000 in
theorem rText_any (num : Int) (gv : Value) (ns : List Int) (a b c d : Int) (w : World) (hu : Il w gv ns) (hl : ns.length ≤ 1000000) :
    Calls Tryz.prog 8 #[.agg (cf num gv a b c d)] w fun e W' => e = .returned (.tuple #[.string (bs (if okC num ns [a, b, c, d] = true then cfgT num ns [a, b, c, d] else [])), .int .i64 (if okC num ns [a, b, c, d] = true then 0 else 4)]) ∧ Below w.heap.size w W' := by
  have hb0 : Below w.heap.size w (w.alloc (.cells (cf num gv a b c d) 32)) := (Below.refl _ w).alloc (Nat.le_refl _) _
  have r0 := heap_alloc_new w (.cells (cf num gv a b c d) 32)
  obtain ⟨W0, hW0⟩ : ∃ W, w.alloc (.cells (cf num gv a b c d) 32) = W := ⟨_, rfl⟩
  have hsz : w.heap.size < W0.heap.size := by rw [← hW0]; simp
  rw [hW0] at hb0 r0
  have hC := rCheck_any num gv ns a b c d W0 (hu.next hb0) hl
  have K0 : Hid (W0.rangeAt w.heap.size 0 (cfL num gv a b c d)) := blk_range (L := cfL num gv a b c d) r0
  have HV : Hid (w.alloc (.cells (cf num gv a b c d) 32) = W0) := hW0
  have HB : Hid (Below w.heap.size w W0 ∧ w.heap.size < W0.heap.size ∧ W0.heap[w.heap.size]? = some (.cells (cf num gv a b c d) 32) ∧ Il w gv ns) := ⟨hb0, hsz, r0, hu⟩
  obtain ⟨pa, pc, hpv⟩ := hu.slice
  subst hpv
  clear hW0 r0 hb0 hsz hu hl
  cases hok : okC num ns [a, b, c, d] with
  | false =>
    rw [hok, if_neg (by decide)] at hC
    rw [if_neg (by decide), if_neg (by decide)]
    clear hok
    go_enter Tryz.func8, Tryz.ntmps8
    go_upto_region 1 with fail
    rw [HV.out]
    clear HV
    go_wp2_with (first
      | (refine wpList_load_mid rfl 32 _ rfl w.heap.size 0 rfl (cfL num (.slice pa ns.length pc) a b c d) _ K0.out Tryz.underlying32 rfl Tryz.size32 ?_)
      | (go_at_call 14; refine hC.mono ?_; rintro e w1 ⟨rfl, hb1⟩; have hB1 := HB.out.1.trans (hb1.mono HB.out.1.size); clear hb1))
    exact bodyPost_ret (v := .tuple #[.string (bs []), .int .i64 4]) (by simp [results, Tryz.f8, go_sem, bs]) rfl ⟨rfl, hB1⟩
  | true =>
    rw [hok, if_pos rfl] at hC
    rw [if_pos rfl, if_pos rfl]
    have HOK : Hid (okC num ns [a, b, c, d] = true) := hok
    obtain ⟨i0, hi, hz0, hz1, hz2⟩ := info_parts Tryz.info3
    clear hok
    go_enter Tryz.func8, Tryz.ntmps8
    go_upto_region 1 with fail
    rw [HV.out]
    clear HV
    go_upto_region 4 with (first
      | (refine wpList_load_mid rfl 32 _ rfl w.heap.size 0 rfl (cfL num (.slice pa ns.length pc) a b c d) _ K0.out Tryz.underlying32 rfl Tryz.size32 ?_)
      | (go_at_call 14; refine hC.mono ?_; rintro e w1 ⟨rfl, hb1⟩; have H1 : Hid (Below W0.heap.size W0 w1) := hb1; clear hb1))
    have HR1 : Hid (w1.heap[w.heap.size]? = some (.cells (cf num (.slice pa ns.length pc) a b c d) 32) ∧ w.heap.size < w1.heap.size) := ⟨(H1.out.block _ HB.out.2.1).trans HB.out.2.2.1, Nat.lt_of_lt_of_le HB.out.2.1 H1.out.size⟩
    obtain ⟨os, hos⟩ : ∃ os : List Int, [a, b, c, d] = os := ⟨_, rfl⟩
    have HOS : Hid ([a, b, c, d] = os) := hos
    have hl4 : os.length = 4 := by rw [← hos]; rfl
    clear hC K0 hos
    go_wp2_with fail
    go_loopg [5, 6] 4 (fun gk u i wr => ∃ k : Nat, k + gk = 4 ∧ i = .int .i64 k ∧ wr.ownsRow w1.heap.size 3 1 u k (zcs (os.take k)) ∧ Below w1.heap.size w1 wr)
    case atStart => exact ⟨0, by omega, rfl, World.ownsRow_nil _ _ _ _, Below.refl _ _⟩
    case round =>
      obtain ⟨k, hk, rfl, hown, hB⟩ := hrel
      obtain ⟨ua, uc, rfl⟩ := owns_slice hown
      by_cases hlt : k < 4
      · obtain ⟨n, hn⟩ : ∃ n, os[k]? = some n := ⟨_, List.getElem?_eq_getElem (by omega)⟩
        have x0 := cellB ((hB.block _ HR1.out.2).trans HR1.out.1) (2 + k) _ (cf_at num (.slice pa ns.length pc) a b c d k n (by rw [HOS.out]; exact hn))
        have HT : Hid (zcs (os.take (k + 1)) = zcs (os.take k) ++ [.int .i64 n]) := by
          show _ = _
          rw [List.take_add_one, hn]
          simp [zcs]
        obtain ⟨R, hR⟩ : ∃ R, zcs (os.take k) = R := ⟨_, rfl⟩
        rw [hR] at hown HT
        have k0 : (0 : Int) ≤ (k : Int) := by omega
        have k1 : (k : Int) < 4 := by omega
        have hml : k + 1 ≤ maxLen := by unfold maxLen; omega
        have hkb : (k + 1) * 8 ≤ 140737488355328 := by omega
        have hBs := hB.size
        clear hn hR
        go_wp2_with (first
          | (at_builtin; refine wpList_append_own _ rfl _ _ 22 rfl w1.heap.size 3 i0 (.int .i64 0) 1 8 Tryz.underlying22 hi hz0 hz1 hz2 rfl (by decide) (.slice ua k uc) k R rfl (hown.alloc _) _ 1 1 [.int .i64 n] rfl rfl (World.news_of_block (heap_alloc_new _ _)) (by simp [Value.oneCell']) hml hkb (by simp; omega) ?_; intro v' w' g1 g2 _))
        go_roundg (4 - (k + 1))
        case measure => omega
        case rel => exact ⟨k + 1, by omega, by go_num, by rw [HT.out]; exact g1, (hB.alloc hBs _).grown g2 (by simp; omega) (fun q hq => (hown.lt q hq).1)⟩
      · have hk4 : k = 4 := by omega
        subst hk4
        have hoil : Il wr (.slice ua 4 uc) os := by
          rw [show os.take 4 = os from List.take_of_length_le (by omega)] at hown
          rw [← hl4] at hown ⊢
          exact Il_owns hown
        obtain ⟨hb0, hsz, r0, hu⟩ := HB.out
        obtain ⟨n0, n1, hg4, hs, ho4⟩ := okC_small HOK.out rfl
        rw [HOS.out] at ho4
        have hbw1 := (hb0.trans (H1.out.mono hb0.size)).trans (hB.mono (Nat.le_trans hb0.size H1.out.size))
        have r1 := (hB.block _ HR1.out.2).trans HR1.out.1
        have hsz1 : w.heap.size < wr.heap.size := Nat.lt_of_lt_of_le HR1.out.2 hB.size
        have HSB : Hid (∀ W, Below wr.heap.size wr W → W.heap[w.heap.size]? = some (.cells (cf num (.slice pa ns.length pc) a b c d) 32)) := fun W hW => (hW.block _ hsz1).trans r1
        have HN : Hid (∀ W, Calls Tryz.prog 34 #[.int .i64 num] W fun e W' => e = .returned (.string (bs (Lib.itoa num))) ∧ Below W.heap.size W W') := fun W => rNum_any num W (by omega) (by omega)
        have HG : Hid (∀ W, Below wr.heap.size wr W → Calls Tryz.prog 35 #[.slice pa ns.length pc] W fun e W' => e = .returned (.string (bs (numsL ns))) ∧ Below W.heap.size W W') := fun W hW => rlist_any ns _ W (hu.next (hbw1.trans (hW.mono hbw1.size))) hs hg4
        have HO : Hid (∀ W, Below wr.heap.size wr W → Calls Tryz.prog 35 #[.slice ua 4 uc] W fun e W' => e = .returned (.string (bs (numsL os))) ∧ Below W.heap.size W W') := fun W hW => rlist_any os _ W (hoil.next hW) ho4 (by omega)
        have HBW : Hid (Below w.heap.size w wr) := hbw1
        have HP0 : Hid (∀ W u, Sl W u (cfgTs num ns os) → Calls Tryz.prog 33 #[u] W fun e W' => e = .returned (.string (bs (cfgT num ns os))) ∧ Below W.heap.size W W') := fun W u hs => by
          obtain ⟨t1, t2, _⟩ := cfg_tot (os := os) (by rw [← HOS.out]; exact HOK.out) hl4
          exact rPack_any (cfgTs num ns os) u W (by omega) (by omega) hs
        obtain ⟨Z, hZ⟩ : ∃ Z, cfgT num ns os = Z := ⟨_, rfl⟩
        have HZ : Hid (cfgT num ns [a, b, c, d] = Z) := by show _ = _; rw [HOS.out]; exact hZ
        rw [hZ] at HP0
        unfold cfgTs at HP0
        obtain ⟨I1, hI1⟩ : ∃ I, Lib.itoa num = I := ⟨_, rfl⟩
        obtain ⟨I2, hI2⟩ : ∃ I, numsL ns = I := ⟨_, rfl⟩
        obtain ⟨I3, hI3⟩ : ∃ I, numsL os = I := ⟨_, rfl⟩
        rw [hI1] at HN HP0
        rw [hI2] at HG HP0
        rw [hI3] at HO HP0
        have HP : Hid (∀ W u, Sl W u [cfgW, I1, I2, I3] → Calls Tryz.prog 33 #[u] W fun e W' => e = .returned (.string (bs Z)) ∧ Below W.heap.size W W') := HP0.out
        clear HP0 hZ hI1 hI2 hI3 hb0 hsz r0 hu n0 n1 hg4 hs ho4 hbw1 r1 hsz1 HB H1 HOK hown hB hoil hlt hl4 HOS HR1
        go_upto_region 9 with fail
        refine region_Z 99 (fun w' => w'.heap[w.heap.size]? = some (.cells (cf num (.slice pa ns.length pc) a b c d) 32)) (by kernel_rfl) ?_
        have hbD : Below wr.heap.size wr wr.drew := below_drew (Below.refl _ _)
        have hS0 := HSB.out _ hbD
        refine Y_take (i := 0) (v := ?_) rfl (by kernel_rfl) (by kernel_rfl) (by kernel_rfl) (by kernel_rfl) (fun _ _ _ h => h) (by rfl) hS0 ?_ ?_
        rotate_left
        · (intro w' hSw; have f0 := cellB hSw 0 _ rfl; have f1 := cellB hSw 1 _ rfl; go_simp; (try with_reducible rfl))
        simp only [Act.put, List.setIfInBounds_toArray]
        refine Y_take (i := 1) (v := ?_) rfl (by kernel_rfl) (by kernel_rfl) (by kernel_rfl) (by kernel_rfl) (fun _ _ _ h => h) (by rfl) hS0 ?_ ?_
        rotate_left
        · (intro w' hSw; have f0 := cellB hSw 0 _ rfl; have f1 := cellB hSw 1 _ rfl; go_simp; (try with_reducible rfl))
        simp only [Act.put]
        refine Y_take (i := 3) (v := ?_) rfl (by kernel_rfl) (by kernel_rfl) (by kernel_rfl) (by kernel_rfl) (fun _ _ _ h => h) (by rfl) hS0 ?_ ?_
        rotate_left
        · (intro w' hSw; have f0 := cellB hSw 0 _ rfl; have f1 := cellB hSw 1 _ rfl; go_simp; (try with_reducible rfl))
        simp only [Act.put]
        refine Y_take (i := 4) (v := ?_) rfl (by kernel_rfl) (by kernel_rfl) (by kernel_rfl) (by kernel_rfl) (fun _ _ _ h => h) (by rfl) hS0 ?_ ?_
        rotate_left
        · (intro w' hSw; have f0 := cellB hSw 0 _ rfl; have f1 := cellB hSw 1 _ rfl; go_simp; (try with_reducible rfl))
        simp only [Act.put]
        refine Y_take (i := 6) (v := ?_) rfl (by kernel_rfl) (by kernel_rfl) (by kernel_rfl) (by kernel_rfl) (fun _ _ _ h => h) (by rfl) hS0 ?_ ?_
        rotate_left
        · (intro w' hSw; have f0 := cellB hSw 0 _ rfl; have f1 := cellB hSw 1 _ rfl; go_simp; (try with_reducible rfl))
        simp only [Act.put]
        refine Z_step (i := 2) (by kernel_rfl) rfl (fun K hK => ?_)
        go_simp
        refine (HN.out _).mono ?_
        rintro e w2 ⟨rfl, hb2'⟩
        have hb2 := hbD.trans (hb2'.mono hbD.size)
        have hS2 := HSB.out _ hb2
        refine hK _ _ (fun _ => hS2) ?_
        clear hK K
        refine Z_step (i := 5) (by kernel_rfl) rfl (fun K hK => ?_)
        go_simp
        refine (HG.out _ hb2).mono ?_
        rintro e w3 ⟨rfl, hb3'⟩
        have hb3 := hb2.trans (hb3'.mono hb2.size)
        have hS3 := HSB.out _ hb3
        refine hK _ _ (fun _ => hS3) ?_
        clear hK K
        refine Z_step (i := 7) (by kernel_rfl) rfl (fun K hK => ?_)
        go_simp
        refine (HO.out _ hb3).mono ?_
        rintro e w4 ⟨rfl, hb4'⟩
        have hb4 := hb3.trans (hb4'.mono hb3.size)
        refine hK _ _ (fun _ => HSB.out _ hb4) ?_
        clear hK K
        refine Z_step (i := 8) (by kernel_rfl) rfl (fun K hK => ?_)
        go_simp
        have hb5 := hb4.alloc hb4.size (.cells #[.string (bs cfgW), .string (bs I1), .string (bs I2), .string (bs I3)] 9)
        have hsl := Sl_new4 w4 cfgW I1 I2 I3
        refine hK _ _ (fun _ => HSB.out _ hb5) ?_
        clear hK K
        refine Z_step (i := 9) (by kernel_rfl) rfl (fun K hK => ?_)
        go_simp
        refine (HP.out _ _ hsl).mono ?_
        rintro e w6 ⟨rfl, hb6'⟩
        have hb6 := hb5.trans (hb6'.mono hb5.size)
        have hS6 := HSB.out _ hb6
        refine hK _ _ (fun _ => hS6) ?_
        clear hK K
        refine Z_step (i := 10) (by kernel_rfl) rfl (fun K hK => ?_)
        go_simp
        refine hK _ _ (fun _ => hS6) ?_
        clear hK K
        refine Z_step (i := 11) (by kernel_rfl) rfl (fun K hK => ?_)
        go_simp
        refine hK _ _ (fun _ => hS6) (Z_done (by kernel_rfl) ?_ _)
        clear hK K
        go_wp2
        exact bodyPost_ret (v := .tuple #[.string (bs Z), .int .i64 0]) (by simp [results, Tryz.f8, go_sem]) rfl ⟨by rw [HZ.out], HBW.out.trans (hb6.mono HBW.out.size)⟩
end Go.Proofs.YtfjbhljnledphaaGreatDoor
