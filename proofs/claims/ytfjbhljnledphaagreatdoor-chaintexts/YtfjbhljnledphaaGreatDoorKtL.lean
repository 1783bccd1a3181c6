/- Chains: Loads, walked. -/
import Derived.Test.YtfjbhljnledphaaGreatDoorCbA
namespace Go.Proofs.YtfjbhljnledphaaGreatDoor
open Go.RowKit
attribute [local go_sem ↓] Go.wp_at_zero Go.wp_at_succ

set_option maxRecDepth 20000 in
set_option maxHeartbeats 4000000 in
theorem Loads_any (num : Int) (h0 : 0 ≤ num) (h1 : num ≤ 1099511627776) (gv : Value) (gs : List Nat) (a b c d : Nat) (w : World) (hu : Il w gv (zi gs)) (hg : gs ∈ subs0) (ho : [a, b, c, d] ∈ owners0 gs) :
    Calls Tryz.prog 17 #[.agg (cf num gv a b c d)] w fun e W' => ∃ v, e = .returned v ∧ Il W' v (zi (ldL gs [a, b, c, d])) ∧ Below w.heap.size w W' := by
  have hok : okC num (zi gs) [(a : Int), b, c, d] = true := ok_conf hg ho h0 h1
  have hl : (zi gs).length ≤ 1000 := by rw [zi_len]; have := (conf_of hg).1; omega
  have hg4 := (conf_of hg).2.1
  have hgl := (conf_of hg).1
  obtain ⟨_, ho4⟩ := (conf_of hg).2.2 _ ho
  have hb0 : Below w.heap.size w (w.alloc (.cells (cf num gv a b c d) 25)) := (Below.refl _ w).alloc (Nat.le_refl _) _
  have r0 := heap_alloc_new w (.cells (cf num gv a b c d) 25)
  obtain ⟨W0, hW0⟩ : ∃ W, w.alloc (.cells (cf num gv a b c d) 25) = W := ⟨_, rfl⟩
  have hsz : w.heap.size < W0.heap.size := by rw [← hW0]; simp
  rw [hW0] at hb0 r0
  have hC := Check_any num gv (zi gs) a b c d W0 (hu.next hb0) hl
  rw [if_pos hok] at hC
  have hN := fun W => count_any a b c d (ho4 a (by simp)) (ho4 b (by simp)) (ho4 c (by simp)) (ho4 d (by simp)) W
  have K0 : Hid (W0.rangeAt w.heap.size 0 (cfL num gv a b c d)) := blk_range (L := cfL num gv a b c d) r0
  have HV : Hid (w.alloc (.cells (cf num gv a b c d) 25) = W0) := hW0
  have R0 : Hid (W0.heap[w.heap.size]? = some (.cells (cf num gv a b c d) 25)) := r0
  have HB : Hid (Below w.heap.size w W0 ∧ w.heap.size < W0.heap.size ∧ Il w gv (zi gs)) := ⟨hb0, hsz, hu⟩
  obtain ⟨os, hos⟩ : ∃ os, cnt [a, b, c, d] = os := ⟨_, rfl⟩
  have hle : ∀ x, os x ≤ 4 := fun x => by rw [← hos]; exact cnt_le [a, b, c, d] x
  have hld : ldL gs [a, b, c, d] = gs.map os := by rw [← hos]; rfl
  rw [hld]
  rw [hos] at hN
  obtain ⟨pa, pc, hpv⟩ := hu.slice
  rw [zi_len] at hpv
  subst hpv
  clear hW0 r0 hb0 hsz hok hu ho ho4 hl hos hld h0 h1
  go_enter Tryz.func17, Tryz.ntmps17
  go_upto_region 1 with fail
  rw [HV.out]
  clear HV
  go_upto_region 3 with (first
    | (refine wpList_load_mid rfl 25 _ rfl w.heap.size 0 rfl (cfL num (.slice pa gs.length pc) a b c d) _ K0.out Tryz.underlying25 rfl Tryz.size25 ?_)
    | (go_at_call 13; refine hC.mono ?_; rintro e w1 ⟨rfl, hb1⟩; have H1 : Hid (Below W0.heap.size W0 w1) := hb1; clear hb1))
  obtain ⟨hb0, hsz, hu⟩ := HB.out
  have r1 := (H1.out.block _ hsz).trans R0.out
  have x1 := cellB r1 1 _ rfl
  have x2 := cellB r1 2 _ rfl
  have x3 := cellB r1 3 _ rfl
  have x4 := cellB r1 4 _ rfl
  have x5 := cellB r1 5 _ rfl
  have R1 : Hid (w1.heap[w.heap.size]? = some (.cells (cf num (.slice pa gs.length pc) a b c d) 25)) := r1
  clear hC K0 R0 hb0 hsz hu r1
  go_upto_region 4 with (first
    | (go_at_call 45; refine (hN _).mono ?_; rintro e w2 ⟨rfl, hb2⟩; have H2 : Hid (Below w1.heap.size w1 w2) := hb2; clear hb2))
  obtain ⟨hb0, hsz, hu⟩ := HB.out
  have hb1 := H1.out
  have hb2 := H2.out
  have hb3 := hb2.alloc hb2.size (.cells (lds os) 88)
  have r3 := (hb3.block _ (Nat.lt_of_lt_of_le hsz hb1.size)).trans R1.out
  have s3 := heap_alloc_new w2 (.cells (lds os) 88)
  have hbw := (hb0.trans (hb1.mono hb0.size)).trans (hb3.mono (Nat.le_trans hb0.size hb1.size))
  obtain ⟨W3, hW3⟩ : ∃ W, w2.alloc (.cells (lds os) 88) = W := ⟨_, rfl⟩
  have hX : w2.heap.size < W3.heap.size := by rw [← hW3]; simp
  have hY : w.heap.size < W3.heap.size := Nat.lt_of_lt_of_le (Nat.lt_of_lt_of_le hsz hb1.size) (by rw [← hW3]; exact hb3.size)
  rw [hW3] at r3 s3 hbw ⊢
  have hu3 := hu.next hbw
  obtain ⟨X, hXX⟩ : ∃ X, w2.heap.size = X := ⟨_, rfl⟩
  rw [hXX] at s3 hX ⊢
  have y1 := cellB r3 1 _ rfl
  have HD : Hid (Below w.heap.size w W3 ∧ w.heap.size < W3.heap.size) := ⟨hbw, hY⟩
  have HU : Hid (Il W3 (.slice pa gs.length pc) (zi gs)) := hu3
  have S3 : Hid (W3.heap[X]? = some (.cells (lds os) 88)) := s3
  obtain ⟨i0, hi, hz0, hz1, hz2⟩ := info_parts Tryz.info3
  clear hb0 hsz hu hb1 hb2 hb3 r3 hbw hW3 hXX hY hu3 s3 x1 x2 x3 x4 x5 HB R1 H1 H2 hN
  go_wp2_with fail
  go_loopg [4, 16] gs.length (fun gk u i wr => ∃ (k : Nat), k + gk = gs.length ∧ i = .int .i64 k ∧ wr.ownsRow W3.heap.size 3 1 u k (zcs (zi ((gs.take k).map os))) ∧ Below W3.heap.size W3 wr)
  case atStart => exact ⟨0, by omega, rfl, World.ownsRow_nil _ _ _ _, Below.refl _ _⟩
  case round =>
    obtain ⟨k, hk, rfl, hown, hB⟩ := hrel
    by_cases hlt : k < gs.length
    · obtain ⟨t, ht⟩ : ∃ t, gs[k]? = some t := ⟨_, List.getElem?_eq_getElem hlt⟩
      have t4 := (hg4 t (List.mem_of_getElem? ht)).2
      have hil := HU.out.next hB
      rw [← zi_len gs] at hil
      obtain ⟨b1, o1, hpa, _, q1⟩ := hil.at (zi_at gs k t ht)
      subst hpa
      have q2 := cellB ((hB.block _ hX).trans S3.out) t _ (lds_at os t t4)
      have htk : (gs.take (k + 1)).map os = (gs.take k).map os ++ [os t] := by rw [List.take_add_one, ht]; simp
      have HT : Hid (zcs (zi ((gs.take (k + 1)).map os)) = zcs (zi ((gs.take k).map os)) ++ [.int .i64 (os t : Nat)]) := by
        show _ = _
        rw [htk]
        simp [zi, zcs]
      have k0 : (0 : Int) ≤ (k : Int) := by omega
      have k1 : (k : Int) < (gs.length : Int) := by omega
      have g0 : (0 : Int) ≤ (t : Int) := by omega
      have g1 : (t : Int) < 5 := by omega
      have hml : k + 1 ≤ maxLen := by unfold maxLen; omega
      have hkb : (k + 1) * 8 ≤ 140737488355328 := by omega
      have hBs := hB.size
      obtain ⟨ua, uc, rfl⟩ := owns_slice hown
      clear htk ht hil hgl
      go_wp2_with (first
        | (at_builtin; refine wpList_append_own _ rfl _ _ 22 rfl W3.heap.size 3 i0 (.int .i64 0) 1 8 Tryz.underlying22 hi hz0 hz1 hz2 rfl (by decide) (.slice ua k uc) k (zcs (zi ((gs.take k).map os))) rfl (hown.alloc _) _ 1 1 [.int .i64 (os t)] rfl rfl (World.news_of_block (heap_alloc_new _ _)) (by simp [Value.oneCell']) hml hkb (by simp; omega) ?_; intro v' w' j1 j2 _))
      go_roundg (gs.length - (k + 1))
      case measure => omega
      case rel => exact ⟨k + 1, by omega, by go_num, by rw [HT.out]; exact j1, (hB.alloc hBs _).grown j2 (by simp; omega) (fun q hq => (hown.lt q hq).1)⟩
    · have hkl : k = gs.length := by omega
      subst hkl
      obtain ⟨ua, uc, rfl⟩ := owns_slice hown
      rw [List.take_length] at hown
      go_wp2
      go_ret
      refine ⟨_, rfl, Il_owns (base := W3.heap.size) (by rw [zi_len, List.length_map]; exact hown), ?_⟩
      obtain ⟨d1, d2⟩ := HD.out
      exact d1.trans (hB.mono (Nat.le_of_lt d2))
set_option maxRecDepth 20000 in
set_option maxHeartbeats 4000000 in
theorem Loads_bad (num : Int) (gv : Value) (ns : List Int) (a b c d : Int) (w : World) (hC : ∀ W, Below w.heap.size w W → Calls Tryz.prog 13 #[.agg (cf num gv a b c d)] W fun e W' => e = .returned (.int .i64 4) ∧ Below W.heap.size W W') (hgv : ∃ x c, gv = .slice x ns.length c) :
    Calls Tryz.prog 17 #[.agg (cf num gv a b c d)] w fun e W' => e = .returned (.slice none 0 0) ∧ Below w.heap.size w W' := by
  have hb0 : Below w.heap.size w (w.alloc (.cells (cf num gv a b c d) 25)) := (Below.refl _ w).alloc (Nat.le_refl _) _
  have r0 := heap_alloc_new w (.cells (cf num gv a b c d) 25)
  obtain ⟨W0, hW0⟩ : ∃ W, w.alloc (.cells (cf num gv a b c d) 25) = W := ⟨_, rfl⟩
  rw [hW0] at hb0 r0
  have hC0 := hC W0 hb0
  have K0 : Hid (W0.rangeAt w.heap.size 0 (cfL num gv a b c d)) := blk_range (L := cfL num gv a b c d) r0
  have HV : Hid (w.alloc (.cells (cf num gv a b c d) 25) = W0) := hW0
  obtain ⟨pa, pc, rfl⟩ := hgv
  clear hW0 r0 hC
  go_enter Tryz.func17, Tryz.ntmps17
  go_upto_region 1 with fail
  rw [HV.out]
  clear HV
  go_wp2_with (first
    | (refine wpList_load_mid rfl 25 _ rfl w.heap.size 0 rfl (cfL num (.slice pa ns.length pc) a b c d) _ K0.out Tryz.underlying25 rfl Tryz.size25 ?_)
    | (go_at_call 13; refine hC0.mono ?_; rintro e w1 ⟨rfl, hb1⟩; have H1 := hb0.trans (hb1.mono hb0.size); clear hb1))
  go_ret
  exact ⟨rfl, H1⟩
end Go.Proofs.YtfjbhljnledphaaGreatDoor
