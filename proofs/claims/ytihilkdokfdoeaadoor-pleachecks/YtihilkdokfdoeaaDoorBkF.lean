import Derived.Test.YtihilkdokfdoeaaDoorBkE
namespace Go.Proofs.YtihilkdokfdoeaaDoor
open Go.RowKit
attribute [local go_sem ↓] Go.wp_at_zero Go.wp_at_succ

def rowsL : List (List Int) := [[0, 1, 2, 3, 4, 5, 6, 7, 8, 9, 10, 11, 12, 13, 14, 15], [14, 10, 4, 8, 9, 15, 13, 6, 1, 12, 0, 2, 11, 7, 5, 3], [11, 8, 12, 0, 5, 2, 15, 13, 10, 14, 3, 6, 7, 1, 9, 4], [7, 9, 3, 1, 13, 12, 11, 14, 2, 6, 5, 10, 4, 0, 15, 8], [9, 0, 5, 7, 2, 4, 10, 15, 14, 1, 11, 12, 6, 8, 3, 13], [2, 12, 6, 10, 0, 11, 8, 3, 4, 13, 7, 5, 15, 14, 1, 9], [12, 5, 1, 15, 14, 13, 4, 10, 0, 7, 6, 3, 9, 2, 8, 11], [13, 11, 7, 14, 12, 1, 3, 9, 5, 0, 15, 4, 8, 6, 2, 10], [6, 15, 14, 9, 11, 3, 0, 8, 12, 2, 13, 7, 1, 4, 10, 5], [10, 2, 8, 4, 7, 6, 1, 5, 15, 11, 9, 14, 3, 12, 13, 0]]
def rowL (k : Nat) : List Int := rowsL.getD k []
def rowsF : List Int := rowsL.flatten
theorem rowL_len (k : Nat) (hk : k < 10) : (rowL k).length = 16 := by
  revert hk; revert k; decide
theorem rowL_bd (k : Nat) (hk : k < 10) : ∀ i : Int, 0 ≤ i → i < 16 → 0 ≤ gv (rowL k) i ∧ gv (rowL k) i < 16 := by
  have : ∀ k < 10, ∀ i < 16, 0 ≤ gv (rowL k) (i : Nat) ∧ gv (rowL k) (i : Nat) < 16 := by decide
  intro i i0 i1
  obtain ⟨j, rfl⟩ := Int.eq_ofNat_of_zero_le i0
  exact this k hk j (by omega)
theorem rowsF_at (k : Nat) (hk : k < 10) (i : Nat) (hi : i < 16) : gv rowsF ((k * 16 + i : Nat) : Int) = gv (rowL k) i := by
  have : ∀ k < 10, ∀ i < 16, gv rowsF ((k * 16 + i : Nat) : Int) = gv (rowL k) (i : Nat) := by decide
  exact this k hk i hi
theorem row_range {w : World} (hr : Reads w 1 .u8 160 rowsF) (k : Nat) (hk : k < 10) : w.rangeAt 1 (k * 16) (cellsOf .u8 (rowL k)) := by
  intro j x hx
  have hl := rowL_len k hk
  have hj : j < (rowL k).length := by
    by_cases hj : j < (rowL k).length
    · exact hj
    · simp [cellsOf, List.getElem?_eq_none (Nat.le_of_not_lt hj)] at hx
  rw [hr (k * 16 + j) (by omega), rowsF_at k hk j (by omega), ← hx]
  simp [cellsOf, gv, List.getElem?_eq_getElem hj]
theorem Tryd.size106 : (Tryd.prog.info? 167).map (·.size) = some 16 := by kernel_rfl
def initV (h : List Int) : List Int := h ++ ivL
theorem init_of {h v : List Int} (hh : h.length = 8) (hv : v.length = 16) (H : ∀ j : Nat, j < 8 → gv v j = gv h j ∧ gv v ((j + 8 : Nat) : Int) = gv ivL j) : v = initV h := by
  apply list_of_gv (by simp [initV, hh, hv, ivL])
  intro j j0 j1
  obtain ⟨i, rfl⟩ := Int.eq_ofNat_of_zero_le j0
  have hi : i < 16 := by simp [initV, hh, ivL] at j1; omega
  by_cases e : i < 8
  · rw [(H i e).1]; simp [gv, initV, List.getElem?_append, hh, e]
  · obtain ⟨i, rfl⟩ : ∃ q, i = q + 8 := ⟨i - 8, by omega⟩
    rw [(H i (by omega)).2]; simp only [gv, initV, List.getD_eq_getElem?_getD, Int.toNat_natCast]; rw [List.getElem?_append_right (by omega), hh]; simp
def tagV (v : List Int) (t : Int) (last : Bool) : List Int :=
  bif last then pv (pv (pv v 12 (bits .xor .u32 (gv v 12) (t % 4294967296))) 13 (bits .xor .u32 (gv v 13) (t / 4294967296))) 14 (bits .xor .u32 IntKind.u32.max (gv v 14))
  else pv (pv v 12 (bits .xor .u32 (gv v 12) (t % 4294967296))) 13 (bits .xor .u32 (gv v 13) (t / 4294967296))
def roundsTo (v m : List Int) : Nat → List Int
  | 0 => v
  | k + 1 => roundL (roundsTo v m k) m (rowL k)

def finalL (h R : List Int) : List Int := (List.range 8).map fun j => bits .xor .u32 (gv h ((j : Nat) : Int)) (bits .xor .u32 (gv R ((j : Nat) : Int)) (gv R (((j : Nat) : Int) + 8)))
theorem finalL_len (h R : List Int) : (finalL h R).length = 8 := by simp [finalL]
theorem gv_finalL (h R : List Int) (k : Nat) (hk : k < 8) : gv (finalL h R) k = bits .xor .u32 (gv h k) (bits .xor .u32 (gv R k) (gv R ((k : Int) + 8))) := by
  simp [gv, finalL, List.getElem?_range hk]
def compressL (h m : List Int) (t : Int) (last : Bool) : List Int := finalL h (roundsTo (tagV (initV h) t last) m 10)
theorem compressL_len (h m : List Int) (t : Int) (last : Bool) : (compressL h m t last).length = 8 := finalL_len _ _

set_option maxRecDepth 4000 in
set_option maxHeartbeats 1600000 in
theorem compress_any (h m : List Int) (t : Int) (last : Bool) (w : World) (hh : h.length = 8) (hm : m.length = 16) (t0 : 0 ≤ t) (t1 : t < 18446744073709551616)
    (hg : Reads w 0 .u32 8 ivL) (hr : Reads w 1 .u8 160 rowsF) (hz : 1 < w.heap.size) :
    Calls Tryd.prog 69 #[.agg (arr .u32 h), .agg (arr .u32 m), .int .u64 t, .bool last] w fun e w' => e = .returned (.agg (arr .u32 (compressL h m t last))) ∧ Below w.heap.size w w' := by
  have hz1 : (arr .u32 h).size = 8 := by simp [arr, hh]
  have hz2 : (arr .u32 m).size = 16 := by simp [arr, hm]
  go_enter Tryd.func69, Tryd.ntmps69
  go_wp2
  clear hz1 hz2
  obtain ⟨N, hN⟩ : ∃ N, w.heap.size = N := ⟨_, rfl⟩
  have nB : Below w.heap.size w ((((w.alloc (.cells (arr .u32 h) 144)).alloc (.cells (arr .u32 m) 147)).alloc (.cells #[.int .u32 0, .int .u32 0, .int .u32 0, .int .u32 0, .int .u32 0, .int .u32 0, .int .u32 0, .int .u32 0] 144)).alloc (.cells #[.int .u32 0, .int .u32 0, .int .u32 0, .int .u32 0, .int .u32 0, .int .u32 0, .int .u32 0, .int .u32 0, .int .u32 0, .int .u32 0, .int .u32 0, .int .u32 0, .int .u32 0, .int .u32 0, .int .u32 0, .int .u32 0] 147)) := ((((Below.refl _ w).alloc (Nat.le_refl _) _).alloc (by simp) _).alloc (by simp; omega) _).alloc (by simp; omega) _
  have q0 := Holds.new w .u32 144 8 h hh
  have q1 := Holds.new (w.alloc (.cells (arr .u32 h) 144)) .u32 147 16 m hm
  have q2 := Holds.new ((w.alloc (.cells (arr .u32 h) 144)).alloc (.cells (arr .u32 m) 147)) .u32 144 8 (List.replicate 8 0) (by simp)
  have q3 : Holds ((((w.alloc (.cells (arr .u32 h) 144)).alloc (.cells (arr .u32 m) 147)).alloc (.cells #[.int .u32 0, .int .u32 0, .int .u32 0, .int .u32 0, .int .u32 0, .int .u32 0, .int .u32 0, .int .u32 0] 144)).alloc (.cells #[.int .u32 0, .int .u32 0, .int .u32 0, .int .u32 0, .int .u32 0, .int .u32 0, .int .u32 0, .int .u32 0, .int .u32 0, .int .u32 0, .int .u32 0, .int .u32 0, .int .u32 0, .int .u32 0, .int .u32 0, .int .u32 0] 147)) _ .u32 16 (List.replicate 16 0) := Holds.new (((w.alloc (.cells (arr .u32 h) 144)).alloc (.cells (arr .u32 m) 147)).alloc (.cells #[.int .u32 0, .int .u32 0, .int .u32 0, .int .u32 0, .int .u32 0, .int .u32 0, .int .u32 0, .int .u32 0] 144)) .u32 147 16 (List.replicate 16 0) (by simp)
  have r0 : Holds ((((w.alloc (.cells (arr .u32 h) 144)).alloc (.cells (arr .u32 m) 147)).alloc (.cells #[.int .u32 0, .int .u32 0, .int .u32 0, .int .u32 0, .int .u32 0, .int .u32 0, .int .u32 0, .int .u32 0] 144)).alloc (.cells #[.int .u32 0, .int .u32 0, .int .u32 0, .int .u32 0, .int .u32 0, .int .u32 0, .int .u32 0, .int .u32 0, .int .u32 0, .int .u32 0, .int .u32 0, .int .u32 0, .int .u32 0, .int .u32 0, .int .u32 0, .int .u32 0] 147)) w.heap.size .u32 8 h := q0.below ((((Below.refl _ _).alloc (Nat.le_refl _) _).alloc (by simp) _).alloc (by simp) _) (by simp)
  have r1 : Holds ((((w.alloc (.cells (arr .u32 h) 144)).alloc (.cells (arr .u32 m) 147)).alloc (.cells #[.int .u32 0, .int .u32 0, .int .u32 0, .int .u32 0, .int .u32 0, .int .u32 0, .int .u32 0, .int .u32 0] 144)).alloc (.cells #[.int .u32 0, .int .u32 0, .int .u32 0, .int .u32 0, .int .u32 0, .int .u32 0, .int .u32 0, .int .u32 0, .int .u32 0, .int .u32 0, .int .u32 0, .int .u32 0, .int .u32 0, .int .u32 0, .int .u32 0, .int .u32 0] 147)) (w.alloc (.cells (arr .u32 h) 144)).heap.size .u32 16 m := q1.below (((Below.refl _ _).alloc (Nat.le_refl _) _).alloc (by simp) _) (by simp)
  have r2 : Holds ((((w.alloc (.cells (arr .u32 h) 144)).alloc (.cells (arr .u32 m) 147)).alloc (.cells #[.int .u32 0, .int .u32 0, .int .u32 0, .int .u32 0, .int .u32 0, .int .u32 0, .int .u32 0, .int .u32 0] 144)).alloc (.cells #[.int .u32 0, .int .u32 0, .int .u32 0, .int .u32 0, .int .u32 0, .int .u32 0, .int .u32 0, .int .u32 0, .int .u32 0, .int .u32 0, .int .u32 0, .int .u32 0, .int .u32 0, .int .u32 0, .int .u32 0, .int .u32 0] 147)) ((w.alloc (.cells (arr .u32 h) 144)).alloc (.cells (arr .u32 m) 147)).heap.size .u32 8 (List.replicate 8 0) := q2.below ((Below.refl _ _).alloc (Nat.le_refl _) _) (by simp)
  have ng := hg.below nB (by omega)
  have nr := hr.below nB hz
  clear q0 q1 q2 hg hr
  have hsz : ((((w.alloc (.cells (arr .u32 h) 144)).alloc (.cells (arr .u32 m) 147)).alloc (.cells #[.int .u32 0, .int .u32 0, .int .u32 0, .int .u32 0, .int .u32 0, .int .u32 0, .int .u32 0, .int .u32 0] 144)).alloc (.cells #[.int .u32 0, .int .u32 0, .int .u32 0, .int .u32 0, .int .u32 0, .int .u32 0, .int .u32 0, .int .u32 0, .int .u32 0, .int .u32 0, .int .u32 0, .int .u32 0, .int .u32 0, .int .u32 0, .int .u32 0, .int .u32 0] 147)).heap.size = w.heap.size + 4 := by simp
  simp only [World.size_alloc] at r1 r2 q3
  rw [hN] at nB r0 r1 r2 q3 hz hsz ⊢
  obtain ⟨W0, hW0⟩ : ∃ X, ((((w.alloc (.cells (arr .u32 h) 144)).alloc (.cells (arr .u32 m) 147)).alloc (.cells #[.int .u32 0, .int .u32 0, .int .u32 0, .int .u32 0, .int .u32 0, .int .u32 0, .int .u32 0, .int .u32 0] 144)).alloc (.cells #[.int .u32 0, .int .u32 0, .int .u32 0, .int .u32 0, .int .u32 0, .int .u32 0, .int .u32 0, .int .u32 0, .int .u32 0, .int .u32 0, .int .u32 0, .int .u32 0, .int .u32 0, .int .u32 0, .int .u32 0, .int .u32 0] 147)) = X := ⟨_, rfl⟩
  rw [hW0] at nB r0 r1 r2 q3 ng nr hsz ⊢
  have HN : Hid (w.heap.size = N) := hN
  have HZ : Hid (W0.heap.size = N + 4) := hsz
  clear hW0 hN hsz
  go_loopw [13] (fun i wr => ∃ (k : Nat) (v : List Int), k ≤ 8 ∧ i = .int .i64 k ∧ Holds wr (N + 1 + 1 + 1) .u32 16 v ∧ (∀ j : Nat, j < k → gv v j = gv h j ∧ gv v ((j + 8 : Nat) : Int) = gv ivL j) ∧ Only (N + 1 + 1 + 1) W0 wr) (fun i _ => 8 - (intOf i).toNat)
  case atStart => exact ⟨0, _, by omega, rfl, q3, fun j hj => by omega, Only.refl _ _⟩
  case round =>
    obtain ⟨k, v, hk, rfl, hH, hv, hO⟩ := hrel
    have HV : Hid (∀ j : Nat, j < k → gv v j = gv h j ∧ gv v ((j + 8 : Nat) : Int) = gv ivL j) := hv
    have hg1 := ng.only hO (by omega)
    have hr1 := nr.only hO (by omega)
    have hR0 := r0.only hO (by omega)
    have hR1 := r1.only hO (by omega)
    have hR2 := r2.only hO (by omega)
    have hb := nB.trans (hO.below (n := N) (by omega))
    have HZ1 : Hid (wr.heap.size = N + 4) := hO.size.trans HZ.out
    clear hv ng nr r0 r1 r2 q3 nB
    by_cases hlt : k < 8
    · have c1 := hg1 k hlt
      have c2 := hR0.cellN k hlt
      have c3 := hH.cellN k (by omega)
      have f3 := hH.freeN k (by omega)
      have c4 := hH.cellN (k + 8) (by omega)
      have f4 := hH.freeN (k + 8) (by omega)
      go_wp2
      go_region
      all_goals go_wp2
      all_goals go_roundw
      case rel =>
        have hl := hH.len
        refine ⟨k + 1, _, by omega, by go_num, ((hH.setN k _ (by omega)).setN (k + 8) _ (by omega)).drew, fun j hj => ?_, ((hO.set _ _).set _ _).drew⟩
        by_cases e : k = j
        · subst e
          refine ⟨?_, ?_⟩
          · rw [gv_pv_other _ _ _ _ (by omega) (by omega) (by omega), gv_pv_same _ _ _ (by omega) (by omega)]
          · rw [gv_pv_same _ _ _ (by omega) (by simp [pv]; omega)]
        · refine ⟨?_, ?_⟩
          · rw [gv_pv_other _ _ _ _ (by omega) (by omega) (by omega), gv_pv_other _ _ _ _ (by omega) (by omega) (by omega)]; exact (HV.out j (by omega)).1
          · rw [gv_pv_other _ _ _ _ (by omega) (by omega) (by omega), gv_pv_other _ _ _ _ (by omega) (by omega) (by omega)]; exact (HV.out j (by omega)).2
      case measure => simp [intOf]; omega
    · obtain rfl : k = 8 := by omega
      obtain rfl : v = initV h := init_of hh hH.len HV.out
      clear HV
      have c1 := hH.cellN 12 (by omega)
      have f1 := hH.freeN 12 (by omega)
      have c2 := hH.cellN 13 (by omega)
      have f2 := hH.freeN 13 (by omega)
      have c3 := hH.cellN 14 (by omega)
      have f3 := hH.freeN 14 (by omega)
      go_upto_if 41 with fail
      go_cut [45] from 13 to 45 (fun _ wx => Holds wx (N + 1 + 1 + 1) .u32 16 (tagV (initV h) t last) ∧ Only (N + 1 + 1 + 1) wr wx)
      case first =>
        cases last
        · go_wp2
          go_meet
          case rel => exact ⟨(hH.setN 12 _ (by decide)).setN 13 _ (by decide), ((Only.refl _ wr).set _ _).set _ _⟩
        · go_wp2
          go_meet
          case rel =>
            exact ⟨((hH.setN 12 _ (by decide)).setN 13 _ (by decide)).setN 14 _ (by decide), (((Only.refl _ wr).set _ _).set _ _).set _ _⟩
      case rest =>
        obtain ⟨hT, hO2⟩ := hcut
        have hg2 := hg1.only hO2 (by omega)
        have hr2 := hr1.only hO2 (by omega)
        have hS0 := hR0.only hO2 (by omega)
        have hS1 := hR1.only hO2 (by omega)
        have hS2 := hR2.only hO2 (by omega)
        have hb2 := hb.trans (hO2.below (n := N) (by omega))
        have HZ2 : Hid (wc.heap.size = N + 4) := hO2.size.trans HZ1.out
        clear hg1 hr1 hR0 hR1 hR2 hb HZ1 hO2 hH c1 c2 c3 f1 f2 f3 hlt hk
        go_wp2
        go_loopw [46] (fun i wr2 => ∃ (k : Nat), k ≤ 10 ∧ i = .int .i64 k ∧ Holds wr2 (N + 1 + 1 + 1) .u32 16 (roundsTo (tagV (initV h) t last) m k) ∧ OB (N + 1 + 1 + 1) (N + 4) wc wr2 ∧ N + 4 ≤ wr2.heap.size) (fun i _ => 10 - (intOf i).toNat)
        case atStart => exact ⟨0, by omega, rfl, hT, OB.refl _ _ _, Nat.le_of_eq HZ2.out.symm⟩
        case round =>
          obtain ⟨k, hk, rfl, hH, hO2, hle⟩ := hrel
          rename World => wr3
          by_cases hlt : k < 10
          · have hrow : wr3.rangeAt 1 (k * 16) (cellsOf .u8 (rowL k)) := row_range (hr2.ob hO2 (by omega) (by omega)) k hlt
            have hS1' := hS1.ob hO2 (by omega) (by omega)
            have hcall := round_any (N + 1 + 1 + 1) (N + 1) _ m (rowL k) wr3 (by omega) (by omega) (by omega) hH hS1' (rowL_len k hlt) (rowL_bd k hlt)
            go_wp2_with (first | (refine wpList_load_mid rfl 167 _ rfl 1 _ rfl (cellsOf .u8 (rowL k)) _ (by exact hrow) Tryd.underlying167 rfl (by rw [Tryd.size106, cells_len, rowL_len k hlt]) ?_))
            rw [← arr_eq]
            refine hcall.mono ?_
            clear hcall
            rintro e w4 ⟨rfl, hh4, ho4⟩
            go_wp2
            go_roundw
            case rel => exact ⟨k + 1, by omega, by go_num, hh4, hO2.trans (ho4.mono hle), Nat.le_trans hle ho4.size⟩
            case measure => simp [intOf]; omega
          · have e10 : Hid (k = 10) := (by omega : k = 10)
            have hS0' := hS0.ob hO2 (by omega) (by omega)
            have hS2' := hS2.ob hO2 (by omega) (by omega)
            have hb3 := hb2.trans (hO2.below (m := N) (by omega) (by omega))
            obtain ⟨R, hR⟩ : ∃ R, roundsTo (tagV (initV h) t last) m k = R := ⟨_, rfl⟩
            rw [hR] at hH
            have HR : Hid (roundsTo (tagV (initV h) t last) m k = R) := hR
            clear hR hS0 hS1 hS2 hb2 hg2 hr2 hO2 hT HZ2 hk
            go_wp2
            clear hlt
            go_loopw [54] (fun i wr4 => ∃ (k : Nat) (u : List Int), k ≤ 8 ∧ i = .int .i64 k ∧ Holds wr4 N .u32 8 u ∧ (∀ j : Nat, j < k → gv u j = gv (finalL h R) j) ∧ (∀ j : Nat, k ≤ j → j < 8 → gv u j = gv h j) ∧ Only N wr3 wr4) (fun i _ => 8 - (intOf i).toNat)
            case atStart => exact ⟨0, h, by omega, rfl, hS0', fun j hj => by omega, fun j _ _ => rfl, Only.refl _ _⟩
            case round =>
              obtain ⟨q, u, hk, rfl, hU, hu1, hu2, hO5⟩ := hrel
              rename World => wr5
              have HU : Hid (∀ j : Nat, j < q → gv u j = gv (finalL h R) j) := hu1
              have HU2 : Hid (∀ j : Nat, q ≤ j → j < 8 → gv u j = gv h j) := hu2
              have hV5 := hH.only hO5 (by omega)
              have hS5 := hS2'.only hO5 (by omega)
              have hb5 := hb3.trans (hO5.below (Nat.le_refl _))
              clear hu1 hu2
              by_cases hlt : q < 8
              · have d1 := hU.cellN q hlt
                have d2 := hU.freeN q hlt
                have d3 := hV5.cellN q (by omega)
                have d4 := hV5.cellN (q + 8) (by omega)
                go_wp2
                go_region
                all_goals go_wp2
                all_goals go_roundw
                case rel =>
                  have hl := hU.len
                  refine ⟨q + 1, _, by omega, by go_num, (hU.setN q _ hlt).drew, fun j hj => ?_, fun j j1 j2 => ?_, (hO5.set _ _).drew⟩
                  · by_cases e : q = j
                    · subst e
                      rw [gv_pv_same _ _ _ (by omega) (by omega), gv_finalL h R q hlt, HU2.out q (Nat.le_refl _) hlt]
                    · rw [gv_pv_other _ _ _ _ (by omega) (by omega) (by omega)]; exact HU.out j (by omega)
                  · rw [gv_pv_other _ _ _ _ (by omega) (by omega) (by omega)]; exact HU2.out j (by omega) j2
                case measure => simp [intOf]; omega
              · obtain rfl : q = 8 := by omega
                obtain rfl : u = finalL h R := list_of_gv (by rw [hU.len, finalL_len]) (fun j j0 j1 => by
                  rw [finalL_len] at j1
                  obtain ⟨i, rfl⟩ := Int.eq_ofNat_of_zero_le j0
                  exact HU.out i (by omega))
                clear HU HU2
                go_wp2_with (first | (refine wpList_load_holds rfl 144 _ rfl N rfl .u32 8 (finalL h R) _ (by exact hU) Tryd.underlying144 rfl Tryd.size45 ?_) | (refine wpList_store_holds rfl 144 _ _ rfl (N + 1 + 1) .u32 8 (List.replicate 8 0) (finalL h R) rfl rfl (by exact hS5) (finalL_len _ _) Tryd.size45 ?_))
                exact bodyPost_ret (results_cell1 Tryd.results69 _ _ _ rfl (run_loadVar_holds (hS5.sets (finalL h R) (finalL_len _ _)) 144 _ Tryd.underlying144 rfl Tryd.size45)) rfl ⟨by rw [compressL, ← HR.out, e10.out], by rw [HN.out]; exact hb5.trans ((only_setCells (N + 1 + 1) _ _ _).below (by omega))⟩
end Go.Proofs.YtihilkdokfdoeaaDoor
