import Derived.Test.YtoniohmceaflnaaDoorSlB
namespace Go.Proofs.YtoniohmceaflnaaDoor
open Go.RowKit
attribute [local go_sem ↓] Go.wp_at_zero Go.wp_at_succ

/-- The sum of a text with a key. -/
def bl (k t : List UInt8) : List UInt8 := (strOfNums (sumL (k.length : Int) (keyL k ++ t))).data.toList
theorem bl_len (k t : List UInt8) : (bl k t).length = 32 := by
  have := sum_size (k.length : Int) (keyL k ++ t)
  rw [bl, size_list, this]
/-- A party's tag of a text. -/
def tagS (seed : List UInt8) (g n : Int) (t : List UInt8) : List UInt8 := (bl (bl seed (nameL g n)) t).take 16
theorem tagS_len (seed : List UInt8) (g n : Int) (t : List UInt8) : (tagS seed g n t).length = 16 := by
  rw [tagS, List.length_take, bl_len]; rfl
/-- What blake reads of its tables. -/
structure EnvB (w : World) : Prop where
  iv : Reads w 3 .u32 8 ivL
  rows : Reads w 4 .u8 160 rowsF
  size : 4 < w.heap.size
theorem EnvB.next {w w' : World} (h : EnvB w) (hb : Below w.heap.size w w') : EnvB w' := ⟨h.iv.below hb (by have := h.size; omega), h.rows.below hb h.size, Nat.lt_of_lt_of_le h.size hb.size⟩
theorem SumL_any (k s : List UInt8) (w : World) (h1 : k.length ≤ 32) (hs : s.length ≤ 140737488355328) (he : EnvB w) :
    Calls Tryd.prog 55 #[.string (bs k), .string (bs s)] w fun e w' => e = .returned (.tuple #[.string (bs (bl k s)), .int .i64 0]) ∧ Below w.heap.size w w' := by
  have h := Sum_any (bs k) (bs s) w (by rw [bs_size]; exact h1) (by rw [bs_size]; exact hs) he.iv he.rows he.size
  rw [bs_size, bs_list, bs_list] at h
  rw [bl, bs_data]
  exact h

theorem New_ok (s : List UInt8) (w : World) (h : s.length ≤ 32) :
    Calls Tryd.prog 14 #[.string (bs s)] w fun e w' => e = .returned (.tuple #[.pointer (some ⟨w.heap.size, 0, none⟩), .int .i64 0]) ∧ w' = w.alloc (.cells #[.string (bs s)] 81) := by
  have hq : decide ((32 : Int) < (bs s).size) = false := by rw [bs_size]; simp; omega
  go_enter Tryd.func14, Tryd.ntmps14
  go_wp2
  go_ret2
  exact ⟨rfl, rfl⟩
theorem New_long (s : List UInt8) (w : World) (h : 32 < s.length) :
    Calls Tryd.prog 14 #[.string (bs s)] w fun e w' => e = .returned (.tuple #[.pointer none, .int .i64 2]) ∧ w' = w := by
  have hq : decide ((32 : Int) < (bs s).size) = true := by rw [bs_size]; simp; omega
  go_enter Tryd.func14, Tryd.ntmps14
  go_wp2
  go_ret2
  exact ⟨rfl, rfl⟩

set_option maxRecDepth 20000 in
set_option maxHeartbeats 2000000 in
theorem tagOf_no (r : Option Addr) (g n : Int) (t : List UInt8) (w : World) (he : EnvP w) (hp : ¬ isP g n) :
    Calls Tryd.prog 40 #[.pointer r, .agg #[.int .i64 g, .int .i64 n], .string (bs t)] w fun e W' => e = .returned (.tuple #[.agg (arr .u8 zeroT), .int .i64 1]) ∧ Below w.heap.size w W' := by
  have hb1 : Below w.heap.size w (w.alloc (.cells #[.int .i64 g, .int .i64 n] 23)) := (Below.refl _ w).alloc (Nat.le_refl _) _
  have hb2 := hb1.alloc hb1.size (.cells #[.int .u8 0, .int .u8 0, .int .u8 0, .int .u8 0, .int .u8 0, .int .u8 0, .int .u8 0, .int .u8 0, .int .u8 0, .int .u8 0, .int .u8 0, .int .u8 0, .int .u8 0, .int .u8 0, .int .u8 0, .int .u8 0] 83)
  have hH : Holds ((w.alloc (.cells #[.int .i64 g, .int .i64 n] 23)).alloc (.cells #[.int .u8 0, .int .u8 0, .int .u8 0, .int .u8 0, .int .u8 0, .int .u8 0, .int .u8 0, .int .u8 0, .int .u8 0, .int .u8 0, .int .u8 0, .int .u8 0, .int .u8 0, .int .u8 0, .int .u8 0, .int .u8 0] 83)) (w.heap.size + 1) .u8 16 zeroT := by
    have h := Holds.new (w.alloc (.cells #[.int .i64 g, .int .i64 n] 23)) .u8 83 16 zeroT rfl
    rw [World.size_alloc] at h
    exact h
  have hN := Name_any g n ((w.alloc (.cells #[.int .i64 g, .int .i64 n] 23)).alloc (.cells #[.int .u8 0, .int .u8 0, .int .u8 0, .int .u8 0, .int .u8 0, .int .u8 0, .int .u8 0, .int .u8 0, .int .u8 0, .int .u8 0, .int .u8 0, .int .u8 0, .int .u8 0, .int .u8 0, .int .u8 0, .int .u8 0] 83)) (he.next hb2)
  rw [show nameE g n = 1 from if_neg hp, show nameV g n = [] from if_neg hp] at hN
  go_enter Tryd.func40, Tryd.ntmps40
  go_wp2_with fail
  refine hN.mono ?_
  rintro e w1 ⟨rfl, hb3⟩
  have hB1 := hb2.trans (hb3.mono hb2.size)
  have hH1 := hH.below hb3 (by simp)
  clear hN
  go_wp2_with (first | (refine wpList_store_holds rfl 83 _ _ rfl (w.heap.size + 1) .u8 16 zeroT zeroT rfl rfl hH1 rfl Tryd.size77 ?_))
  exact bodyPost_ret (results_cell_tmp rfl _ _ _ rfl rfl (run_loadVar_holds (hH1.sets zeroT rfl) 83 _ Tryd.underlying83 rfl Tryd.size77)) rfl ⟨rfl, hB1.trans ((only_setCells (w.heap.size + 1) _ _ _).below (Nat.le_succ _))⟩

set_option maxRecDepth 20000 in
set_option maxHeartbeats 2000000 in
theorem tagOf_nil (g n : Int) (t : List UInt8) (w : World) (he : EnvP w) (hp : isP g n) :
    Calls Tryd.prog 40 #[.pointer none, .agg #[.int .i64 g, .int .i64 n], .string (bs t)] w fun e W' => e = .returned (.tuple #[.agg (arr .u8 zeroT), .int .i64 7]) ∧ Below w.heap.size w W' := by
  have hb1 : Below w.heap.size w (w.alloc (.cells #[.int .i64 g, .int .i64 n] 23)) := (Below.refl _ w).alloc (Nat.le_refl _) _
  have hb2 := hb1.alloc hb1.size (.cells #[.int .u8 0, .int .u8 0, .int .u8 0, .int .u8 0, .int .u8 0, .int .u8 0, .int .u8 0, .int .u8 0, .int .u8 0, .int .u8 0, .int .u8 0, .int .u8 0, .int .u8 0, .int .u8 0, .int .u8 0, .int .u8 0] 83)
  have hH : Holds ((w.alloc (.cells #[.int .i64 g, .int .i64 n] 23)).alloc (.cells #[.int .u8 0, .int .u8 0, .int .u8 0, .int .u8 0, .int .u8 0, .int .u8 0, .int .u8 0, .int .u8 0, .int .u8 0, .int .u8 0, .int .u8 0, .int .u8 0, .int .u8 0, .int .u8 0, .int .u8 0, .int .u8 0] 83)) (w.heap.size + 1) .u8 16 zeroT := by
    have h := Holds.new (w.alloc (.cells #[.int .i64 g, .int .i64 n] 23)) .u8 83 16 zeroT rfl
    rw [World.size_alloc] at h
    exact h
  have hN := Name_any g n ((w.alloc (.cells #[.int .i64 g, .int .i64 n] 23)).alloc (.cells #[.int .u8 0, .int .u8 0, .int .u8 0, .int .u8 0, .int .u8 0, .int .u8 0, .int .u8 0, .int .u8 0, .int .u8 0, .int .u8 0, .int .u8 0, .int .u8 0, .int .u8 0, .int .u8 0, .int .u8 0, .int .u8 0] 83)) (he.next hb2)
  rw [show nameE g n = 0 from if_pos hp, show nameV g n = nameL g n from if_pos hp] at hN
  obtain ⟨NM, hNM⟩ : ∃ NM, nameL g n = NM := ⟨_, rfl⟩
  rw [hNM] at hN
  clear hNM hp
  go_enter Tryd.func40, Tryd.ntmps40
  go_wp2_with fail
  refine hN.mono ?_
  rintro e w1 ⟨rfl, hb3⟩
  have hB1 := hb2.trans (hb3.mono hb2.size)
  have hH1 := hH.below hb3 (by simp)
  clear hN
  go_wp2_with (first | (refine wpList_store_holds rfl 83 _ _ rfl (w.heap.size + 1) .u8 16 zeroT zeroT rfl rfl hH1 rfl Tryd.size77 ?_))
  exact bodyPost_ret (results_cell_tmp rfl _ _ _ rfl rfl (run_loadVar_holds (hH1.sets zeroT rfl) 83 _ Tryd.underlying83 rfl Tryd.size77)) rfl ⟨rfl, hB1.trans ((only_setCells (w.heap.size + 1) _ _ _).below (Nat.le_succ _))⟩

theorem name_len (g n : Int) (hp : isP g n) : (nameL g n).length ≤ 100 := by
  have h1 := name_tot hp
  have := pack_len [Lib.itoa g, Lib.itoa n] (by omega)
  simp only [List.length_cons, List.length_nil] at this
  rw [nameL]; omega

set_option maxRecDepth 20000 in
set_option maxHeartbeats 2000000 in
theorem tagOf_ok (B : Nat) (seed : List UInt8) (g n : Int) (t : List UInt8) (w : World) (he : EnvP w) (hb : EnvB w) (hp : isP g n) (hs : seed.length ≤ 32) (ht : t.length ≤ 140737488355328) (hr : w.cell? ⟨B, 0, none⟩ = some (.string (bs seed))) :
    Calls Tryd.prog 40 #[.pointer (some ⟨B, 0, none⟩), .agg #[.int .i64 g, .int .i64 n], .string (bs t)] w fun e W' => e = .returned (.tuple #[.agg (arr .u8 (bn (tagS seed g n t))), .int .i64 0]) ∧ Below w.heap.size w W' := by
  have hBl := World.block_lt_of_cell? w _ hr
  have hb1 : Below w.heap.size w (w.alloc (.cells #[.int .i64 g, .int .i64 n] 23)) := (Below.refl _ w).alloc (Nat.le_refl _) _
  have hb2 := hb1.alloc hb1.size (.cells #[.int .u8 0, .int .u8 0, .int .u8 0, .int .u8 0, .int .u8 0, .int .u8 0, .int .u8 0, .int .u8 0, .int .u8 0, .int .u8 0, .int .u8 0, .int .u8 0, .int .u8 0, .int .u8 0, .int .u8 0, .int .u8 0] 83)
  have hH : Holds ((w.alloc (.cells #[.int .i64 g, .int .i64 n] 23)).alloc (.cells #[.int .u8 0, .int .u8 0, .int .u8 0, .int .u8 0, .int .u8 0, .int .u8 0, .int .u8 0, .int .u8 0, .int .u8 0, .int .u8 0, .int .u8 0, .int .u8 0, .int .u8 0, .int .u8 0, .int .u8 0, .int .u8 0] 83)) (w.heap.size + 1) .u8 16 zeroT := by
    have h := Holds.new (w.alloc (.cells #[.int .i64 g, .int .i64 n] 23)) .u8 83 16 zeroT rfl
    rw [World.size_alloc] at h
    exact h
  have hN := Name_any g n ((w.alloc (.cells #[.int .i64 g, .int .i64 n] 23)).alloc (.cells #[.int .u8 0, .int .u8 0, .int .u8 0, .int .u8 0, .int .u8 0, .int .u8 0, .int .u8 0, .int .u8 0, .int .u8 0, .int .u8 0, .int .u8 0, .int .u8 0, .int .u8 0, .int .u8 0, .int .u8 0, .int .u8 0] 83)) (he.next hb2)
  rw [show nameE g n = 0 from if_pos hp, show nameV g n = nameL g n from if_pos hp] at hN
  have hnl := name_len g n hp
  have htl := tagS_len seed g n t
  obtain ⟨TG, hTG⟩ : ∃ TG, tagS seed g n t = TG := ⟨_, rfl⟩
  have HTG : Hid (tagS seed g n t = TG) := hTG
  rw [hTG] at htl ⊢
  clear hTG
  obtain ⟨NM, hNM⟩ : ∃ NM, nameL g n = NM := ⟨_, rfl⟩
  rw [hNM] at hN hnl
  have HNM : Hid (nameL g n = NM) := hNM
  clear hNM hp
  go_enter Tryd.func40, Tryd.ntmps40
  go_wp2_with fail
  refine hN.mono ?_
  clear hN
  rintro e w1 ⟨rfl, hb3⟩
  have hB1 := hb2.trans (hb3.mono hb2.size)
  have hH1 := hH.below hb3 (by simp)
  have k0 := (hB1.cell (p := ⟨B, 0, none⟩) hBl).trans hr
  have eb1 := hb.next hB1
  have hz1 : w.heap.size + 1 < w1.heap.size := Nat.lt_of_lt_of_le (by simp) hb3.size
  clear hH hb2 hb1 hb3
  go_wp2_with fail
  refine (SumL_any seed NM w1 hs (by omega) eb1).mono ?_
  have hkl := bl_len seed NM
  obtain ⟨KY, hKY⟩ : ∃ KY, bl seed NM = KY := ⟨_, rfl⟩
  rw [hKY] at hkl ⊢
  have HKY : Hid (bl seed NM = KY) := hKY
  clear hKY
  rintro e w2 ⟨rfl, hb4⟩
  have hB2 := hB1.trans (hb4.mono hB1.size)
  have hH2 := hH1.below hb4 hz1
  have eb2 := eb1.next hb4
  have hz2 := Nat.lt_of_lt_of_le hz1 hb4.size
  clear hH1 hB1 hb4 eb1
  go_wp2_with fail
  refine (SumL_any KY t w2 (by omega) ht eb2).mono ?_
  have hsl := bl_len KY t
  obtain ⟨SM, hSM⟩ : ∃ SM, bl KY t = SM := ⟨_, rfl⟩
  rw [hSM] at hsl ⊢
  have hTGe : SM.take 16 = TG := by rw [← HTG.out, tagS, HNM.out, HKY.out, hSM]
  have hex : (bs SM).extract 0 16 = bs TG := bs_of _ _ (by rw [extract_list, bs_list, List.drop_zero, hTGe])
  have hss : (bs SM).size = 32 := by rw [bs_size, hsl]
  clear hSM hTGe
  rintro e w3 ⟨rfl, hb5⟩
  have hB3 := hB2.trans (hb5.mono hB2.size)
  have hH3 := hH2.below hb5 hz2
  have hz3 := Nat.lt_of_lt_of_le hz2 hb5.size
  have hTT := toTag_any TG w3
  rw [if_pos htl, decide_eq_true htl] at hTT
  have hbl : (bn TG).length = 16 := by rw [bn_len, htl]
  clear hH2 hB2 hb5 eb2
  go_wp2_with fail
  refine hTT.mono ?_
  clear hTT
  rintro e w4 ⟨rfl, hb6⟩
  have hB4 := hB3.trans (hb6.mono hB3.size)
  have hH4 := hH3.below hb6 hz3
  have hz4 := Nat.lt_of_lt_of_le hz3 hb6.size
  have hHn : Holds (w4.alloc (.cells #[.int .u8 0, .int .u8 0, .int .u8 0, .int .u8 0, .int .u8 0, .int .u8 0, .int .u8 0, .int .u8 0, .int .u8 0, .int .u8 0, .int .u8 0, .int .u8 0, .int .u8 0, .int .u8 0, .int .u8 0, .int .u8 0] 83)) w4.heap.size .u8 16 zeroT := Holds.new w4 .u8 83 16 zeroT rfl
  have hHt := hHn.sets (bn TG) hbl
  have hbn : Below w4.heap.size w4 (w4.alloc (.cells #[.int .u8 0, .int .u8 0, .int .u8 0, .int .u8 0, .int .u8 0, .int .u8 0, .int .u8 0, .int .u8 0, .int .u8 0, .int .u8 0, .int .u8 0, .int .u8 0, .int .u8 0, .int .u8 0, .int .u8 0, .int .u8 0] 83)) := (Below.refl _ w4).alloc (Nat.le_refl _) _
  have hbo : Below w4.heap.size w4 ((w4.alloc (.cells #[.int .u8 0, .int .u8 0, .int .u8 0, .int .u8 0, .int .u8 0, .int .u8 0, .int .u8 0, .int .u8 0, .int .u8 0, .int .u8 0, .int .u8 0, .int .u8 0, .int .u8 0, .int .u8 0, .int .u8 0, .int .u8 0] 83)).setCells w4.heap.size 0 (cellsOf .u8 (bn TG))) := hbn.trans ((only_setCells w4.heap.size _ _ _).below (Nat.le_refl _))
  have hHr := hH4.below hbo hz4
  have hB5 := hB4.trans (hbo.mono hB4.size)
  clear hH3 hB3 hb6
  go_wp2_with (first
    | (refine wpList_store_holds rfl 83 _ _ rfl w4.heap.size .u8 16 zeroT (bn TG) rfl rfl hHn hbl Tryd.size77 ?_)
    | (refine wpList_load_holds rfl 83 _ rfl w4.heap.size rfl .u8 16 (bn TG) _ hHt Tryd.underlying83 rfl Tryd.size77 ?_)
    | (refine wpList_store_holds rfl 83 _ _ rfl (w.heap.size + 1) .u8 16 zeroT (bn TG) rfl rfl hHr hbl Tryd.size77 ?_))
  exact bodyPost_ret (results_cell_tmp rfl _ _ _ rfl rfl (run_loadVar_holds (hHr.sets (bn TG) hbl) 83 _ Tryd.underlying83 rfl Tryd.size77)) rfl ⟨rfl, hB5.trans ((only_setCells (w.heap.size + 1) _ _ _).below (Nat.le_succ _))⟩
end Go.Proofs.YtoniohmceaflnaaDoor
