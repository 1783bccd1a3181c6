import Derived.Test.YtihilkdokfdoeaaDoorBkF
namespace Go.Proofs.YtihilkdokfdoeaaDoor
open Go.RowKit
attribute [local go_sem ↓] Go.wp_at_zero Go.wp_at_succ

theorem arr8 (h : List Int) (hh : h.length = 8) : arr .u32 h = #[.int .u32 (gv h 0), .int .u32 (gv h 1), .int .u32 (gv h 2), .int .u32 (gv h 3), .int .u32 (gv h 4), .int .u32 (gv h 5), .int .u32 (gv h 6), .int .u32 (gv h 7)] := by
  match h, hh with
  | [a, b, c, d, e, f, g, i], _ => rfl
theorem compress8 (h m : List Int) (t : Int) (last : Bool) (w : World) (hh : h.length = 8) (hm : m.length = 16) (t0 : 0 ≤ t) (t1 : t < 18446744073709551616)
    (hg : Reads w 0 .u32 8 ivL) (hr : Reads w 1 .u8 160 rowsF) (hz : 1 < w.heap.size) (X : List Int) (hX : X = compressL h m t last) :
    Calls Tryd.prog 69 #[.agg #[.int .u32 (gv h 0), .int .u32 (gv h 1), .int .u32 (gv h 2), .int .u32 (gv h 3), .int .u32 (gv h 4), .int .u32 (gv h 5), .int .u32 (gv h 6), .int .u32 (gv h 7)], .agg (arr .u32 m), .int .u64 t, .bool last] w fun e w' => e = .returned (.agg #[.int .u32 (gv X 0), .int .u32 (gv X 1), .int .u32 (gv X 2), .int .u32 (gv X 3), .int .u32 (gv X 4), .int .u32 (gv X 5), .int .u32 (gv X 6), .int .u32 (gv X 7)]) ∧ Below w.heap.size w w' := by
  have hx := compressL_len h m t last
  rw [← hX] at hx
  rw [← arr8 h hh, ← arr8 X hx, hX]
  exact compress_any h m t last w hh hm t0 t1 hg hr hz
theorem told8 (h : List Int) (w : World) (hh : h.length = 8) :
    Calls Tryd.prog 71 #[.agg #[.int .u32 (gv h 0), .int .u32 (gv h 1), .int .u32 (gv h 2), .int .u32 (gv h 3), .int .u32 (gv h 4), .int .u32 (gv h 5), .int .u32 (gv h 6), .int .u32 (gv h 7)]] w fun e w' => e = .returned (.string (strOfNums (toldL h))) ∧ Below w.heap.size w w' := by
  rw [← arr8 h hh]; exact told_any h w hh

theorem cells8 (X : List Int) (hX : X.length = 8) : cellsOf .u32 X = [.int .u32 (gv X 0), .int .u32 (gv X 1), .int .u32 (gv X 2), .int .u32 (gv X 3), .int .u32 (gv X 4), .int .u32 (gv X 5), .int .u32 (gv X 6), .int .u32 (gv X 7)] := by
  match X, hX with
  | [a, b, c, d, e, f, g, i], _ => rfl
theorem Holds.set8 {w : World} {B : Nat} {v : List Int} (h : Holds w B .u32 8 v) (X : List Int) (hX : X.length = 8) : Holds ((((((((w.setCell ⟨B, 0, none⟩ (.int .u32 (gv X 0))).setCell ⟨B, 1, none⟩ (.int .u32 (gv X 1))).setCell ⟨B, 2, none⟩ (.int .u32 (gv X 2))).setCell ⟨B, 3, none⟩ (.int .u32 (gv X 3))).setCell ⟨B, 4, none⟩ (.int .u32 (gv X 4))).setCell ⟨B, 5, none⟩ (.int .u32 (gv X 5))).setCell ⟨B, 6, none⟩ (.int .u32 (gv X 6))).setCell ⟨B, 7, none⟩ (.int .u32 (gv X 7))) B .u32 8 X ∧ Only B w ((((((((w.setCell ⟨B, 0, none⟩ (.int .u32 (gv X 0))).setCell ⟨B, 1, none⟩ (.int .u32 (gv X 1))).setCell ⟨B, 2, none⟩ (.int .u32 (gv X 2))).setCell ⟨B, 3, none⟩ (.int .u32 (gv X 3))).setCell ⟨B, 4, none⟩ (.int .u32 (gv X 4))).setCell ⟨B, 5, none⟩ (.int .u32 (gv X 5))).setCell ⟨B, 6, none⟩ (.int .u32 (gv X 6))).setCell ⟨B, 7, none⟩ (.int .u32 (gv X 7))) := by
  have a := h.sets X hX
  have o := only_setCells B (cellsOf .u32 X) 0 w
  have e := cells8 X hX
  rw [e] at a o
  simp only [World.setCells, Nat.zero_add, Nat.reduceAdd] at a o
  exact ⟨a, o⟩
theorem extract_block (s : ByteArray) (q : Nat) (h : q + 64 ≤ s.size) : (s.extract q (q + 64)).data.toList = (s.data.toList.drop q).take 64 ∧ (s.extract q (q + 64)).size = 64 := by
  constructor
  · simp [ByteArray.data_extract, Array.toList_extract, List.extract]
  · simp [ByteArray.size_extract]; omega
def blockL (l : List UInt8) (k : Nat) : List UInt8 := (l.drop (64 * k)).take 64
theorem words_mid (s : ByteArray) (q k : Nat) (w : World) (h : q + 64 ≤ s.size) (hq : q = 64 * k) (M : List Int) (hM : M = wordsTo (blockL s.data.toList k) 64) :
    Calls Tryd.prog 70 #[.string (s.extract q (q + 64))] w fun e w' => e = .returned (.agg (arr .u32 M)) ∧ Below w.heap.size w w' := by
  obtain ⟨e1, e2⟩ := extract_block s q h
  have := words_any (s.extract q (q + 64)) w (by omega)
  rw [e1, e2, hq] at this
  rw [hM, blockL, hq]
  exact this

theorem hbw_drew {n : Nat} {w w' : World} (h : Below n w.drew w') : Below n w w' := ⟨h.os, h.tape, h.output, h.size, h.block⟩
def hTo (n : Int) (l : List UInt8) : Nat → List Int
  | 0 => beginL n
  | k + 1 => compressL (hTo n l k) (wordsTo (blockL l k) 64) (64 * k + 64) false
theorem hTo_len (n : Int) (l : List UInt8) : ∀ k, (hTo n l k).length = 8
  | 0 => rfl
  | _ + 1 => compressL_len _ _ _ _

theorem hTo_step (n : Int) (l : List UInt8) (k q : Nat) (K M X : List Int) (hK : hTo n l k = K) (hM : M = wordsTo (blockL l k) 64) (hX : X = compressL K M ((q : Int) + 64) false) (hq : q = 64 * k) : hTo n l (k + 1) = X := by
  rw [hTo, hK, hX, hM, show ((q : Nat) : Int) + 64 = 64 * (k : Int) + 64 from by omega]
theorem words_end (s : ByteArray) (q k : Nat) (w : World) (hqs : q ≤ s.size) (h : s.size ≤ q + 64) (hq : q = 64 * k) (M : List Int) (hM : M = wordsTo (s.data.toList.drop (64 * k)) (s.size - 64 * k)) :
    Calls Tryd.prog 70 #[.string (s.extract q s.size)] w fun e w' => e = .returned (.agg (arr .u32 M)) ∧ Below w.heap.size w w' := by
  have e1 : (s.extract q s.size).data.toList = s.data.toList.drop q := by
    simp [ByteArray.data_extract, Array.toList_extract, List.extract]
    rw [List.take_of_length_le]; simp
  have e2 : (s.extract q s.size).size = s.size - q := by simp [ByteArray.size_extract]
  have := words_any (s.extract q s.size) w (by omega)
  rw [e1, e2, hq] at this
  rw [hM, hq]
  exact this
theorem wrap_size (k : Nat) (h : k < 18446744073709551616) : IntKind.u64.wrap (k : Int) = (k : Int) := by
  simp [IntKind.wrap, IntKind.bits, IntKind.signed]; omega
def sumL (n : Int) (l : List UInt8) : List Int :=
  toldL (compressL (hTo n l ((l.length - 1) / 64)) (wordsTo (l.drop (64 * ((l.length - 1) / 64))) (l.length - 64 * ((l.length - 1) / 64))) (l.length : Int) true)

theorem sumL_at (n : Int) (l : List UInt8) (z k q : Nat) (K M X : List Int) (hz : l.length = z) (hq : q = 64 * k) (hk : k = 0 ∨ q < z) (he : z ≤ q + 64) (hK : hTo n l k = K) (hM : M = wordsTo (l.drop (64 * k)) (z - 64 * k)) (hX : X = compressL K M (z : Int) true) :
    sumL n l = toldL X := by
  have e : (l.length - 1) / 64 = k := by omega
  rw [sumL, e, hK, hz, hX, hM]

set_option maxRecDepth 4000 in
set_option maxHeartbeats 1600000 in
theorem sum_any (n : Int) (s : ByteArray) (w : World) (n0 : 0 ≤ n) (n1 : n ≤ 32) (hs : s.size ≤ maxLen)
    (hg : Reads w 0 .u32 8 ivL) (hr : Reads w 1 .u8 160 rowsF) (hz : 1 < w.heap.size) :
    Calls Tryd.prog 61 #[.int .i64 n, .string s] w fun e w' => e = .returned (.string (strOfNums (sumL n s.data.toList))) ∧ Below w.heap.size w w' := by
  unfold maxLen at hs
  have hb0 := begin_any n w n0 n1 hg (by omega)
  go_enter Tryd.func61, Tryd.ntmps61
  go_wp2_with fail
  refine hb0.mono ?_
  clear hb0
  rintro e w1 ⟨rfl, hb⟩
  have nz : Holds (w1.alloc (.cells #[.int .u32 0, .int .u32 0, .int .u32 0, .int .u32 0, .int .u32 0, .int .u32 0, .int .u32 0, .int .u32 0] 144)) w1.heap.size .u32 8 (List.replicate 8 0) := Holds.new w1 .u32 144 8 (List.replicate 8 0) rfl
  go_wp2_with (first | (refine wpList_store_holds rfl 144 _ _ rfl w1.heap.size .u32 8 (List.replicate 8 0) (beginL n) rfl rfl (by exact nz) rfl Tryd.size45 ?_))
  obtain ⟨H, hHs⟩ : ∃ H, w1.heap.size = H := ⟨_, rfl⟩
  obtain ⟨W2, hW2⟩ : ∃ X, (w1.alloc (.cells #[.int .u32 0, .int .u32 0, .int .u32 0, .int .u32 0, .int .u32 0, .int .u32 0, .int .u32 0, .int .u32 0] 144)).setCells w1.heap.size 0 (cellsOf .u32 (beginL n)) = X := ⟨_, rfl⟩
  have hH0 : Holds ((w1.alloc (.cells #[.int .u32 0, .int .u32 0, .int .u32 0, .int .u32 0, .int .u32 0, .int .u32 0, .int .u32 0, .int .u32 0] 144)).setCells w1.heap.size 0 (cellsOf .u32 (beginL n))) w1.heap.size .u32 8 (beginL n) := nz.sets (beginL n) rfl
  have nb : Below w.heap.size w ((w1.alloc (.cells #[.int .u32 0, .int .u32 0, .int .u32 0, .int .u32 0, .int .u32 0, .int .u32 0, .int .u32 0, .int .u32 0] 144)).setCells w1.heap.size 0 (cellsOf .u32 (beginL n))) := (hb.alloc hb.size _).trans ((only_setCells w1.heap.size _ _ _).below hb.size)
  have hsz := hb.size
  have ng := hg.below nb (by omega)
  have nr := hr.below nb hz
  rw [hW2] at hH0 nb ng nr ⊢
  rw [hHs] at hH0 hsz ⊢
  have hlt0 := hH0.lt (by decide)
  clear hg hr nz hW2 hHs hb
  obtain ⟨B, hB⟩ : ∃ B, w.heap.size = B := ⟨_, rfl⟩
  rw [hB] at nb hsz hz
  have HB : Hid (w.heap.size = B) := hB
  clear hB
  go_loopw [6] (fun d wr => ∃ (k q : Nat), q = 64 * k ∧ q ≤ s.size ∧ (k = 0 ∨ q < s.size) ∧ d = .int .i64 q ∧ Holds wr H .u32 8 (hTo n s.data.toList k) ∧ Below H W2 wr) (fun d _ => s.size - (intOf d).toNat)
  case atStart => exact ⟨0, 0, rfl, by omega, .inl rfl, rfl, hH0, Below.refl _ _⟩
  case round =>
    obtain ⟨k, q, hq, hqs, hkq, rfl, hH, hbw⟩ := hrel
    have HKQ : Hid (k = 0 ∨ q < s.size) := hkq
    clear hkq
    have hlH := hH.lt (by decide)
    have z0 : 0 < wr.heap.size := by omega
    have z1 : 1 < wr.heap.size := by omega
    have hg1 := ng.below hbw (by omega)
    have hr1 := nr.below hbw (by omega)
    have hb1 := nb.trans (hbw.mono hsz)
    obtain ⟨K, hK⟩ : ∃ K, hTo n s.data.toList k = K := ⟨_, rfl⟩
    have hKl := hTo_len n s.data.toList k
    rw [hK] at hH hKl
    have HK : Hid (hTo n s.data.toList k = K) := hK
    have HQ : Hid (q = 64 * k) := hq
    clear hK hq ng nr nb hH0
    have g0 := hH.cellN 0 (by decide)
    have g1 := hH.cellN 1 (by decide)
    have g2 := hH.cellN 2 (by decide)
    have g3 := hH.cellN 3 (by decide)
    have g4 := hH.cellN 4 (by decide)
    have g5 := hH.cellN 5 (by decide)
    have g6 := hH.cellN 6 (by decide)
    have g7 := hH.cellN 7 (by decide)
    by_cases hlt : q + 64 < s.size
    · go_wp2
      obtain ⟨M, hM⟩ : ∃ M, M = wordsTo (blockL s.data.toList k) 64 := ⟨_, rfl⟩
      have hMl : M.length = 16 := by rw [hM]; exact wordsTo_len _ _
      obtain ⟨X, hX⟩ : ∃ X, X = compressL K M ((q : Int) + 64) false := ⟨_, rfl⟩
      have hXl : X.length = 8 := by rw [hX]; exact compressL_len _ _ _ _
      have HM : Hid (M = wordsTo (blockL s.data.toList k) 64) := hM
      have HX : Hid (X = compressL K M ((q : Int) + 64) false) := hX
      clear hM hX
      go_region_with (first
        | (go_at_call 70; refine (words_mid s q k _ (by omega) HQ.out M HM.out).mono ?_; rintro e w3 ⟨rfl, hb3⟩; have hH3 := hH.drew.below hb3 hlH; have hg3 := hg1.below (hbw_drew hb3) z0; have hr3 := hr1.below (hbw_drew hb3) z1; have hz3 := Nat.lt_of_lt_of_le z1 hb3.size; have a0 := hH3.cellN 0 (by decide); have a1 := hH3.cellN 1 (by decide); have a2 := hH3.cellN 2 (by decide); have a3 := hH3.cellN 3 (by decide); have a4 := hH3.cellN 4 (by decide); have a5 := hH3.cellN 5 (by decide); have a6 := hH3.cellN 6 (by decide); have a7 := hH3.cellN 7 (by decide))
        | (go_at_call 69; refine (compress8 K M ((q : Int) + 64) false _ hKl hMl (by omega) (by omega) ?_ ?_ ?_ X HX.out).mono ?_; exact hg3; exact hr3; exact hz3; rintro e w4 ⟨rfl, hb4⟩; have hH4 := hH3.below hb4 (hH3.lt (by decide)); have b0 := hH4.cellN 0 (by decide); have b1 := hH4.cellN 1 (by decide); have b2 := hH4.cellN 2 (by decide); have b3 := hH4.cellN 3 (by decide); have b4 := hH4.cellN 4 (by decide); have b5 := hH4.cellN 5 (by decide); have b6 := hH4.cellN 6 (by decide); have b7 := hH4.cellN 7 (by decide); have f0 := hH4.freeN 0 (by decide); have f1 := hH4.freeN 1 (by decide); have f2 := hH4.freeN 2 (by decide); have f3 := hH4.freeN 3 (by decide); have f4 := hH4.freeN 4 (by decide); have f5 := hH4.freeN 5 (by decide); have f6 := hH4.freeN 6 (by decide); have f7 := hH4.freeN 7 (by decide)))
      all_goals (go_wp2; go_roundw)
      all_goals first
        | (refine ⟨k + 1, q + 64, by have := HQ.out; omega, by omega, .inr (by omega), by go_num, ?_, ?_⟩
           · rw [hTo_step n s.data.toList k q K M X HK.out HM.out HX.out HQ.out]; exact (hH4.set8 X hXl).1
           · exact ((hbw.trans ((hbw_drew hb3).mono (Nat.le_of_lt hlH))).trans (hb4.mono (Nat.le_of_lt (hH3.lt (by decide))))).trans ((hH4.set8 X hXl).2.below (Nat.le_refl _)))
        | (simp [intOf]; omega)
    · obtain ⟨M, hM⟩ : ∃ M, M = wordsTo (s.data.toList.drop (64 * k)) (s.size - 64 * k) := ⟨_, rfl⟩
      have hMl : M.length = 16 := by rw [hM]; exact wordsTo_len _ _
      obtain ⟨X, hX⟩ : ∃ X, X = compressL K M (s.size : Int) true := ⟨_, rfl⟩
      have hXl : X.length = 8 := by rw [hX]; exact compressL_len _ _ _ _
      have HM : Hid (M = wordsTo (s.data.toList.drop (64 * k)) (s.size - 64 * k)) := hM
      have HX : Hid (X = compressL K M (s.size : Int) true) := hX
      clear hM hX
      have hsw := wrap_size s.size (by omega)
      go_wp2
      go_region_with (first
        | (go_at_call 70; refine (words_end s q k _ hqs (by omega) HQ.out M HM.out).mono ?_; rintro e w3 ⟨rfl, hb3⟩; have hH3 := hH.drew.below hb3 hlH; have hg3 := hg1.below (hbw_drew hb3) z0; have hr3 := hr1.below (hbw_drew hb3) z1; have hz3 := Nat.lt_of_lt_of_le z1 hb3.size; have a0 := hH3.cellN 0 (by decide); have a1 := hH3.cellN 1 (by decide); have a2 := hH3.cellN 2 (by decide); have a3 := hH3.cellN 3 (by decide); have a4 := hH3.cellN 4 (by decide); have a5 := hH3.cellN 5 (by decide); have a6 := hH3.cellN 6 (by decide); have a7 := hH3.cellN 7 (by decide))
        | (go_at_call 69; refine (compress8 K M (s.size : Int) true _ hKl hMl (by omega) (by omega) ?_ ?_ ?_ X HX.out).mono ?_; exact hg3; exact hr3; exact hz3; rintro e w4 ⟨rfl, hb4⟩)
        | (go_at_call 71; refine (told8 X _ hXl).mono ?_; rintro e w5 ⟨rfl, hb5⟩))
      all_goals go_wp2
      all_goals go_ret
      all_goals
        have hBw : B ≤ wr.heap.size := by omega
        have hB3 : B ≤ w3.heap.size := Nat.le_trans hBw hb3.size
        have hB4 : B ≤ w4.heap.size := Nat.le_trans hB3 hb4.size
        rw [sumL_at n s.data.toList s.size k q K M X (by simp) HQ.out HKQ.out (by omega) HK.out HM.out HX.out, HB.out]
        exact ⟨rfl, ((hb1.trans ((hbw_drew hb3).mono hBw)).trans (hb4.mono hB3)).trans (hb5.mono hB4)⟩
end Go.Proofs.YtihilkdokfdoeaaDoor
