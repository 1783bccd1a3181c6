import Derived.Test.YtihilkdokfdoeaaDoorBkN
import Derived.Lib.AppendStr
import Derived.Test.YtihilkdokfdoeaaDoorPfA
namespace Go.Proofs.YtihilkdokfdoeaaDoor
section
open Go.RowKit

/-- Word i of the first n bytes of l, built byte by byte. -/
def wpart (l : List UInt8) (i n : Nat) : Int :=
  (if 4 * i < n then bt l (4 * i) else 0) + (if 4 * i + 1 < n then 256 * bt l (4 * i + 1) else 0) + (if 4 * i + 2 < n then 65536 * bt l (4 * i + 2) else 0) + (if 4 * i + 3 < n then 16777216 * bt l (4 * i + 3) else 0)
theorem or_disj (a b i : Nat) (ha : a < 2 ^ i) (hab : a + b * 2 ^ i < 4294967296) : bits .or .u32 (a : Int) ((b * 2 ^ i : Nat) : Int) = ((a + b * 2 ^ i : Nat) : Int) := by
  rw [u32_or_nat _ _ (by omega) (by omega), Nat.or_comm, or_add b a (2 ^ i) i rfl ha, Nat.add_comm]
theorem step_word (l : List UInt8) (k : Nat) : bits .or .u32 (wpart l (k / 4) k) (bt l k % 4294967296 * 2 ^ (8 * (k % 4)) % 4294967296) = wpart l (k / 4) (k + 1) := by
  obtain ⟨a0, a1⟩ := bt_bd l (4 * (k / 4)); obtain ⟨b0, b1⟩ := bt_bd l (4 * (k / 4) + 1); obtain ⟨c0, c1⟩ := bt_bd l (4 * (k / 4) + 2); obtain ⟨d0, d1⟩ := bt_bd l k
  obtain ⟨A, hA⟩ := Int.eq_ofNat_of_zero_le a0; obtain ⟨B, hB⟩ := Int.eq_ofNat_of_zero_le b0; obtain ⟨C, hC⟩ := Int.eq_ofNat_of_zero_le c0; obtain ⟨D, hD⟩ := Int.eq_ofNat_of_zero_le d0
  have h4 : k % 4 = 0 ∨ k % 4 = 1 ∨ k % 4 = 2 ∨ k % 4 = 3 := by omega
  rcases h4 with h | h | h | h
  · have e : k = 4 * (k / 4) := by omega
    have p1 : wpart l (k / 4) k = ((0 : Nat) : Int) := by unfold wpart; rw [if_neg (by omega), if_neg (by omega), if_neg (by omega), if_neg (by omega)]; rfl
    have p2 : wpart l (k / 4) (k + 1) = (D : Int) := by unfold wpart; rw [if_pos (by omega), if_neg (by omega), if_neg (by omega), if_neg (by omega), ← e, hD]; omega
    have := or_disj 0 D 0 (by decide) (by omega)
    rw [p1, p2, hD, h]
    simp only [Nat.mul_zero, Int.pow_zero, Int.mul_one]
    rw [show (D : Int) % 4294967296 % 4294967296 = ((D * 2 ^ 0 : Nat) : Int) from by omega, this]
    omega
  · have e : k = 4 * (k / 4) + 1 := by omega
    have p1 : wpart l (k / 4) k = (A : Int) := by unfold wpart; rw [if_pos (by omega), if_neg (by omega), if_neg (by omega), if_neg (by omega), hA]; omega
    have p2 : wpart l (k / 4) (k + 1) = ((A + D * 2 ^ 8 : Nat) : Int) := by unfold wpart; rw [if_pos (by omega), if_pos (by omega), if_neg (by omega), if_neg (by omega), ← e, hA, hD]; omega
    have := or_disj A D 8 (by omega) (by omega)
    rw [p1, p2, hD, h, ← this, show (D : Int) % 4294967296 * 2 ^ (8 * 1) % 4294967296 = ((D * 2 ^ 8 : Nat) : Int) from by omega]
  · have e : k = 4 * (k / 4) + 2 := by omega
    have p1 : wpart l (k / 4) k = ((A + 256 * B : Nat) : Int) := by unfold wpart; rw [if_pos (by omega), if_pos (by omega), if_neg (by omega), if_neg (by omega), hA, hB]; omega
    have p2 : wpart l (k / 4) (k + 1) = ((A + 256 * B + D * 2 ^ 16 : Nat) : Int) := by unfold wpart; rw [if_pos (by omega), if_pos (by omega), if_pos (by omega), if_neg (by omega), ← e, hA, hB, hD]; omega
    have := or_disj (A + 256 * B) D 16 (by omega) (by omega)
    rw [p1, p2, hD, h, ← this, show (D : Int) % 4294967296 * 2 ^ (8 * 2) % 4294967296 = ((D * 2 ^ 16 : Nat) : Int) from by omega]
  · have e : k = 4 * (k / 4) + 3 := by omega
    have p1 : wpart l (k / 4) k = ((A + 256 * B + 65536 * C : Nat) : Int) := by unfold wpart; rw [if_pos (by omega), if_pos (by omega), if_pos (by omega), if_neg (by omega), hA, hB, hC]; omega
    have p2 : wpart l (k / 4) (k + 1) = ((A + 256 * B + 65536 * C + D * 2 ^ 24 : Nat) : Int) := by unfold wpart; rw [if_pos (by omega), if_pos (by omega), if_pos (by omega), if_pos (by omega), ← e, hA, hB, hC, hD]; omega
    have := or_disj (A + 256 * B + 65536 * C) D 24 (by omega) (by omega)
    rw [p1, p2, hD, h, ← this, show (D : Int) % 4294967296 * 2 ^ (8 * 3) % 4294967296 = ((D * 2 ^ 24 : Nat) : Int) from by omega]
theorem wordsTo_at (l : List UInt8) : ∀ (n : Nat) (_ : n ≤ 64) (i : Nat) (_ : i < 16), gv (wordsTo l n) i = wpart l i n
  | 0, _, i, hi => by
    have : gv (List.replicate 16 0) (i : Int) = 0 := by
      unfold gv
      rw [List.getD_eq_getElem?_getD, List.getElem?_replicate]
      split <;> rfl
    unfold wordsTo wpart
    rw [this, if_neg (by omega), if_neg (by omega), if_neg (by omega), if_neg (by omega)]
    rfl
  | n + 1, hn, i, hi => by
    have ih := wordsTo_at l n (by omega)
    rw [wordsTo, wordStep]
    by_cases e : n / 4 = i
    · subst e
      rw [gv_pv_same _ _ _ (by omega) (by rw [wordsTo_len]; omega), show ((n : Int) / 4) = ((n / 4 : Nat) : Int) from by omega, ih _ hi, step_word]
    · rw [gv_pv_other _ _ _ _ (by omega) (by omega) (by omega), ih i hi]
      have I : ∀ (a : Nat) (x : Int), a ≠ n → (if a < n + 1 then x else 0) = if a < n then x else 0 := by
        intro a x h
        by_cases c : a < n
        · rw [if_pos c, if_pos (by omega)]
        · rw [if_neg c, if_neg (by omega)]
      unfold wpart
      rw [I _ _ (by omega), I _ _ (by omega), I _ _ (by omega), I _ _ (by omega)]
theorem words_eq (l l' : List UInt8) (n : Nat) (hn : n ≤ 64) (hb : ∀ j, j < 64 → bt l' j = if j < n then bt l j else 0) : wordsTo l n = mTo l' 16 := by
  apply list_of_gv (by rw [wordsTo_len]; simp [mTo])
  intro j j0 j1
  have hj : j < 16 := by simpa [mTo] using j1
  obtain ⟨i, rfl⟩ := Int.eq_ofNat_of_zero_le j0
  have hi : i < 16 := by omega
  rw [wordsTo_at l n hn i hi]
  have e : gv (mTo l' 16) (i : Int) = wd l' i := by simp [gv, mTo, List.getElem?_range hi]
  rw [e, wpart, wd, hb _ (by omega), hb _ (by omega), hb _ (by omega), hb _ (by omega)]
  split <;> split <;> split <;> split <;> omega
theorem begin_eq : ∀ n : Nat, n ≤ 32 → bits .xor .i64 (bits .xor .i64 (gv ivL 0) 16842752) (256 * (n : Int) + 32) = bits .xor .u32 (gv ivL 0) (bits .xor .u32 (bits .xor .u32 16842752 ((n : Int) * 256)) 32) := by
  decide +kernel
end
section
open Go.RowKit
attribute [local go_sem ↓] Go.wp_at_zero Go.wp_at_succ
theorem Tryd.info5 : (Tryd.prog.info? 5).map (fun i => (i.zero, i.size, i.bytes)) = some (some (.int .u8 0), 1, 1) := by kernel_rfl

/-- A text's bytes as numbers. -/
def nb (l : List UInt8) : List Int := l.map fun b => (b.toNat : Int)
theorem nb_len (l : List UInt8) : (nb l).length = l.length := by simp [nb]
theorem gv_nb (l : List UInt8) (k : Nat) : gv (nb l) k = bt l k := by
  unfold gv nb bt
  rw [List.getD_eq_getElem?_getD, List.getElem?_map, List.getD_eq_getElem?_getD, Int.toNat_natCast]
  cases l[k]? <;> rfl
theorem str_cells (s : ByteArray) : Lib.strCells s = cellsOf .u8 (nb s.data.toList) := by simp [Lib.strCells, cellsOf, nb]
theorem cells_append (k : IntKind) (a b : List Int) : cellsOf k (a ++ b) = cellsOf k a ++ cellsOf k b := by simp [cellsOf]
theorem nb_append (a b : List UInt8) : nb (a ++ b) = nb a ++ nb b := by simp [nb]
theorem owns_set8 {w : World} {base g n cap : Nat} {k : IntKind} {e : TypeId} {v : List Int} (h : w.ownsRow base e 1 (.slice (some ⟨g, 0, none⟩) n cap) n (cellsOf k v)) (i : Nat) (x : Int) : (w.setCell ⟨g, i, none⟩ (.int k x)).ownsRow base e 1 (.slice (some ⟨g, 0, none⟩) n cap) n (cellsOf k (pv v (i : Int) x)) := by
  obtain ⟨hl, h⟩ := h
  refine ⟨by rw [← hl]; simp [cellsOf, pv], ?_⟩
  rcases h with ⟨h, _⟩ | ⟨g', cap', cur, hv, hb, hh, h1, h2, h3, h4⟩
  · cases h
  · cases hv
    refine .inr ⟨g, cap, cur.setIfInBounds i (.int k x), rfl, hb, heap_setCell_same w g i cur e _ hh, h1, h2, by rw [Array.size_setIfInBounds, h3], ?_⟩
    rw [Array.toList_setIfInBounds, List.take_set, h4]
    simp [cellsOf, pv, List.map_set]
theorem owns_slice8 {w : World} {base n : Nat} {e : TypeId} {s : Nat} {v : Value} {xs : List Value} (h : w.ownsRow base e s v n xs) : ∃ a cap, v = .slice a n cap := by
  rcases h.2 with ⟨rfl, rfl⟩ | ⟨g, cap, cur, rfl, _⟩
  · exact ⟨none, 0, rfl⟩
  · exact ⟨_, cap, rfl⟩
theorem made64 : (madeCells (Value.int .u8 0).cells (64 * 1)).toList = cellsOf .u8 (List.replicate 64 0) := by kernel_rfl
theorem made32 : (madeCells (Value.int .u8 0).cells (32 * 1)).toList = cellsOf .u8 (List.replicate 32 0) := by kernel_rfl
theorem gv_zeros (n : Nat) (j : Int) : gv (List.replicate n 0) j = 0 := by
  unfold gv
  rw [List.getD_eq_getElem?_getD, List.getElem?_replicate]
  split <;> rfl
theorem key_done (k : List UInt8) (v : List Int) (hk : k ≠ []) (h32 : k.length ≤ 32) (hl : v.length = 64) (h1 : ∀ j : Nat, j < k.length → gv v j = bt k j) (h2 : ∀ j : Nat, k.length ≤ j → gv v j = 0) : v = nb (keyL k) := by
  have e : keyL k = k ++ List.replicate (64 - k.length) 0 := by rw [keyL, if_neg hk]
  apply list_of_gv (by rw [nb_len, e, hl]; simp; omega)
  intro j j0 j1
  obtain ⟨i, rfl⟩ := Int.eq_ofNat_of_zero_le j0
  rw [gv_nb, e]
  by_cases c : i < k.length
  · rw [h1 i c]; unfold bt; rw [List.getD_eq_getElem?_getD, List.getD_eq_getElem?_getD, List.getElem?_append_left c]
  · rw [h2 i (by omega)]
    unfold bt
    rw [List.getD_eq_getElem?_getD, List.getElem?_append_right (by omega), List.getElem?_replicate]
    split <;> rfl

def sliceLen : Value → Nat
  | .slice _ n _ => n
  | _ => 0
theorem pad_of (c : Nat) : ∃ P, c ≤ P ∧ P ≤ c + 64 ∧ P % 64 = 0 ∧ 0 < P ∧ (∀ n, c ≤ n → n < P → n = 0 ∨ n % 64 ≠ 0) := by
  by_cases h : c = 0
  · exact ⟨64, by omega, by omega, by omega, by omega, fun n h1 h2 => by omega⟩
  · exact ⟨(c + 63) / 64 * 64, by omega, by omega, by omega, by omega, fun n h1 h2 => by omega⟩
theorem pad_succ (L : List UInt8) (c n : Nat) (h : c ≤ n) : cellsOf .u8 (nb (L ++ List.replicate (n + 1 - c) 0)) = cellsOf .u8 (nb (L ++ List.replicate (n - c) 0)) ++ [.int .u8 0] := by
  rw [show n + 1 - c = n - c + 1 from by omega, List.replicate_succ', ← List.append_assoc, nb_append, cells_append]
  rfl
theorem owns_cap {w : World} {base n cap : Nat} {e : TypeId} {s : Nat} {a : Option Addr} {xs : List Value} (h : w.ownsRow base e s (.slice a n cap) n xs) : n ≤ cap := by
  rcases h.2 with ⟨e, h0⟩ | ⟨g, cap', cur, e, _, _, h1, _⟩
  · omega
  · injection e; omega

theorem bt_drop (l : List UInt8) (q j : Nat) : bt (l.drop q) j = bt l (q + j) := by
  unfold bt
  rw [List.getD_eq_getElem?_getD, List.getD_eq_getElem?_getD, List.getElem?_drop]
theorem bt_pad (l : List UInt8) (z j : Nat) : bt (l ++ List.replicate z 0) j = bt l j := by
  unfold bt
  rw [List.getD_eq_getElem?_getD, List.getD_eq_getElem?_getD, List.getElem?_append]
  split
  · rfl
  · rw [List.getElem?_replicate, List.getElem?_eq_none (l := l) (by omega)]
    split <;> rfl
theorem bt_out (l : List UInt8) (j : Nat) (h : l.length ≤ j) : bt l j = 0 := by
  unfold bt
  rw [List.getD_eq_getElem?_getD, List.getElem?_eq_none h]
  rfl
theorem bt_take (l : List UInt8) (n j : Nat) : bt (l.take n) j = if j < n then bt l j else 0 := by
  unfold bt
  rw [List.getD_eq_getElem?_getD, List.getD_eq_getElem?_getD, List.getElem?_take]
  split <;> rfl
/-- The state behind k blocks of the padded text of n bytes, c of them the text's own. -/
def stT (ks : Int) (L : List UInt8) (c n k : Nat) : List Int :=
  if 64 * k < n then hTo ks L k else compressL (hTo ks L (k - 1)) (wordsTo (L.drop (64 * (k - 1))) (c - 64 * (k - 1))) (c : Int) true
theorem stT_zero (ks : Int) (L : List UInt8) (c n : Nat) (h : 0 < n) : stT ks L c n 0 = beginL ks := by
  rw [stT, if_pos (by omega)]; rfl
theorem stT_mid (ks : Int) (L : List UInt8) (c n k q : Nat) (hq : q = 64 * k) (hn : q + 64 < n) (V : List Int) (hV : V = stT ks L c n k) (Lp : List UInt8) (z : Nat) (hL : L ++ List.replicate z 0 = Lp) :
    compressL V (mTo (Lp.drop q) 16) ((q : Int) + 64) false = stT ks L c n (k + 1) := by
  have e : wordsTo (blockL L k) 64 = mTo (Lp.drop q) 16 := by
    apply words_eq _ _ 64 (Nat.le_refl _)
    intro j hj
    rw [if_pos hj, bt_drop, ← hL, bt_pad, blockL, bt_take, if_pos hj, bt_drop, hq]
  rw [hV, stT, if_pos (by omega), stT, if_pos (by omega), hTo, e, show ((q : Nat) : Int) + 64 = 64 * (k : Int) + 64 from by omega]
theorem stT_last (ks : Int) (L : List UInt8) (c n k q : Nat) (hq : q = 64 * k) (hn : q + 64 = n) (hc : L.length = c) (hcn : c ≤ n) (V : List Int) (hV : V = stT ks L c n k) (Lp : List UInt8) (z : Nat) (hL : L ++ List.replicate z 0 = Lp) :
    compressL V (mTo (Lp.drop q) 16) (c : Int) true = stT ks L c n (k + 1) := by
  have e : wordsTo (L.drop (64 * k)) (c - 64 * k) = mTo (Lp.drop q) 16 := by
    apply words_eq _ _ _ (by omega)
    intro j hj
    rw [bt_drop, ← hL, bt_pad, bt_drop, hq]
    split
    · rfl
    · rw [bt_out _ _ (by omega)]
  rw [hV, stT, if_pos (by omega), stT, if_neg (by omega), Nat.add_sub_cancel, e]
theorem final_wds {h R : List Int} (hh : Wds h) (hR : Wds R) : Wds (finalL h R) := by
  intro i
  unfold gv finalL
  rw [List.getD_eq_getElem?_getD, List.getElem?_map]
  by_cases hi : i.toNat < 8
  · rw [List.getElem?_range hi]; exact xor_wd _ _ (hh _) (xor_wd _ _ (hR _) (hR _))
  · rw [List.getElem?_eq_none (by simp; omega)]; exact ⟨Int.le_refl _, by show (0 : Int) < 4294967296; decide⟩
theorem compress_wds {h : List Int} (hh : Wds h) (m : List Int) (t : Int) (last : Bool) (ht : Wd (t / 4294967296)) : Wds (compressL h m t last) :=
  final_wds hh (Wds.rounds (Wds.tag (Wds.init hh) t last ht) m 10)
theorem begin_wd (n : Nat) (hn : n ≤ 32) : Wds (beginL n) := by
  have : ∀ n : Nat, n ≤ 32 → 0 ≤ bits .xor .u32 (gv ivL 0) (bits .xor .u32 (bits .xor .u32 16842752 ((n : Int) * 256)) 32) ∧ bits .xor .u32 (gv ivL 0) (bits .xor .u32 (bits .xor .u32 16842752 ((n : Int) * 256)) 32) < 4294967296 := by decide +kernel
  exact iv_wd.put 0 _ (this n hn)

theorem sum_stT (ks : Int) (L : List UInt8) (c n k : Nat) (hL : L.length = c) (h1 : c ≤ n) (h2 : n ≤ c + 64) (h3 : n % 64 = 0) (h4 : 0 < n) (hk : 64 * k = n) (h5 : c = 0 ∨ n ≠ c + 64) : toldL (stT ks L c n k) = sumL ks L := by
  have e : (L.length - 1) / 64 = k - 1 := by omega
  rw [stT, if_neg (by omega), sumL, e, hL]

set_option maxRecDepth 10000 in
set_option maxHeartbeats 4000000 in
theorem refSum_any (key s : ByteArray) (w : World) (h1 : key.size ≤ 32) (hs : s.size ≤ 140737488351232) :
    Calls Tryd.prog 35 #[.string key, .string s] w fun e w' => e = .returned (.tuple #[.string (strOfNums (sumL key.size (keyL key.data.toList ++ s.data.toList))), .int .i64 0]) ∧ Below w.heap.size w w' := by
  obtain ⟨i0, hi, hz0, hz1, hz2⟩ := info_parts Tryd.info5
  obtain ⟨N, hN⟩ : ∃ N, w.heap.size = N := ⟨_, rfl⟩
  have HN : Hid (w.heap.size = N) := hN
  have HI : Hid (Tryd.prog.info? 5 = some i0) := hi
  have HZ0 : Hid (i0.zero = some (.int .u8 0)) := hz0
  have HZ1 : Hid (i0.size = 1) := hz1
  have HZ2 : Hid (i0.bytes = 1) := hz2
  obtain ⟨K, hK⟩ : ∃ K, keyL key.data.toList = K := ⟨_, rfl⟩
  have HK : Hid (keyL key.data.toList = K) := hK
  have hKl : K.length ≤ 64 := by rw [← hK]; exact keyL_len _ (by rw [size_list]; exact h1)
  clear hN hi hz0 hz1 hz2 hK
  go_enter Tryd.func35, Tryd.ntmps35
  go_upto_if 19 with fail
  go_cut [6] from 15 to 32 (fun bv wx => wx.ownsRow N 5 1 bv K.length (cellsOf .u8 (nb K)) ∧ Below N w wx)
  case first =>
    cases h0 : key.toList.isEmpty
    · have HE : Hid (key.toList.isEmpty = false) := h0
      go_wp2_with (first | (at_make; refine wpList_make_full _ rfl _ _ _ rfl N 5 i0 _ 1 Tryd.underlying106 HI.out HZ0.out HZ1.out .i64 .i64 64 64 64 rfl rfl rfl rfl (by rw [HZ2.out]; decide) (by decide) (by rw [HN.out]; omega) ?_; intro wm hownm hgrowm))
      rw [made64] at hownm
      have hbm : Below N w wm := (Below.refl N w).grown hgrowm (by rw [HN.out]; omega) (fun k e => by cases e)
      rw [HN.out] at hownm ⊢
      clear hgrowm h0
      go_loopw [7] (fun i wr => ∃ (k : Nat) (v : List Int), k ≤ key.size ∧ i = .int .i64 k ∧ wr.ownsRow N 5 1 (.slice (some ⟨N, 0, none⟩) 64 64) 64 (cellsOf .u8 v) ∧ (∀ j : Nat, j < k → gv v j = bt key.data.toList j) ∧ (∀ j : Nat, k ≤ j → gv v j = 0) ∧ Below N w wr) (fun i _ => key.size - (intOf i).toNat)
      case atStart => exact ⟨0, _, by omega, rfl, hownm, fun j hj => by omega, fun j _ => gv_zeros 64 j, hbm⟩
      case round =>
        obtain ⟨k, v, hk, rfl, hown, hv1, hv2, hbw⟩ := hrel
        have HV1 : Hid (∀ j : Nat, j < k → gv v j = bt key.data.toList j) := hv1
        have HV2 : Hid (∀ j : Nat, k ≤ j → gv v j = 0) := hv2
        obtain ⟨hH, hlN, _⟩ := Holds.ofOwns hown
        clear hv1 hv2 hownm hbm
        by_cases hlt : k < key.size
        · have c1 := hH.cellN k (by omega)
          have f1 := hH.freeN k (by omega)
          have k0 : (0 : Int) ≤ (k : Int) := by omega
          have k1 : (k : Int) < 64 := by omega
          go_wp2
          go_roundw
          case rel =>
            have hl := hH.len
            refine ⟨k + 1, _, by omega, by go_num, owns_set8 hown k _, fun j hj => ?_, fun j hj => ?_, hbw.setCell (p := ⟨N, k, none⟩) (Nat.le_refl _) _⟩
            · by_cases e : k = j
              · subst e; rw [gv_pv_same _ _ _ (by omega) (by omega)]; exact bt_of key k hlt
              · rw [gv_pv_other _ _ _ _ (by omega) (by omega) (by omega)]; exact HV1.out j (by omega)
            · rw [gv_pv_other _ _ _ _ (by omega) (by omega) (by omega)]; exact HV2.out j (by omega)
          case measure => simp [intOf]; omega
        · have hke : k = key.size := by omega
          have e : v = nb K := by
            rw [← HK.out]
            exact key_done key.data.toList v (toList_some key HE.out) (by rw [size_list]; exact h1) hH.len (fun j hj => HV1.out j (by rw [size_list] at hj; omega)) (fun j hj => HV2.out j (by rw [size_list] at hj; omega))
          have hk64 : K.length = 64 := by rw [← nb_len, ← e]; exact hH.len
          rw [e] at hown
          clear HV1 HV2 hH e hke
          go_wp2
          go_meet
          case rel => rw [hk64]; exact ⟨hown, hbw⟩
    · have HE : Hid (key.toList.isEmpty = true) := h0
      go_wp2
      go_meet
      case rel =>
        have e : K = [] := by rw [← HK.out, toList_empty key HE.out]; rfl
        rw [e]
        exact ⟨World.ownsRow_nil _ _ _ _, Below.refl _ _⟩
  case rest =>
    rename World => w2
    obtain ⟨hown2, hb2⟩ := hcut
    have hs2 := hb2.size
    rw [HN.out] at hs2
    obtain ⟨c, hc⟩ : ∃ c, K.length + s.size = c := ⟨_, rfl⟩
    obtain ⟨L, hL⟩ : ∃ L, K ++ s.data.toList = L := ⟨_, rfl⟩
    have hLc : L.length = c := by rw [← hL, ← hc, List.length_append, size_list]
    have HL : Hid (K ++ s.data.toList = L) := hL
    have HC : Hid (K.length + s.size = c) := hc
    have hcb : c ≤ 140737488351296 := by omega
    clear hL hc
    go_wp2_with (first | (at_builtin; refine Lib.wpList_append_own_string _ rfl _ _ _ _ rfl N 5 i0 Tryd.underlying106 Tryd.underlying9 HI.out HZ0.out HZ1.out HZ2.out _ K.length _ rfl hown2 s rfl (by unfold maxLen; omega) (by omega) hs2 ?_; intro v3 w3 hown3 hgrow3 hnil3; obtain ⟨a3, cap3, rfl⟩ := owns_slice8 hown3; rw [HC.out] at hown3 ⊢))
    have hb3 : Below N w w3 := hb2.grown hgrow3 hs2 (own_ge hown2)
    have hown4 : w3.ownsRow N 5 1 (.slice a3 c cap3) c (cellsOf .u8 (nb (L ++ List.replicate (c - c) 0))) := by
      rw [Nat.sub_self, List.replicate_zero, List.append_nil, ← HL.out, nb_append, cells_append, ← str_cells]; exact hown3
    obtain ⟨P, hP1, hP2, hP3, hP4, hP5⟩ := pad_of c
    have HP5 : Hid (∀ n, c ≤ n → n < P → n = 0 ∨ n % 64 ≠ 0) := hP5
    clear hown3 hgrow3 hnil3 hown2 hb2 hs2 hP5
    go_loopw [6] (fun bv wr => ∃ (n : Nat) (a : Option Addr) (cap : Nat), c ≤ n ∧ n ≤ P ∧ bv = .slice a n cap ∧ wr.ownsRow N 5 1 (.slice a n cap) n (cellsOf .u8 (nb (L ++ List.replicate (n - c) 0))) ∧ Below N w wr) (fun bv _ => P - sliceLen bv)
    case atStart => exact ⟨c, _, _, Nat.le_refl _, hP1, rfl, hown4, hb3⟩
    case round =>
      obtain ⟨n, a, cap, hcn, hnP, rfl, hown, hbw⟩ := hrel
      rename World => w4
      clear hown4 hb3
      have hs4 := hbw.size
      rw [HN.out] at hs4
      by_cases hlt : n < P
      · have tst : (((n : Int) == 0) = true) ∨ (((n : Int) == 0) = false ∧ (((n : Int) % 64 != 0) = true)) := by
          rcases HP5.out n hcn hlt with e | e
          · exact .inl (by subst e; rfl)
          · refine .inr ⟨?_, ?_⟩
            · rw [beq_eq_false_iff_ne]; omega
            · rw [bne_iff_ne]; omega
        rcases tst with b1 | ⟨b1, b2⟩
        all_goals
          go_wp2_with (first | (at_builtin; refine wpList_append_lies _ rfl _ _ _ rfl N 5 i0 _ 1 1 Tryd.underlying106 HI.out HZ0.out HZ1.out HZ2.out rfl (by omega) (.slice a n cap) n _ rfl (hown.alloc _) ⟨w4.heap.size, 0, none⟩ 1 1 [.int .u8 0] rfl rfl (World.news_of_block (cs := #[.int .u8 0]) (t := 5) (fr := (0, 0)) (heap_alloc_new w4 _)) (by simp [Value.oneCell']) (by omega) (by unfold maxLen; omega) (by omega) (by simp; omega) _ rfl ?_; intro g cap' w5 hown5 hgrow5 hat5 hlt5))
          go_roundw
          case rel =>
            refine ⟨n + 1, _, _, by omega, by omega, rfl, ?_, (hbw.alloc hs4 _).grown hgrow5 (by simp; omega) (own_ge hown)⟩
            rw [pad_succ L c n hcn]
            exact hown5
          case measure => simp [sliceLen]; omega
      · have hnP' : n = P := by omega
        clear hlt hcn
        subst hnP'
        have b1 : ((n : Int) == 0) = false := by rw [beq_eq_false_iff_ne]; omega
        have b2 : ((n : Int) % 64 != 0) = false := by rw [bne_eq_false_iff_eq]; omega
        obtain ⟨gb, capb, e, hgb, hgl⟩ := hown.form hP4
        injection e with ea _ ec
        subst ea ec
        obtain ⟨hBy, _, _⟩ := Holds.ofOwns hown
        have hcapn : n ≤ cap := owns_cap hown
        clear hown
        obtain ⟨B0, hB0⟩ : ∃ B0, bits .xor .u32 (gv ivL 0) (bits .xor .u32 (bits .xor .u32 16842752 ((key.size : Int) * 256)) 32) = B0 := ⟨_, rfl⟩
        have x0 : bits .xor .i64 (bits .xor .i64 (gv ivL 0) 16842752) (256 * (key.size : Int) + 32) = B0 := (begin_eq key.size h1).trans hB0
        have HB0 : Hid (bits .xor .u32 (gv ivL 0) (bits .xor .u32 (bits .xor .u32 16842752 ((key.size : Int) * 256)) 32) = B0) := hB0
        obtain ⟨Lp, hLp⟩ : ∃ Lp, L ++ List.replicate (n - c) 0 = Lp := ⟨_, rfl⟩
        have HLp : Hid (L ++ List.replicate (n - c) 0 = Lp) := hLp
        rw [hLp] at hBy
        clear hB0 hLp
        go_wp2_with fail
        refine (iv_any w4).mono ?_
        rintro e w5 ⟨rfl, hIv, hb5⟩
        obtain ⟨H0, hH0⟩ : ∃ H0, w4.heap.size = H0 := ⟨_, rfl⟩
        have hBy5 := hBy.below hb5 hgl
        have hbw5 : Below N w w5 := hbw.trans (hb5.mono hs4)
        rw [hH0] at hIv hs4 hgl ⊢
        clear hBy hbw hb5 hH0 b1 b2
        have c0 : w5.cell? ⟨H0, 0, none⟩ = some (.int .i64 (gv ivL 0)) := hIv.cellN 0 (by decide)
        have f0 := hIv.freeN 0 (by decide)
        have hHb : Holds (w5.setCell ⟨H0, 0, none⟩ (.int .i64 B0)) H0 .i64 8 (beginL key.size) := by
          have := hIv.setN 0 B0 (by decide)
          rw [beginL, HB0.out]
          exact this
        have hBy6 : Holds (w5.setCell ⟨H0, 0, none⟩ (.int .i64 B0)) gb .u8 n (nb Lp) := hBy5.only ((Only.refl H0 w5).set 0 _) (by omega)
        have hbw6 : Below N w (w5.setCell ⟨H0, 0, none⟩ (.int .i64 B0)) := hbw5.setCell (p := ⟨H0, 0, none⟩) hs4 _
        have hWB : Wds (beginL key.size) := begin_wd key.size h1
        go_wp2
        obtain ⟨w6, hw6⟩ : ∃ w6, w5.setCell ⟨H0, 0, none⟩ (.int .i64 B0) = w6 := ⟨_, rfl⟩
        rw [hw6] at hHb hBy6 hbw6 ⊢
        obtain ⟨Z, hZ⟩ : ∃ Z, w6.heap.size = Z := ⟨_, rfl⟩
        have hZg := hBy6.lt hP4
        have hZH := hHb.lt (by decide)
        have hZN : N ≤ w6.heap.size := Nat.le_trans hs4 (Nat.le_of_lt hZH)
        rw [hZ] at hZg hZH hZN
        have HZ : Hid (w6.heap.size = Z) := hZ
        clear hw6 hZ c0 f0 x0 hIv hBy5 hbw5
        go_loopw [9, 10] (fun hv i wr => ∃ (k q Bh cap' : Nat) (V : List Int), q = 64 * k ∧ q ≤ n ∧ i = .int .i64 q ∧ hv = .slice (some ⟨Bh, 0, none⟩) 8 cap' ∧ N ≤ Bh ∧ Bh < wr.heap.size ∧ Holds wr Bh .i64 8 V ∧ V = stT key.size L c n k ∧ Wds V ∧ Below Z w6 wr) (fun _ i _ => n - (intOf i).toNat)
        case atStart => exact ⟨0, 0, H0, 8, _, rfl, by omega, rfl, rfl, hs4, by rw [HZ.out]; exact hZH, hHb, (stT_zero _ _ _ _ hP4).symm, hWB, Below.refl _ _⟩
        case round =>
          obtain ⟨k, q, Bh, cap', V, hq, hqn, rfl, rfl, hBN, hBl, hHV, hV, hWV, hbr⟩ := hrel
          rename World => w7
          have HQ : Hid (q = 64 * k) := hq
          have HV : Hid (V = stT key.size L c n k) := hV
          have HWV : Hid (Wds V) := hWV
          have hBy7 := hBy6.below hbr hZg
          have hs7 := hbr.size
          rw [HZ.out] at hs7
          clear hV hWV hHb hWB
          by_cases hlt : q < n
          · have hq64 : q + 64 ≤ n := by omega
            clear hq
            have hcell : ∀ j, j < 64 → w7.cell? ⟨gb, q + j, none⟩ = some (.int .u8 (bt (Lp.drop q) j)) := fun j hj => by
              rw [hBy7.cellN (q + j) (by omega), gv_nb, bt_drop]
            have HC7 : Hid (∀ j, j < 64 → w7.cell? ⟨gb, q + j, none⟩ = some (.int .u8 (bt (Lp.drop q) j))) := hcell
            have q0 : (0 : Int) ≤ (q : Int) := by omega
            have q1 : (q : Int) + 64 ≤ (cap : Int) := by omega
            have q2 : IntKind.i64.wrap ((q : Int) + 64) = (q : Int) + 64 := wrap_id8 _ (by omega) (by omega)
            clear hcell
            by_cases hl : q + 64 = n
            · have b1 : ((q : Int) + 64 == (n : Int)) = true := by rw [beq_iff_eq]; omega
              go_wp2_with fail
              rw [show n - q = 64 from by omega]
              refine (block_any Bh cap' gb q (cap - q) V (Lp.drop q) (c : Int) true w7 hHV HWV.out hBl (by omega) HC7.out (by omega) (by omega)).mono ?_
              rintro e w8 ⟨N8, cap8, rfl, hN8, hH8, hb8⟩
              have hE := stT_last key.size L c n k q HQ.out hl hLc hP1 V HV.out Lp (n - c) HLp.out
              have HE8 : Hid (_ = _) := hE
              have hW8 := compress_wds HWV.out (mTo (Lp.drop q) 16) (c : Int) true ⟨by omega, by omega⟩
              have HW8 : Hid (Wds _) := hW8
              clear hE hW8 HC7
              go_wp2
              go_roundw
              case rel => exact ⟨k + 1, q + 64, N8, cap8, _, by have := HQ.out; omega, by omega, by go_num, rfl, by omega, hH8.lt (by decide), hH8, HE8.out, HW8.out, hbr.trans (hb8.mono hs7)⟩
              case measure => simp [intOf]; omega
            · have b1 : ((q : Int) + 64 == (n : Int)) = false := by rw [beq_eq_false_iff_ne]; omega
              go_wp2_with fail
              refine (block_any Bh cap' gb q (cap - q) V (Lp.drop q) ((q : Int) + 64) false w7 hHV HWV.out hBl (by omega) HC7.out (by omega) (by omega)).mono ?_
              rintro e w8 ⟨N8, cap8, rfl, hN8, hH8, hb8⟩
              have hE := stT_mid key.size L c n k q HQ.out (by omega) V HV.out Lp (n - c) HLp.out
              have HE8 : Hid (_ = _) := hE
              have hW8 := compress_wds HWV.out (mTo (Lp.drop q) 16) ((q : Int) + 64) false ⟨by omega, by omega⟩
              have HW8 : Hid (Wds _) := hW8
              clear hE hW8 HC7
              go_wp2
              go_roundw
              case rel => exact ⟨k + 1, q + 64, N8, cap8, _, by have := HQ.out; omega, by omega, by go_num, rfl, by omega, hH8.lt (by decide), hH8, HE8.out, HW8.out, hbr.trans (hb8.mono hs7)⟩
              case measure => simp [intOf]; omega
          · have hqn2 : q = n := by omega
            have h5 : c = 0 ∨ n ≠ c + 64 := by
              by_cases e : n = c + 64
              · left
                rcases HP5.out c (Nat.le_refl _) (by omega) with e1 | e1
                · exact e1
                · omega
              · exact .inr e
            have HFin : Hid (sumL key.size L = toldL V) := by rw [HV.out]; exact (sum_stT key.size L c n k hLc hP1 hP2 hP3 hP4 (by have := HQ.out; omega) h5).symm
            clear h5
            clear hq HV HQ
            go_wp2_with (first | (at_make; refine wpList_make_full _ rfl _ _ _ rfl N 5 i0 _ 1 Tryd.underlying106 HI.out HZ0.out HZ1.out .i64 .i64 32 32 32 rfl rfl rfl rfl (by rw [HZ2.out]; decide) (by decide) (by omega) ?_; intro wm hownm hgrowm))
            rw [made32] at hownm
            obtain ⟨hO, hOl, hON⟩ := Holds.ofOwns hownm
            have hVm := hHV.grown hgrowm hBl (by intro e; cases e)
            have hbm : Below N w wm := (hbw6.trans (hbr.mono hZN)).grown hgrowm (by omega) (fun k e => by cases e)
            obtain ⟨Bo, hBo⟩ : ∃ Bo, w7.heap.size = Bo := ⟨_, rfl⟩
            rw [hBo] at hO hON hBl ⊢
            clear hownm hgrowm hHV hBy7 hbr hBy6 hbw6 hBo hOl
            go_loopw [88] (fun i wr => ∃ (k : Nat) (v : List Int), k ≤ 32 ∧ i = .int .i64 k ∧ Holds wr Bo .u8 32 v ∧ (∀ j : Nat, j < k → gv v j = tb V j) ∧ Only Bo wm wr) (fun i _ => 32 - (intOf i).toNat)
            case atStart => exact ⟨0, _, by omega, rfl, hO, fun j hj => by omega, Only.refl _ _⟩
            case round =>
              obtain ⟨k, v, hk, rfl, hH, hv, hO9⟩ := hrel
              rename World => w9
              have HV1 : Hid (∀ j : Nat, j < k → gv v j = tb V j) := hv
              have hV9 := hVm.only hO9 (by omega)
              have hb9 := hbm.trans (hO9.below hON)
              clear hv hbm hVm hO
              by_cases hlt : k < 32
              · have c1 := hV9.cellN (k / 4) (by omega)
                have c2 := hH.cellN k (by omega)
                have f2 := hH.freeN k (by omega)
                have k0 : (0 : Int) ≤ (k : Int) := by omega
                have k1 : (k : Int) < 32 := by omega
                go_wp2
                go_roundw
                case rel =>
                  refine ⟨k + 1, _, by omega, by go_num, hH.setN k _ hlt, fun j hj => ?_, hO9.set _ _⟩
                  by_cases e : k = j
                  · subst e; rw [gv_pv_same _ _ _ (by omega) (by have := hH.len; omega)]; rfl
                  · rw [gv_pv_other _ _ _ _ (by omega) (by omega) (by omega)]; exact HV1.out j (by omega)
                case measure => simp [intOf]; omega
              · have hk32 : k = 32 := by omega
                have e : v = toldL V := list_of_gv (by rw [hH.len, toldL_len]) (fun j j0 j1 => by
                  rw [toldL_len] at j1
                  obtain ⟨i, rfl⟩ := Int.eq_ofNat_of_zero_le j0
                  rw [HV1.out i (by omega), gv_toldL V i (by omega)])
                rw [e] at hH
                clear HV1 e hk32
                have hcv : (convert 106 9 (.slice (some ⟨Bo, 0, none⟩) 32 32)).run Tryd.prog w9 = .ok (.string (strOfNums (toldL V))) w9 :=
                  run_convert_bytes_arg w9 106 5 Tryd.underlying106 Tryd.underlying5 Bo 0 32 32 (toldL V) (toldL_len V) (fun i hi => by rw [Nat.zero_add, hH.cellN i hi]; simp [gv]) 9 Tryd.underlying9
                go_wp2
                go_ret2
                rw [HK.out, HL.out, HFin.out, HN.out]
                exact ⟨rfl, hb9⟩
end
section
open Go.RowKit
attribute [local go_sem ↓] Go.wp_at_zero Go.wp_at_succ

/-- The sum of a text with a key. -/
def bl (k t : List UInt8) : List UInt8 := (strOfNums (sumL (k.length : Int) (keyL k ++ t))).data.toList
theorem rSumL_any (k s : List UInt8) (w : World) (h1 : k.length ≤ 32) (hs : s.length ≤ 140737488351232) :
    Calls Tryd.prog 35 #[.string (bs k), .string (bs s)] w fun e w' => e = .returned (.tuple #[.string (bs (bl k s)), .int .i64 0]) ∧ Below w.heap.size w w' := by
  have h := refSum_any (bs k) (bs s) w (by rw [bs_size]; exact h1) (by rw [bs_size]; exact hs)
  rw [bs_size, bs_list, bs_list] at h
  rw [bl, bs_data]
  exact h

end
end Go.Proofs.YtihilkdokfdoeaaDoor
