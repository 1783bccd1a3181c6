import Derived.Test.YtihilkdokfdoeaaDoorBkC
namespace Go.Proofs.YtihilkdokfdoeaaDoor
open Go.RowKit
attribute [local go_sem ↓] Go.wp_at_zero Go.wp_at_succ
theorem Tryd.size167 : (Tryd.prog.info? 147).map (·.size) = some 16 := by kernel_rfl

/-- Byte k of a text. -/
def bt (l : List UInt8) (k : Nat) : Int := ((l.getD k 0).toNat : Int)
theorem bt_of (s : ByteArray) (k : Nat) (h : k < s.size) : ((s[k].toNat : Nat) : Int) = bt s.data.toList k := by
  have h' : k < s.data.toList.length := by simpa using h
  unfold bt
  rw [List.getD_eq_getElem?_getD, List.getElem?_eq_getElem h']
  rfl
def wordStep (l : List UInt8) (v : List Int) (k : Nat) : List Int := pv v ((k / 4 : Nat) : Int) (bits .or .u32 (gv v ((k : Int) / 4)) (bt l k % 4294967296 * 2 ^ (8 * (k % 4)) % 4294967296))
def wordsTo (l : List UInt8) : Nat → List Int
  | 0 => List.replicate 16 0
  | k + 1 => wordStep l (wordsTo l k) k
theorem wordsTo_len (l : List UInt8) : ∀ k, (wordsTo l k).length = 16
  | 0 => rfl
  | k + 1 => by simp [wordsTo, wordStep, pv, wordsTo_len l k]

set_option maxRecDepth 4000 in
set_option maxHeartbeats 1000000 in
theorem words_any (s : ByteArray) (w : World) (hs : s.size ≤ 64) :
    Calls Tryd.prog 70 #[.string s] w fun e w' => e = .returned (.agg (arr .u32 (wordsTo s.data.toList s.size))) ∧ Below w.heap.size w w' := by
  go_enter Tryd.func70, Tryd.ntmps70
  go_wp2
  obtain ⟨N, hN⟩ : ∃ N, w.heap.size = N := ⟨_, rfl⟩
  have nB : Below w.heap.size w ((w.alloc (.cells #[.int .u32 0, .int .u32 0, .int .u32 0, .int .u32 0, .int .u32 0, .int .u32 0, .int .u32 0, .int .u32 0, .int .u32 0, .int .u32 0, .int .u32 0, .int .u32 0, .int .u32 0, .int .u32 0, .int .u32 0, .int .u32 0] 147)).alloc (.cells #[.int .u32 0, .int .u32 0, .int .u32 0, .int .u32 0, .int .u32 0, .int .u32 0, .int .u32 0, .int .u32 0, .int .u32 0, .int .u32 0, .int .u32 0, .int .u32 0, .int .u32 0, .int .u32 0, .int .u32 0, .int .u32 0] 147)) := ((Below.refl _ w).alloc (Nat.le_refl _) _).alloc (by simp) _
  have nH : Holds ((w.alloc (.cells #[.int .u32 0, .int .u32 0, .int .u32 0, .int .u32 0, .int .u32 0, .int .u32 0, .int .u32 0, .int .u32 0, .int .u32 0, .int .u32 0, .int .u32 0, .int .u32 0, .int .u32 0, .int .u32 0, .int .u32 0, .int .u32 0] 147)).alloc (.cells #[.int .u32 0, .int .u32 0, .int .u32 0, .int .u32 0, .int .u32 0, .int .u32 0, .int .u32 0, .int .u32 0, .int .u32 0, .int .u32 0, .int .u32 0, .int .u32 0, .int .u32 0, .int .u32 0, .int .u32 0, .int .u32 0] 147)) (w.alloc (.cells #[.int .u32 0, .int .u32 0, .int .u32 0, .int .u32 0, .int .u32 0, .int .u32 0, .int .u32 0, .int .u32 0, .int .u32 0, .int .u32 0, .int .u32 0, .int .u32 0, .int .u32 0, .int .u32 0, .int .u32 0, .int .u32 0] 147)).heap.size .u32 16 (List.replicate 16 0) := Holds.new (w.alloc (.cells #[.int .u32 0, .int .u32 0, .int .u32 0, .int .u32 0, .int .u32 0, .int .u32 0, .int .u32 0, .int .u32 0, .int .u32 0, .int .u32 0, .int .u32 0, .int .u32 0, .int .u32 0, .int .u32 0, .int .u32 0, .int .u32 0] 147)) .u32 147 16 (List.replicate 16 0) (by simp)
  have nR : Holds ((w.alloc (.cells #[.int .u32 0, .int .u32 0, .int .u32 0, .int .u32 0, .int .u32 0, .int .u32 0, .int .u32 0, .int .u32 0, .int .u32 0, .int .u32 0, .int .u32 0, .int .u32 0, .int .u32 0, .int .u32 0, .int .u32 0, .int .u32 0] 147)).alloc (.cells #[.int .u32 0, .int .u32 0, .int .u32 0, .int .u32 0, .int .u32 0, .int .u32 0, .int .u32 0, .int .u32 0, .int .u32 0, .int .u32 0, .int .u32 0, .int .u32 0, .int .u32 0, .int .u32 0, .int .u32 0, .int .u32 0] 147)) w.heap.size .u32 16 (List.replicate 16 0) := (Holds.new w .u32 147 16 (List.replicate 16 0) (by simp)).below ((Below.refl _ _).alloc (Nat.le_refl _) _) (by simp)
  rw [World.size_alloc] at nH
  rw [hN] at nB nH nR ⊢
  obtain ⟨W0, hW0⟩ : ∃ W0, (w.alloc (.cells #[.int .u32 0, .int .u32 0, .int .u32 0, .int .u32 0, .int .u32 0, .int .u32 0, .int .u32 0, .int .u32 0, .int .u32 0, .int .u32 0, .int .u32 0, .int .u32 0, .int .u32 0, .int .u32 0, .int .u32 0, .int .u32 0] 147)).alloc (.cells #[.int .u32 0, .int .u32 0, .int .u32 0, .int .u32 0, .int .u32 0, .int .u32 0, .int .u32 0, .int .u32 0, .int .u32 0, .int .u32 0, .int .u32 0, .int .u32 0, .int .u32 0, .int .u32 0, .int .u32 0, .int .u32 0] 147) = W0 := ⟨_, rfl⟩
  rw [hW0] at nB nH nR ⊢
  have HN : Hid (w.heap.size = N) := hN
  clear hW0 hN
  go_loopw [7] (fun i wr => ∃ (k : Nat), k ≤ s.size ∧ i = .int .i64 k ∧ Holds wr (N + 1) .u32 16 (wordsTo s.data.toList k) ∧ Only (N + 1) W0 wr) (fun i _ => s.size - (intOf i).toNat)
  case atStart => exact ⟨0, by omega, rfl, nH, Only.refl _ _⟩
  case round =>
    obtain ⟨k, hk, rfl, hH, hO⟩ := hrel
    have hR := nR.only hO (by omega)
    have hb := nB.trans (hO.below (n := N) (by omega))
    clear nR nB nH
    by_cases hlt : k < s.size
    · have c2 := hH.cellN (k / 4) (by omega)
      have f2 := hH.freeN (k / 4) (by omega)
      go_wp2
      go_region
      all_goals (go_wp2; go_roundw)
      case rel =>
        refine ⟨k + 1, by omega, by go_num, ?_, (hO.set _ _).drew⟩
        have := (hH.setN (k / 4) (bits .or .u32 (gv (wordsTo s.data.toList k) ((k : Int) / 4)) (bt s.data.toList k % 4294967296 * 2 ^ (8 * (k % 4)) % 4294967296)) (by omega)).drew
        rw [← bt_of s k hlt] at this
        rw [wordsTo, wordStep, ← bt_of s k hlt]
        exact this
      case measure => simp [intOf]; omega
    · obtain rfl : k = s.size := by omega
      go_wp2_with (first | (refine wpList_load_holds rfl 147 _ rfl (N + 1) rfl .u32 16 (wordsTo s.data.toList s.size) _ (by exact hH) Tryd.underlying147 rfl Tryd.size167 ?_) | (refine wpList_store_holds rfl 147 _ _ rfl N .u32 16 (List.replicate 16 0) (wordsTo s.data.toList s.size) rfl rfl (by exact hR) (wordsTo_len _ _) Tryd.size167 ?_))
      exact bodyPost_ret (results_cell1 Tryd.results70 _ _ _ rfl (run_loadVar_holds (hR.sets (wordsTo s.data.toList s.size) (wordsTo_len _ _)) 147 _ Tryd.underlying147 rfl Tryd.size167)) rfl ⟨rfl, by rw [HN.out]; exact hb.trans ((only_setCells N _ _ _).below (Nat.le_refl _))⟩
end Go.Proofs.YtihilkdokfdoeaaDoor
