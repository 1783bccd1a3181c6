import Derived.Test.YtihilkdokfdoeaaDoorBkD
import Derived.Laws.BytesArg
namespace Go.Proofs.YtihilkdokfdoeaaDoor
open Go.RowKit
attribute [local go_sem ↓] Go.wp_at_zero Go.wp_at_succ

def tb (h : List Int) (k : Nat) : Int := gv h ((k : Int) / 4) / 2 ^ (8 * (k % 4)) % 256
def toldL (h : List Int) : List Int := (List.range 32).map (tb h)
theorem toldL_len (h : List Int) : (toldL h).length = 32 := by simp [toldL]
theorem gv_toldL (h : List Int) (k : Nat) (hk : k < 32) : gv (toldL h) k = tb h k := by
  simp [gv, toldL, List.getElem?_range hk]

set_option maxRecDepth 4000 in
set_option maxHeartbeats 1000000 in
theorem told_any (h : List Int) (w : World) (hh : h.length = 8) :
    Calls Tryd.prog 71 #[.agg (arr .u32 h)] w fun e w' => e = .returned (.string (strOfNums (toldL h))) ∧ Below w.heap.size w w' := by
  have hz : (arr .u32 h).size = 8 := by simp [arr, hh]
  go_enter Tryd.func71, Tryd.ntmps71
  go_wp2
  obtain ⟨N, hN⟩ : ∃ N, w.heap.size = N := ⟨_, rfl⟩
  have nB : Below w.heap.size w ((w.alloc (.cells (arr .u32 h) 144)).alloc (.cells #[.int .u8 0, .int .u8 0, .int .u8 0, .int .u8 0, .int .u8 0, .int .u8 0, .int .u8 0, .int .u8 0, .int .u8 0, .int .u8 0, .int .u8 0, .int .u8 0, .int .u8 0, .int .u8 0, .int .u8 0, .int .u8 0, .int .u8 0, .int .u8 0, .int .u8 0, .int .u8 0, .int .u8 0, .int .u8 0, .int .u8 0, .int .u8 0, .int .u8 0, .int .u8 0, .int .u8 0, .int .u8 0, .int .u8 0, .int .u8 0, .int .u8 0, .int .u8 0] 171)) := ((Below.refl _ w).alloc (Nat.le_refl _) _).alloc (by simp) _
  have nH : Holds ((w.alloc (.cells (arr .u32 h) 144)).alloc (.cells #[.int .u8 0, .int .u8 0, .int .u8 0, .int .u8 0, .int .u8 0, .int .u8 0, .int .u8 0, .int .u8 0, .int .u8 0, .int .u8 0, .int .u8 0, .int .u8 0, .int .u8 0, .int .u8 0, .int .u8 0, .int .u8 0, .int .u8 0, .int .u8 0, .int .u8 0, .int .u8 0, .int .u8 0, .int .u8 0, .int .u8 0, .int .u8 0, .int .u8 0, .int .u8 0, .int .u8 0, .int .u8 0, .int .u8 0, .int .u8 0, .int .u8 0, .int .u8 0] 171)) (w.alloc (.cells (arr .u32 h) 144)).heap.size .u8 32 (List.replicate 32 0) := Holds.new (w.alloc (.cells (arr .u32 h) 144)) .u8 171 32 (List.replicate 32 0) (by simp)
  have nR : Holds ((w.alloc (.cells (arr .u32 h) 144)).alloc (.cells #[.int .u8 0, .int .u8 0, .int .u8 0, .int .u8 0, .int .u8 0, .int .u8 0, .int .u8 0, .int .u8 0, .int .u8 0, .int .u8 0, .int .u8 0, .int .u8 0, .int .u8 0, .int .u8 0, .int .u8 0, .int .u8 0, .int .u8 0, .int .u8 0, .int .u8 0, .int .u8 0, .int .u8 0, .int .u8 0, .int .u8 0, .int .u8 0, .int .u8 0, .int .u8 0, .int .u8 0, .int .u8 0, .int .u8 0, .int .u8 0, .int .u8 0, .int .u8 0] 171)) w.heap.size .u32 8 h := (Holds.new w .u32 144 8 h hh).below ((Below.refl _ _).alloc (Nat.le_refl _) _) (by simp)
  rw [World.size_alloc] at nH
  rw [hN] at nB nH nR ⊢
  obtain ⟨W0, hW0⟩ : ∃ W0, (w.alloc (.cells (arr .u32 h) 144)).alloc (.cells #[.int .u8 0, .int .u8 0, .int .u8 0, .int .u8 0, .int .u8 0, .int .u8 0, .int .u8 0, .int .u8 0, .int .u8 0, .int .u8 0, .int .u8 0, .int .u8 0, .int .u8 0, .int .u8 0, .int .u8 0, .int .u8 0, .int .u8 0, .int .u8 0, .int .u8 0, .int .u8 0, .int .u8 0, .int .u8 0, .int .u8 0, .int .u8 0, .int .u8 0, .int .u8 0, .int .u8 0, .int .u8 0, .int .u8 0, .int .u8 0, .int .u8 0, .int .u8 0] 171) = W0 := ⟨_, rfl⟩
  rw [hW0] at nB nH nR ⊢
  have HN : Hid (w.heap.size = N) := hN
  clear hW0 hN hz
  go_loopw [5] (fun i wr => ∃ (k : Nat) (v : List Int), k ≤ 32 ∧ i = .int .i64 k ∧ Holds wr (N + 1) .u8 32 v ∧ (∀ j : Nat, j < k → gv v j = tb h j) ∧ Only (N + 1) W0 wr) (fun i _ => 32 - (intOf i).toNat)
  case atStart => exact ⟨0, _, by omega, rfl, nH, fun j hj => by omega, Only.refl _ _⟩
  case round =>
    obtain ⟨k, v, hk, rfl, hH, hv, hO⟩ := hrel
    have HV : Hid (∀ j : Nat, j < k → gv v j = tb h j) := hv
    clear hv
    have hR := nR.only hO (by omega)
    have hb := nB.trans (hO.below (n := N) (by omega))
    clear nR nB nH
    by_cases hlt : k < 32
    · have c1 := hR.cellN (k / 4) (by omega)
      have c2 := hH.cellN k (by omega)
      have f2 := hH.freeN k (by omega)
      go_wp2
      go_roundw
      case rel =>
        refine ⟨k + 1, _, by omega, by go_num, hH.setN k _ hlt, fun j hj => ?_, hO.set _ _⟩
        by_cases e : k = j
        · subst e; rw [gv_pv_same _ _ _ (by omega) (by have := hH.len; omega)]; rfl
        · rw [gv_pv_other _ _ _ _ (by omega) (by omega) (by omega)]; exact HV.out j (by omega)
      case measure => simp [intOf]; omega
    · obtain rfl : k = 32 := by omega
      obtain rfl : v = toldL h := list_of_gv (by rw [hH.len, toldL_len]) (fun j j0 j1 => by
        rw [toldL_len] at j1
        obtain ⟨i, rfl⟩ := Int.eq_ofNat_of_zero_le j0
        rw [HV.out i (by omega), gv_toldL h i (by omega)])
      clear HV
      have hcv : (convert 106 9 (.slice (some ⟨N + 1, 0, none⟩) 32 32)).run Tryd.prog wr = .ok (.string (strOfNums (toldL h))) wr :=
        run_convert_bytes_arg wr 106 5 Tryd.underlying106 Tryd.underlying5 (N + 1) 0 32 32 (toldL h) (toldL_len h) (fun i hi => by rw [Nat.zero_add, hH.cellN i hi]; simp [gv]) 9 Tryd.underlying9
      go_wp2
      go_ret
      exact ⟨rfl, by rw [HN.out]; exact hb⟩
end Go.Proofs.YtihilkdokfdoeaaDoor
