import Derived.Test.YtihilkdokfdoeaaDoorBkL
namespace Go.Proofs.YtihilkdokfdoeaaDoor
open Go.RowKit
attribute [local go_sem ↓] Go.wp_at_zero Go.wp_at_succ

set_option maxHeartbeats 400000 in
theorem iv_any (w : World) :
    Calls Tryd.prog 41 #[] w fun e w' => e = .returned (.slice (some ⟨w.heap.size, 0, none⟩) 8 8) ∧ Holds w' w.heap.size .i64 8 ivL ∧ Below w.heap.size w w' := by
  go_enter Tryd.func41, Tryd.ntmps41
  go_wp2
  go_ret
  exact ⟨rfl, Holds.new w .i64 3 8 ivL rfl, (Below.refl _ w).alloc (Nat.le_refl _) _⟩

theorem heap_allocs : ∀ (os : List Obj) (w : World), (os.foldl World.alloc w).heap = w.heap ++ os.toArray
  | [], w => by simp
  | o :: os, w => by
    rw [List.foldl_cons, heap_allocs os (w.alloc o)]
    show w.heap.push o ++ os.toArray = _
    simp
theorem heap_allocs_at (os : List Obj) (w : World) (i : Nat) : (os.foldl World.alloc w).heap[w.heap.size + i]? = os[i]? := by
  rw [heap_allocs, Array.getElem?_append_right (by omega)]
  simp
theorem below_allocs : ∀ (os : List Obj) (w : World), Below w.heap.size w (os.foldl World.alloc w)
  | [], w => Below.refl _ _
  | o :: os, w => ((Below.refl _ w).alloc (Nat.le_refl _) o).trans ((below_allocs os (w.alloc o)).mono (by simp))
theorem Holds.ofBlock {w : World} {B : Nat} {k : IntKind} {t : TypeId} {n : Nat} {v : List Int} (hh : w.heap[B]? = some (.cells (arr k v) t)) (hn : v.length = n) : Holds w B k n v := by
  refine ⟨hn, fun i i0 i1 => ?_, fun i i0 i1 => ?_⟩
  · unfold World.cell?
    simp only [hh]
    have hl : i.toNat < v.length := by omega
    simp [arr, gv, List.getElem?_eq_getElem hl]
  · unfold World.frozen?
    simp only [hh]
    simp
    try omega
def rowObjs (w : World) : List Obj := (rowsL.map fun r => Obj.cells (arr .i64 r) 3) ++ [.cells #[.slice (some ⟨w.heap.size, 0, none⟩) 16 16, .slice (some ⟨w.heap.size + 1, 0, none⟩) 16 16, .slice (some ⟨w.heap.size + 1 + 1, 0, none⟩) 16 16, .slice (some ⟨w.heap.size + 1 + 1 + 1, 0, none⟩) 16 16, .slice (some ⟨w.heap.size + 1 + 1 + 1 + 1, 0, none⟩) 16 16, .slice (some ⟨w.heap.size + 1 + 1 + 1 + 1 + 1, 0, none⟩) 16 16, .slice (some ⟨w.heap.size + 1 + 1 + 1 + 1 + 1 + 1, 0, none⟩) 16 16, .slice (some ⟨w.heap.size + 1 + 1 + 1 + 1 + 1 + 1 + 1, 0, none⟩) 16 16, .slice (some ⟨w.heap.size + 1 + 1 + 1 + 1 + 1 + 1 + 1 + 1, 0, none⟩) 16 16, .slice (some ⟨w.heap.size + 1 + 1 + 1 + 1 + 1 + 1 + 1 + 1 + 1, 0, none⟩) 16 16] 67]
theorem rowObjs_at (w : World) (k : Nat) (hk : k < 10) : (rowObjs w)[k]? = some (.cells (arr .i64 (rowL k)) 3) := by
  have hl : k < rowsL.length := hk
  unfold rowObjs
  rw [List.getElem?_append_left (by simpa using hl), List.getElem?_map, List.getElem?_eq_getElem hl]
  simp [rowL, List.getElem?_eq_getElem hl]

set_option maxRecDepth 4000 in
set_option maxHeartbeats 1000000 in
theorem row_any (k : Nat) (w : World) (hk : k < 10) :
    Calls Tryd.prog 49 #[.int .i64 k] w fun e w' => ∃ N, e = .returned (.slice (some ⟨N, 0, none⟩) 16 16) ∧ w.heap.size ≤ N ∧ Holds w' N .i64 16 (rowL k) ∧ Below w.heap.size w w' := by
  have HH : Hid (Holds ((rowObjs w).foldl World.alloc w) (w.heap.size + k) .i64 16 (rowL k)) := Holds.ofBlock ((heap_allocs_at _ _ _).trans (rowObjs_at w k hk)) (rowL_len k hk)
  have HB : Hid (Below w.heap.size w ((rowObjs w).foldl World.alloc w)) := below_allocs _ _
  have k0 : (0 : Int) ≤ (k : Int) := by omega
  have k1 : (k : Int) < 10 := by omega
  go_enter Tryd.func49, Tryd.ntmps49
  go_wp2
  go_ret
  refine ⟨w.heap.size + k, ?_, by omega, HH.out, HB.out⟩
  have hkk : k = 0 ∨ k = 1 ∨ k = 2 ∨ k = 3 ∨ k = 4 ∨ k = 5 ∨ k = 6 ∨ k = 7 ∨ k = 8 ∨ k = 9 := by omega
  clear HH HB k0 k1
  rcases hkk with rfl | rfl | rfl | rfl | rfl | rfl | rfl | rfl | rfl | rfl <;> rfl
end Go.Proofs.YtihilkdokfdoeaaDoor
