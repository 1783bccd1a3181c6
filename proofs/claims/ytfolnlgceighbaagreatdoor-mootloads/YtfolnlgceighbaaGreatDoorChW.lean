/- Chains: Ints, same, ChainNil, walked. -/
import Derived.Test.YtfolnlgceighbaaGreatDoorChV
namespace Go.Proofs.YtfolnlgceighbaaGreatDoor
open Go.RowKit
attribute [local go_sem ↓] Go.wp_at_zero Go.wp_at_succ

theorem Ints_any (ns : List Int) (u v : Value) (w : World) (hu : Il w u ns) (hv : Il w v ns) (hl : ns.length ≤ 1000) :
    Calls Tryz.prog 16 #[u, v] w fun e W' => e = .returned (.bool true) ∧ Below w.heap.size w W' := by
  obtain ⟨a, c, rfl⟩ := hu.slice
  obtain ⟨a2, c2, rfl⟩ := hv.slice
  go_enter Tryz.func16, Tryz.ntmps16
  go_wp2_with fail
  go_loopg [8] ns.length (fun gk i wr => ∃ k : Nat, k + gk = ns.length ∧ i = .int .i64 k ∧ Below w.heap.size w wr)
  case atStart => exact ⟨0, by omega, rfl, Below.refl _ _⟩
  case round =>
    obtain ⟨k, hk, rfl, hb⟩ := hrel
    by_cases hlt : k < ns.length
    · obtain ⟨n, hn⟩ : ∃ n, ns[k]? = some n := ⟨_, List.getElem?_eq_getElem hlt⟩
      obtain ⟨b1, o1, rfl, hb1, x1⟩ := (hu.below hb (Nat.le_refl _)).at hn
      obtain ⟨b2, o2, rfl, hb2, x2⟩ := (hv.below hb (Nat.le_refl _)).at hn
      have k0 : (0 : Int) ≤ (k : Int) := by omega
      have k1 : (k : Int) < (ns.length : Int) := by omega
      have hq : decide (ns.length ≤ k) = false := by simp; omega
      clear hn
      go_wp2_with fail
      go_region_held3 (fun w' => w'.cell? ⟨b1, o1 + k, none⟩ = some (.int .i64 n) ∧ w'.cell? ⟨b2, o2 + k, none⟩ = some (.int .i64 n)) (go_keep) (fail)
      go_wp2
      go_roundg (ns.length - (k + 1))
      case measure => omega
      case rel => exact ⟨k + 1, by omega, by go_num, below_drew hb⟩
    · have hkl : k = ns.length := by omega
      subst hkl
      go_wp2
      go_ret
      exact ⟨rfl, hb⟩
set_option maxRecDepth 20000 in
set_option maxHeartbeats 1000000 in
theorem same_any (n : Int) (ns : List Int) (u v : Value) (a b c d : Int) (w : World) (hu : Il w u ns) (hv : Il w v ns) (hl : ns.length ≤ 1000) :
    Calls Tryz.prog 12 #[.agg (cf n u a b c d), .agg (cf n v a b c d)] w fun e W' => e = .returned (.bool true) ∧ Below w.heap.size w W' := by
  obtain ⟨W0, hW0⟩ : ∃ W, (w.alloc (.cells (cf n u a b c d) 25)).alloc (.cells (cf n v a b c d) 32) = W := ⟨_, rfl⟩
  have hb0 : Below w.heap.size w W0 := by
    rw [← hW0]
    exact ((Below.refl _ w).alloc (Nat.le_refl _) _).alloc (by simp) _
  have r0 : W0.heap[w.heap.size]? = some (.cells (cf n u a b c d) 25) := by
    rw [← hW0]
    exact (Below.heap_alloc _ _ _ (by simp)).trans (heap_alloc_new _ _)
  have r1 : W0.heap[w.heap.size + 1]? = some (.cells (cf n v a b c d) 32) := by
    rw [← hW0]
    have := heap_alloc_new (w.alloc (.cells (cf n u a b c d) 25)) (.cells (cf n v a b c d) 32)
    rwa [show (w.alloc (.cells (cf n u a b c d) 25)).heap.size = w.heap.size + 1 by simp] at this
  have hI := Ints_any ns u v W0 (hu.next hb0) (hv.next hb0) hl
  have x0 := cellB r0 0 _ rfl
  have x1 := cellB r0 1 _ rfl
  have x2 := cellB r0 2 _ rfl
  have x3 := cellB r0 3 _ rfl
  have x4 := cellB r0 4 _ rfl
  have x5 := cellB r0 5 _ rfl
  have y0 := cellB r1 0 _ rfl
  have y1 := cellB r1 1 _ rfl
  have y2 := cellB r1 2 _ rfl
  have y3 := cellB r1 3 _ rfl
  have y4 := cellB r1 4 _ rfl
  have y5 := cellB r1 5 _ rfl
  have z1 : ∀ W, (Op.equalIn 10000 23 (.agg #[.int .i64 a, .int .i64 b, .int .i64 c, .int .i64 d]) (.agg #[.int .i64 a, .int .i64 b, .int .i64 c, .int .i64 d])).run Tryz.prog W = .ok true W := fun W => by rw [eq23, decide_eq_true rfl]
  have HV : Hid ((w.alloc (.cells (cf n u a b c d) 25)).alloc (.cells (cf n v a b c d) 32) = W0) := hW0
  obtain ⟨ua, uc, rfl⟩ := hu.slice
  obtain ⟨va, vc, rfl⟩ := hv.slice
  clear hW0 r0 r1 hu hv
  go_enter Tryz.func12, Tryz.ntmps12
  go_upto_region 1 with fail
  rw [HV.out]
  clear HV
  go_wp2_with (first
    | (go_at_call 16; refine hI.mono ?_; rintro e w1 ⟨rfl, hb1⟩))
  go_ret
  exact ⟨rfl, hb0.trans (hb1.mono hb0.size)⟩
end Go.Proofs.YtfolnlgceighbaaGreatDoor
