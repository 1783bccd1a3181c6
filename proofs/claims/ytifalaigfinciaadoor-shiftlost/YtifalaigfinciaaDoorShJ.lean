/- Nothing settled is lost: the statement's function, walked. -/
import Derived.Test.YtifalaigfinciaaDoorShI
namespace Go.Proofs.YtifalaigfinciaaDoor
open Go.RowKit
attribute [local go_sem ↓] Go.wp_at_zero Go.wp_at_succ

set_option maxRecDepth 20000 in
set_option maxHeartbeats 4000000 in
theorem lost_out (F Bad Held In V N O : Int) (batch other : List UInt8) (w : World) (he : Env w)
    (h : ¬ (0 ≤ F ∧ F ≤ 3 ∧ 0 ≤ V ∧ V ≤ 1000 ∧ 1 ≤ N ∧ N ≤ 8 ∧ 0 ≤ O ∧ O < V ∧ batch.length ≤ 9000 ∧ other.length ≤ 9000)) :
    Calls Tryd.prog 4 #[.agg #[.int .i64 F, .int .i64 Bad, .int .i64 Held, .int .i64 In, .int .i64 V, .int .i64 N, .int .i64 O], .string (bs batch), .string (bs other)] w fun e W' => e = .returned (.bool true) ∧ Below w.heap.size w W' := by
  have hba := (Below.refl w.heap.size w).alloc (Nat.le_refl _) (.cells #[.int .i64 F, .int .i64 Bad, .int .i64 Held, .int .i64 In, .int .i64 V, .int .i64 N, .int .i64 O] 49)
  have hfi := fills_any (w.alloc (.cells #[.int .i64 F, .int .i64 Bad, .int .i64 Held, .int .i64 In, .int .i64 V, .int .i64 N, .int .i64 O] 49)) (he.next hba)
  have s1 : (bs batch).size = batch.length := bs_size _
  have s2 : (bs other).size = other.length := bs_size _
  have hcs : F < 0 ∨ (0 ≤ F ∧ (3 < F ∨ (F ≤ 3 ∧ (V < 0 ∨ (0 ≤ V ∧ (1000 < V ∨ (V ≤ 1000 ∧ (N < 1 ∨ (1 ≤ N ∧ (8 < N ∨ (N ≤ 8 ∧ (O < 0 ∨ (0 ≤ O ∧ (V ≤ O ∨ (O < V ∧ ((9000 : Int) < (batch.length : Int) ∨ ((batch.length : Int) ≤ 9000 ∧ (9000 : Int) < (other.length : Int)))))))))))))))))) := by omega
  have HB : Hid (_) := hba
  clear h hba he
  rcases hcs with h0 | ⟨h0, h1 | ⟨h1, h2 | ⟨h2, h3 | ⟨h3, h4 | ⟨h4, h5 | ⟨h5, h6 | ⟨h6, h7 | ⟨h7, h8 | ⟨h8, h9⟩⟩⟩⟩⟩⟩⟩⟩⟩
  all_goals
    go_enter Tryd.func4, Tryd.ntmps4
    go_wp2_with (first | (go_at_call 7; refine hfi.mono ?_; clear hfi; rintro e w1 ⟨rfl, hb1⟩))
    exact bodyPost_ret (v := .bool true) (by simp [results, Tryd.f4, go_sem]) rfl ⟨rfl, HB.out.trans (hb1.mono HB.out.size)⟩
end Go.Proofs.YtifalaigfinciaaDoor
