/- Shards: Begin, Pull, Freeze, Drop, Do, Install, Content of none, walked. -/
import Derived.Test.YtgmobjdjojffgaaDoorSdB
namespace Go.Proofs.YtgmobjdjojffgaaDoor
open Go.RowKit
attribute [local go_sem ↓] Go.wp_at_zero Go.wp_at_succ

/-- The cells of no client. -/
def C24 : List Value := ccs fun _ => la0
theorem C24_len : C24.length = 24 := ccs_len _
theorem Tryd.info69 : (Tryd.prog.info? 69).map (fun i => (i.zero, i.size, i.bytes)) = some (some (.agg (.pointer none :: C24).toArray), 25, 264) := by kernel_rfl
theorem Tryd.zero69 (w : World) : (zeroValue 69).run Tryd.prog w = .ok (.agg (.pointer none :: C24).toArray) w := by
  obtain ⟨i, hi, hz, _⟩ := info_parts Tryd.info69
  simp [zeroValue, typeInfo, hi, hz]
set_option maxRecDepth 20000 in
set_option maxHeartbeats 1000000 in
theorem Pull_nil (w : World) : Calls Tryd.prog 17 #[.pointer none] w fun e W' => e = .returned (.int .i64 7) ∧ Below w.heap.size w W' := by
  have hz := Tryd.zero69
  have hT := turn_nil 0 3 (.pointer none :: C24) w
  obtain ⟨C, hC⟩ : ∃ C, C24 = C := ⟨_, rfl⟩
  rw [hC] at hz hT
  clear hC
  go_enter Tryd.func17, Tryd.ntmps17
  go_wp2_with (first | (go_at_call 36; refine hT.mono ?_; clear hT; rintro e w1 ⟨rfl, hb⟩))
  go_ret
  exact ⟨rfl, hb⟩
set_option maxRecDepth 20000 in
set_option maxHeartbeats 1000000 in
theorem Drop_nil (w : World) : Calls Tryd.prog 22 #[.pointer none] w fun e W' => e = .returned (.int .i64 7) ∧ Below w.heap.size w W' := by
  have hz := Tryd.zero69
  have hT := turn_nil 2 0 (.pointer none :: C24) w
  obtain ⟨C, hC⟩ : ∃ C, C24 = C := ⟨_, rfl⟩
  rw [hC] at hz hT
  clear hC
  go_enter Tryd.func22, Tryd.ntmps22
  go_wp2_with (first | (go_at_call 36; refine hT.mono ?_; clear hT; rintro e w1 ⟨rfl, hb⟩))
  go_ret
  exact ⟨rfl, hb⟩
set_option maxRecDepth 20000 in
set_option maxHeartbeats 1000000 in
theorem Begin_nil (w : World) : Calls Tryd.prog 15 #[.pointer none] w fun e W' => e = .returned (.int .i64 7) ∧ Below w.heap.size w W' := by
  have hz := Tryd.zero69
  have HT : Hid (∀ W p, Calls Tryd.prog 36 #[.pointer none, .int .i64 0, .int .i64 1, .agg (.pointer p :: C24).toArray] W fun e W' => e = .returned (.int .i64 7) ∧ Below W.heap.size W W') := fun W p => turn_nil 0 1 (.pointer p :: C24) W
  have hN := New_any w
  have HL := C24_len
  obtain ⟨C, hC⟩ : ∃ C, C24 = C := ⟨_, rfl⟩
  rw [hC] at hz HT HL
  clear hC
  go_enter Tryd.func15, Tryd.ntmps15
  go_wp2_with (first
    | (go_at_call 37; refine hN.mono ?_; clear hN; rintro e w1 ⟨rfl, _, hb, _⟩)
    | (go_at_call 36; refine (HT.out _ _).mono ?_; rintro e w2 ⟨rfl, hb2⟩))
  go_ret
  exact ⟨rfl, hb.trans (hb2.mono hb.size)⟩
set_option maxRecDepth 20000 in
theorem Freeze_nil (w : World) : Calls Tryd.prog 16 #[.pointer none] w fun e W' => e = .returned (.int .i64 7) ∧ W' = w := by
  have hS := Status_nil w
  go_enter Tryd.func16, Tryd.ntmps16
  go_wp2_with (first | (go_at_call 21; refine hS.mono ?_; clear hS; rintro e w1 ⟨rfl, h9⟩; subst h9))
  go_ret
  exact ⟨rfl, rfl⟩
set_option maxRecDepth 20000 in
theorem Install_nil (t : List UInt8) (w : World) : Calls Tryd.prog 18 #[.pointer none, .string (bs t)] w fun e W' => e = .returned (.int .i64 7) ∧ W' = w := by
  have hS := Status_nil w
  go_enter Tryd.func18, Tryd.ntmps18
  go_wp2_with (first | (go_at_call 21; refine hS.mono ?_; clear hS; rintro e w1 ⟨rfl, h9⟩; subst h9))
  go_ret
  exact ⟨rfl, rfl⟩
set_option maxRecDepth 20000 in
theorem Content_nil (w : World) : Calls Tryd.prog 19 #[.pointer none] w fun e W' => e = .returned (.string ⟨#[]⟩) ∧ W' = w := by
  have hS := Status_nil w
  have hH := holds_any 0 w
  rw [show hasC 0 = false from rfl] at hH
  go_enter Tryd.func19, Tryd.ntmps19
  go_wp2_with (first
    | (go_at_call 21; refine hS.mono ?_; clear hS; rintro e w1 ⟨rfl, h9⟩; subst h9)
    | (go_at_call 27; refine hH.mono ?_; clear hH; rintro e w1 ⟨rfl, h9⟩; subst h9))
  go_ret
  exact ⟨rfl, rfl⟩
end Go.Proofs.YtgmobjdjojffgaaDoor
