/- Shards: Begin, Pull, Drop of a shard, each way, walked. -/
import Derived.Test.YtgmobjdjojffgaaDoorSdI
namespace Go.Proofs.YtgmobjdjojffgaaDoor
open Go.RowKit
attribute [local go_sem ↓] Go.wp_at_zero Go.wp_at_succ

/-- A shard that holds nothing, of this status. -/
def shO (st : Int) : Sh := ⟨st, [], fun _ => la0⟩
theorem hcs_no {st : Int} (h : hasC st = false) (T : Nat) : hcs (shO st) T = .pointer none :: C24 := by
  show _ = Value.pointer none :: ccs fun _ => la0
  rw [hcs, show hasC (shO st).st = false from h]
  rfl
theorem turn_out {w : World} {B : Nat} {s : Sh} {T : Nat} {v : Value} (h : ShAt w B s T v) (tt : Int) (ht : hasC tt = false) : Calls Tryd.prog 36 #[.pointer (some ⟨B, 0, none⟩), .int .i64 s.st, .int .i64 tt, .agg (.pointer none :: C24).toArray] w fun e W' => e = .returned (.int .i64 0) ∧ ShAt W' B (shO tt) 0 (.slice none 0 0) ∧ Mv B w W' := by
  have := turn_ok h tt (hcs (shO tt) 0) (hcs_len _ _) (hcs_one _ _)
  rw [hcs_no ht] at this
  refine this.mono ?_
  rintro e W' ⟨rfl, hL⟩
  rw [← hcs_no ht 0] at hL
  exact ⟨rfl, Laid.sh (s' := shO tt) hL h.lt (fun e => by rw [show hasC (shO tt).st = false from ht] at e; cases e) (fun _ => ⟨rfl, rfl⟩), hL.mv⟩
set_option maxRecDepth 20000 in
set_option maxHeartbeats 1000000 in
theorem Pull_ok {w : World} {B : Nat} {s : Sh} {T : Nat} {v : Value} (h : ShAt w B s T v) (h0 : s.st = 0) : Calls Tryd.prog 17 #[.pointer (some ⟨B, 0, none⟩)] w fun e W' => e = .returned (.int .i64 0) ∧ ShAt W' B (shO 3) 0 (.slice none 0 0) ∧ Mv B w W' := by
  have hz := Tryd.zero69
  have hT := turn_out h 3 rfl
  rw [h0] at hT
  obtain ⟨C, hC⟩ : ∃ C, C24 = C := ⟨_, rfl⟩
  rw [hC] at hz hT
  clear hC h h0
  go_enter Tryd.func17, Tryd.ntmps17
  go_wp2_with (first | (go_at_call 36; refine hT.mono ?_; clear hT; rintro e w1 ⟨rfl, hb⟩))
  go_ret
  exact ⟨rfl, hb⟩
set_option maxRecDepth 20000 in
set_option maxHeartbeats 1000000 in
theorem Pull_no {w : World} {B : Nat} {s : Sh} {T : Nat} {v : Value} (h : ShAt w B s T v) (h0 : s.st ≠ 0) : Calls Tryd.prog 17 #[.pointer (some ⟨B, 0, none⟩)] w fun e W' => e = .returned (.int .i64 7) ∧ Below w.heap.size w W' := by
  have hz := Tryd.zero69
  have hT := turn_no h h0 3 (.pointer none :: C24)
  obtain ⟨C, hC⟩ : ∃ C, C24 = C := ⟨_, rfl⟩
  rw [hC] at hz hT
  clear hC h h0
  go_enter Tryd.func17, Tryd.ntmps17
  go_wp2_with (first | (go_at_call 36; refine hT.mono ?_; clear hT; rintro e w1 ⟨rfl, hb⟩))
  go_ret
  exact ⟨rfl, hb⟩
set_option maxRecDepth 20000 in
set_option maxHeartbeats 1000000 in
theorem Drop_ok {w : World} {B : Nat} {s : Sh} {T : Nat} {v : Value} (h : ShAt w B s T v) (h0 : s.st = 2) : Calls Tryd.prog 22 #[.pointer (some ⟨B, 0, none⟩)] w fun e W' => e = .returned (.int .i64 0) ∧ ShAt W' B (shO 0) 0 (.slice none 0 0) ∧ Mv B w W' := by
  have hz := Tryd.zero69
  have hT := turn_out h 0 rfl
  rw [h0] at hT
  obtain ⟨C, hC⟩ : ∃ C, C24 = C := ⟨_, rfl⟩
  rw [hC] at hz hT
  clear hC h h0
  go_enter Tryd.func22, Tryd.ntmps22
  go_wp2_with (first | (go_at_call 36; refine hT.mono ?_; clear hT; rintro e w1 ⟨rfl, hb⟩))
  go_ret
  exact ⟨rfl, hb⟩
set_option maxRecDepth 20000 in
set_option maxHeartbeats 1000000 in
theorem Drop_no {w : World} {B : Nat} {s : Sh} {T : Nat} {v : Value} (h : ShAt w B s T v) (h0 : s.st ≠ 2) : Calls Tryd.prog 22 #[.pointer (some ⟨B, 0, none⟩)] w fun e W' => e = .returned (.int .i64 7) ∧ Below w.heap.size w W' := by
  have hz := Tryd.zero69
  have hT := turn_no h h0 0 (.pointer none :: C24)
  obtain ⟨C, hC⟩ : ∃ C, C24 = C := ⟨_, rfl⟩
  rw [hC] at hz hT
  clear hC h h0
  go_enter Tryd.func22, Tryd.ntmps22
  go_wp2_with (first | (go_at_call 36; refine hT.mono ?_; clear hT; rintro e w1 ⟨rfl, hb⟩))
  go_ret
  exact ⟨rfl, hb⟩
set_option maxRecDepth 20000 in
set_option maxHeartbeats 1000000 in
theorem Begin_no {w : World} {B : Nat} {s : Sh} {T : Nat} {v : Value} (h : ShAt w B s T v) (h0 : s.st ≠ 0) : Calls Tryd.prog 15 #[.pointer (some ⟨B, 0, none⟩)] w fun e W' => e = .returned (.int .i64 7) ∧ Below w.heap.size w W' := by
  have hz := Tryd.zero69
  have HT : Hid (∀ W, Below w.heap.size w W → ∀ p, Calls Tryd.prog 36 #[.pointer (some ⟨B, 0, none⟩), .int .i64 0, .int .i64 1, .agg (.pointer p :: C24).toArray] W fun e W' => e = .returned (.int .i64 7) ∧ Below W.heap.size W W') := fun W hb p => turn_no (h.on hb) h0 1 (.pointer p :: C24)
  have hN := New_any w
  obtain ⟨C, hC⟩ : ∃ C, C24 = C := ⟨_, rfl⟩
  rw [hC] at hz HT
  clear hC h h0
  go_enter Tryd.func15, Tryd.ntmps15
  go_wp2_with (first
    | (go_at_call 37; refine hN.mono ?_; clear hN; rintro e w1 ⟨rfl, _, hb, _⟩; have hT := HT.out _ hb; clear HT)
    | (go_at_call 36; refine (hT _).mono ?_; clear hT; rintro e w2 ⟨rfl, hb2⟩))
  go_ret
  exact ⟨rfl, hb.trans (hb2.mono hb.size)⟩
end Go.Proofs.YtgmobjdjojffgaaDoor
