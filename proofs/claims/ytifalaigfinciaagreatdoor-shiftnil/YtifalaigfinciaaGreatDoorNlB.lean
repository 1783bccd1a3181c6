/- A nil ring checks nothing. -/
import Derived.Test.YtifalaigfinciaaGreatDoorNlA
namespace Go.Proofs.YtifalaigfinciaaGreatDoor
open Go.RowKit
attribute [local go_sem ↓] Go.wp_at_zero Go.wp_at_succ

set_option maxRecDepth 20000 in
set_option maxHeartbeats 400000 in
theorem ringCheck_nil (g n : Int) (t tg : List UInt8) (w : World) (he : EnvP w) (hp : isP g n) :
    Calls Tryz.prog 31 #[.pointer none, .agg #[.int .i64 g, .int .i64 n, .string (bs t), .string (bs tg)]] w fun e W' => e = .returned (.int .i64 7) ∧ Below w.heap.size w W' := by
  have hb1 : Below w.heap.size w (w.alloc (.cells #[.int .i64 g, .int .i64 n, .string (bs t), .string (bs tg)] 96)) := (Below.refl _ w).alloc (Nat.le_refl _) _
  have hT := tagOf_nil g n t _ (he.next hb1) hp
  clear hp
  obtain ⟨zz, hz⟩ : ∃ z, zeroT = z := ⟨_, rfl⟩
  have hzl : zz.length = 16 := by rw [← hz]; rfl
  rw [hz] at hT
  clear hz
  go_enter Tryz.func31, Tryz.ntmps31
  go_wp2_with fail
  refine hT.mono ?_
  clear hT
  rintro e w1 ⟨rfl, hb2⟩
  have hB1 := hb1.trans (hb2.mono hb1.size)
  have hHn : Holds (w1.alloc (.cells #[.int .u8 0, .int .u8 0, .int .u8 0, .int .u8 0, .int .u8 0, .int .u8 0, .int .u8 0, .int .u8 0, .int .u8 0, .int .u8 0, .int .u8 0, .int .u8 0, .int .u8 0, .int .u8 0, .int .u8 0, .int .u8 0] 98)) w1.heap.size .u8 16 zeroT := by
    have h := Holds.new w1 .u8 98 16 zeroT rfl
    rw [arr_zero] at h
    exact h
  have hB2 := hB1.alloc hB1.size (.cells #[.int .u8 0, .int .u8 0, .int .u8 0, .int .u8 0, .int .u8 0, .int .u8 0, .int .u8 0, .int .u8 0, .int .u8 0, .int .u8 0, .int .u8 0, .int .u8 0, .int .u8 0, .int .u8 0, .int .u8 0, .int .u8 0] 98)
  have hB3 := hB2.trans ((only_setCells w1.heap.size (cellsOf .u8 zz) 0 (w1.alloc (.cells #[.int .u8 0, .int .u8 0, .int .u8 0, .int .u8 0, .int .u8 0, .int .u8 0, .int .u8 0, .int .u8 0, .int .u8 0, .int .u8 0, .int .u8 0, .int .u8 0, .int .u8 0, .int .u8 0, .int .u8 0, .int .u8 0] 98))).below hB1.size)
  have HB3 : Hid (_) := hB3
  clear hB2 hB3 hB1
  go_wp2_with (first | (refine wpList_store_holds rfl 98 _ _ rfl w1.heap.size .u8 16 zeroT zz rfl rfl hHn hzl Tryz.size98 ?_))
  exact bodyPost_ret (v := .int .i64 7) (by simp [results, Tryz.f31, go_sem]) rfl ⟨rfl, HB3.out⟩
end Go.Proofs.YtifalaigfinciaaGreatDoor
