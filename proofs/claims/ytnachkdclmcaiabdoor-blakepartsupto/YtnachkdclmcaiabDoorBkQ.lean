import Derived.Test.YtnachkdclmcaiabDoorBkP
namespace Go.Proofs.YtnachkdclmcaiabDoor
open Go.RowKit

set_option maxHeartbeats 400000 in
theorem refSum_long (key s : ByteArray) (w : World) (h1 : 32 < key.size) (h2 : key.size ≤ maxLen) :
    Calls Tryd.prog 14 #[.string key, .string s] w fun e w' => e = .returned (.tuple #[.string ⟨#[]⟩, .int .i64 2]) ∧ w' = w := by
  unfold maxLen at h2
  go_enter Tryd.func14, Tryd.ntmps14
  go_wp2
  go_ret2
  exact ⟨rfl, rfl⟩

set_option maxHeartbeats 400000 in
theorem sums_any (key s : ByteArray) (w : World) (h2 : key.size ≤ maxLen) (hs : s.size ≤ 140737488351232)
    (hg : Reads w 0 .u32 8 ivL) (hr : Reads w 1 .u8 160 rowsF) (hz : 1 < w.heap.size) :
    Calls Tryd.prog 4 #[.string key, .string s] w fun e w' => e = .returned (.bool true) ∧ Below w.heap.size w w' := by
  by_cases h1 : key.size ≤ 32
  · go_enter Tryd.func4, Tryd.ntmps4
    go_wp2_with fail
    refine (Sum_any key s w h1 (by omega) hg hr hz).mono ?_
    rintro e w1 ⟨rfl, hb⟩
    have hg1 := hg.below hb (by omega)
    have hr1 := hr.below hb hz
    have hz1 : 1 < w1.heap.size := Nat.lt_of_lt_of_le hz hb.size
    have href := refSum_any key s w1 h1 hs
    obtain ⟨R, hR⟩ : ∃ R, strOfNums (sumL (key.size : Int) (keyL key.data.toList ++ s.data.toList)) = R := ⟨_, rfl⟩
    rw [hR] at href ⊢
    clear hR hg hr
    go_wp2_with fail
    refine href.mono ?_
    clear href
    rintro e w2 ⟨rfl, hb2⟩
    have hg2 := hg1.below hb2 (by omega)
    have hr2 := hr1.below hb2 hz1
    have hz2 : 1 < w2.heap.size := Nat.lt_of_lt_of_le hz1 hb2.size
    have hbb := hb.trans (hb2.mono hb.size)
    clear hg1 hr1 hz1 hb hb2
    go_wp2_with (go_at_call 15; refine (abc_any w2 hg2 hr2 hz2).mono ?_; rintro e w3 ⟨rfl, hb3⟩)
    go_ret
    exact ⟨rfl, hbb.trans (hb3.mono hbb.size)⟩
  · go_enter Tryd.func4, Tryd.ntmps4
    go_wp2_with fail
    refine (Sum_long key s w (by omega) h2).mono ?_
    rintro e w1 ⟨rfl, hb⟩
    have hg1 := hg.below hb (by omega)
    have hr1 := hr.below hb hz
    have hz1 : 1 < w1.heap.size := Nat.lt_of_lt_of_le hz hb.size
    have href := refSum_long key s w1 (by omega) h2
    clear hg hr
    go_wp2_with fail
    refine href.mono ?_
    clear href
    rintro e w2 ⟨rfl, rfl⟩
    go_wp2_with (go_at_call 15; refine (abc_any _ hg1 hr1 hz1).mono ?_; rintro e w3 ⟨rfl, hb3⟩)
    go_ret
    exact ⟨rfl, hb.trans (hb3.mono hb.size)⟩
end Go.Proofs.YtnachkdclmcaiabDoor
