import Derived.Test.YtnachkdclmcaiabDoorBkH
namespace Go.Proofs.YtnachkdclmcaiabDoor
open Go.RowKit

def abcS : List Int := [80, 140, 94, 140, 50, 124, 20, 226, 225, 167, 43, 163, 78, 235, 69, 47, 55, 69, 139, 32, 158, 214, 58, 41, 77, 153, 155, 76, 134, 103, 89, 130]
set_option maxRecDepth 100000 in
theorem abcL : sumL 0 [97, 98, 99] = abcS := by decide +kernel

theorem join_one (s : ByteArray) (w : World) (w1 : World) (hb : Below (w.alloc (.cells #[.string s] 9)).heap.size (w.alloc (.cells #[.string s] 9)) w1) :
    Calls Tryd.prog 28 #[.slice (some ⟨w.heap.size, 0, none⟩) 1 1, .string ⟨#[]⟩] w1 fun e w2 => e = .returned (.string s) ∧ Below w1.heap.size w1 w2 := by
  have hc : (w.alloc (.cells #[.string s] 9)).cell? ⟨w.heap.size, 0, none⟩ = some (.string s) := by
    have hh : (w.alloc (.cells #[.string s] 9)).heap[w.heap.size]? = some (.cells #[.string s] 9) := heap_alloc_new w _
    unfold World.cell?
    simp only [hh]
    rfl
  have hc1 : w1.cell? ⟨w.heap.size, 0, none⟩ = some (.string s) := (hb.cell (p := ⟨w.heap.size, 0, none⟩) (by simp)).trans hc
  refine (Any.strings_Join_one Tryd.lays156 Tryd.Builder_Extra_156 w.heap.size 0 1 s ⟨#[]⟩ w1 hc1).mono ?_
  rintro e w2 ⟨rfl, rfl⟩
  exact ⟨rfl, Below.refl _ _⟩

set_option maxHeartbeats 400000 in
theorem Sum_any (key s : ByteArray) (w : World) (h1 : key.size ≤ 32) (hs : s.size ≤ 140737488355328)
    (hg : Reads w 0 .u32 8 ivL) (hr : Reads w 1 .u8 160 rowsF) (hz : 1 < w.heap.size) :
    Calls Tryd.prog 13 #[.string key, .string s] w fun e w' => e = .returned (.tuple #[.string (strOfNums (sumL key.size (keyL key.data.toList ++ s.data.toList))), .int .i64 0]) ∧ Below w.heap.size w w' := by
  go_enter Tryd.func13, Tryd.ntmps13
  go_wp2_with fail
  have nb : Below w.heap.size w (w.alloc (.cells #[.string s] 9)) := (Below.refl _ w).alloc (Nat.le_refl _) _
  refine (Parts_any key s _ 1 1 _ h1 hs (join_one s w) (hg.below nb (by omega)) (hr.below nb hz) (by simp; omega)).mono ?_
  rintro e w1 ⟨rfl, hb1⟩
  have hb := nb.trans (hb1.mono (by simp))
  clear hb1 nb hg hr
  obtain ⟨R, hR⟩ : ∃ R, sumL (key.size : Int) (keyL key.data.toList ++ s.data.toList) = R := ⟨_, rfl⟩
  rw [hR]
  have HR : Hid (sumL (key.size : Int) (keyL key.data.toList ++ s.data.toList) = R) := hR
  clear hR
  go_wp2
  go_ret2
  rw [HR.out]
  exact ⟨rfl, hb⟩

set_option maxHeartbeats 400000 in
theorem Sum_long (key s : ByteArray) (w : World) (h1 : 32 < key.size) (h2 : key.size ≤ maxLen) :
    Calls Tryd.prog 13 #[.string key, .string s] w fun e w' => e = .returned (.tuple #[.string ⟨#[]⟩, .int .i64 2]) ∧ Below w.heap.size w w' := by
  go_enter Tryd.func13, Tryd.ntmps13
  go_wp2_with fail
  refine (Parts_long key _ 1 1 _ h1 h2).mono ?_
  rintro e w1 ⟨rfl, rfl⟩
  go_wp2
  go_ret2
  exact ⟨rfl, (Below.refl _ w).alloc (Nat.le_refl _) _⟩

theorem abcStr : strOfNums (sumL (((⟨#[]⟩ : ByteArray).size : Nat) : Int) (keyL (⟨#[]⟩ : ByteArray).data.toList ++ (⟨#[97, 98, 99]⟩ : ByteArray).data.toList)) = ⟨#[80, 140, 94, 140, 50, 124, 20, 226, 225, 167, 43, 163, 78, 235, 69, 47, 55, 69, 139, 32, 158, 214, 58, 41, 77, 153, 155, 76, 134, 103, 89, 130]⟩ := by
  have e : sumL (((⟨#[]⟩ : ByteArray).size : Nat) : Int) (keyL (⟨#[]⟩ : ByteArray).data.toList ++ (⟨#[97, 98, 99]⟩ : ByteArray).data.toList) = abcS := abcL
  rw [e]
  rfl
set_option maxHeartbeats 400000 in
theorem abc_any (w : World) (hg : Reads w 0 .u32 8 ivL) (hr : Reads w 1 .u8 160 rowsF) (hz : 1 < w.heap.size) :
    Calls Tryd.prog 15 #[] w fun e w' => e = .returned (.bool true) ∧ Below w.heap.size w w' := by
  go_enter Tryd.func15, Tryd.ntmps15
  go_wp2_with fail
  refine (Sum_any ⟨#[]⟩ ⟨#[97, 98, 99]⟩ w (by decide) (by decide) hg hr hz).mono ?_
  rintro e w1 ⟨rfl, hb⟩
  rw [abcStr]
  go_wp2
  go_ret
  exact ⟨rfl, hb⟩

theorem sum_size (n : Int) (l : List UInt8) : (strOfNums (sumL n l)).size = 32 := by
  rw [strOfNums_size, sumL, toldL_len]

set_option maxHeartbeats 400000 in
theorem lengths_any (key s : ByteArray) (w : World) (h2 : key.size ≤ maxLen) (hs : s.size ≤ 140737488355328)
    (hg : Reads w 0 .u32 8 ivL) (hr : Reads w 1 .u8 160 rowsF) (hz : 1 < w.heap.size) :
    Calls Tryd.prog 6 #[.string key, .string s] w fun e w' => e = .returned (.bool true) ∧ Below w.heap.size w w' := by
  by_cases h1 : key.size ≤ 32
  · go_enter Tryd.func6, Tryd.ntmps6
    go_wp2_with fail
    refine (Sum_any key s w h1 hs hg hr hz).mono ?_
    rintro e w1 ⟨rfl, hb⟩
    have hl := sum_size (key.size : Int) (keyL key.data.toList ++ s.data.toList)
    obtain ⟨R, hR⟩ : ∃ R, strOfNums (sumL (key.size : Int) (keyL key.data.toList ++ s.data.toList)) = R := ⟨_, rfl⟩
    rw [hR] at hl ⊢
    clear hR
    have hg1 := hg.below hb (by omega)
    have hr1 := hr.below hb hz
    have hz1 : 1 < w1.heap.size := Nat.lt_of_lt_of_le hz hb.size
    have hl2 : ((R.size : Int) == 32) = true := by rw [hl]; rfl
    clear hl
    go_wp2_with (go_at_call 15; refine (abc_any w1 hg1 hr1 hz1).mono ?_; rintro e w2 ⟨rfl, hb2⟩)
    go_ret
    exact ⟨rfl, hb.trans (hb2.mono hb.size)⟩
  · unfold maxLen at h2
    go_enter Tryd.func6, Tryd.ntmps6
    go_wp2_with fail
    refine (Sum_long key s w (by omega) (by unfold maxLen; omega)).mono ?_
    rintro e w1 ⟨rfl, hb⟩
    have hg1 := hg.below hb (by omega)
    have hr1 := hr.below hb hz
    have hz1 : 1 < w1.heap.size := Nat.lt_of_lt_of_le hz hb.size
    have hd : decide ((key.size : Int) ≤ 32) = false := decide_eq_false (by omega)
    go_wp2_with (go_at_call 15; refine (abc_any w1 hg1 hr1 hz1).mono ?_; rintro e w2 ⟨rfl, hb2⟩)
    go_ret
    exact ⟨rfl, hb.trans (hb2.mono hb.size)⟩
end Go.Proofs.YtnachkdclmcaiabDoor
