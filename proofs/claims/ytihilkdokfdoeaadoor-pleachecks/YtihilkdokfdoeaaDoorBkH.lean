import Derived.Test.YtihilkdokfdoeaaDoorBkG
import Derived.Test.YtihilkdokfdoeaaDoorBks
import Derived.Test.YtihilkdokfdoeaaDoorPfA
namespace Go.Proofs.YtihilkdokfdoeaaDoor
open Go.RowKit
attribute [local go_sem ↓] Go.wp_at_zero Go.wp_at_succ

/-- The key's block. -/
def keyL (k : List UInt8) : List UInt8 := if k = [] then [] else k ++ List.replicate (64 - k.length) 0

theorem keyL_len (k : List UInt8) (h : k.length ≤ 32) : (keyL k).length ≤ 64 := by
  unfold keyL; split <;> simp <;> omega
theorem repeatL_zero : ∀ c : Nat, Lib.repeatL [0] c = List.replicate c 0
  | 0 => rfl
  | c + 1 => by rw [Lib.repeatL, repeatL_zero c]; rfl
theorem toList_empty (k : ByteArray) (h : k.toList.isEmpty = true) : k.data.toList = [] := by
  have e : k.toList = k.data.toList := ByteArray.toList_eq k
  rw [e] at h
  simpa using h
theorem toList_some (k : ByteArray) (h : k.toList.isEmpty = false) : k.data.toList ≠ [] := by
  have e : k.toList = k.data.toList := ByteArray.toList_eq k
  rw [e] at h
  intro hh
  rw [hh] at h
  simp at h
theorem zeros_size (c : Nat) : (⟨(List.replicate c (0 : UInt8)).toArray⟩ : ByteArray).size = c := by
  show (List.replicate c (0 : UInt8)).toArray.size = c
  rw [List.size_toArray, List.length_replicate]

set_option maxHeartbeats 400000 in
theorem keyBlock_any (k : ByteArray) (w : World) (h1 : k.size ≤ 32) :
    Calls Tryd.prog 62 #[.string k] w fun e w' => ∃ kb : ByteArray, e = .returned (.string kb) ∧ kb.data.toList = keyL k.data.toList ∧ Below w.heap.size w w' := by
  cases h0 : k.toList.isEmpty
  · go_enter Tryd.func62, Tryd.ntmps62
    go_wp2_with fail
    rw [show (64 - (k.size : Int)) = ((64 - k.size : Nat) : Int) from by omega]
    refine (Tryd.strings_Repeat ⟨#[0]⟩ (64 - k.size) w (by omega) (by have e : (⟨#[0]⟩ : ByteArray).size = 1 := rfl; rw [e]; omega)).mono ?_
    rintro e w1 ⟨rfl, hb⟩
    have e2 : (Lib.repeatL (⟨#[0]⟩ : ByteArray).data.toList (64 - k.size)) = List.replicate (64 - k.size) 0 := repeatL_zero _
    rw [e2]
    clear e2
    obtain ⟨z, hz⟩ : ∃ z : ByteArray, (⟨(List.replicate (64 - k.size) (0 : UInt8)).toArray⟩ : ByteArray) = z := ⟨_, rfl⟩
    rw [hz]
    have hzs : z.size = 64 - k.size := by rw [← hz]; exact zeros_size _
    have HZ : Hid ((⟨(List.replicate (64 - k.size) (0 : UInt8)).toArray⟩ : ByteArray) = z) := hz
    have HE : Hid (k.toList.isEmpty = false) := h0
    clear hz
    go_wp2
    go_ret
    refine ⟨_, rfl, ?_, hb⟩
    rw [keyL, if_neg (toList_some k HE.out), ByteArray.data_append, Array.toList_append, ← HZ.out, size_list]
  · have HE : Hid (k.toList.isEmpty = true) := h0
    go_enter Tryd.func62, Tryd.ntmps62
    go_wp2
    go_ret
    refine ⟨_, rfl, ?_, Below.refl _ _⟩
    rw [toList_empty k HE.out]
    rfl

set_option maxHeartbeats 400000 in
theorem Parts_long (key : ByteArray) (a : Option Addr) (len cap : Nat) (w : World) (h1 : 32 < key.size) (h2 : key.size ≤ maxLen) :
    Calls Tryd.prog 51 #[.string key, .slice a len cap] w fun e w' => e = .returned (.tuple #[.string ⟨#[]⟩, .int .i64 2]) ∧ w' = w := by
  unfold maxLen at h2
  go_enter Tryd.func51, Tryd.ntmps51
  go_wp2
  go_ret2
  exact ⟨rfl, rfl⟩

set_option maxHeartbeats 400000 in
theorem Parts_any (key jn : ByteArray) (a : Option Addr) (len cap : Nat) (w : World) (h1 : key.size ≤ 32) (hj : jn.size ≤ 140737488355328)
    (hJ : ∀ w1, Below w.heap.size w w1 → Calls Tryd.prog 63 #[.slice a len cap, .string ⟨#[]⟩] w1 fun e w2 => e = .returned (.string jn) ∧ Below w1.heap.size w1 w2)
    (hg : Reads w 0 .u32 8 ivL) (hr : Reads w 1 .u8 160 rowsF) (hz : 1 < w.heap.size) :
    Calls Tryd.prog 51 #[.string key, .slice a len cap] w fun e w' => e = .returned (.tuple #[.string (strOfNums (sumL key.size (keyL key.data.toList ++ jn.data.toList))), .int .i64 0]) ∧ Below w.heap.size w w' := by
  have HJ : Hid (∀ w1, Below w.heap.size w w1 → Calls Tryd.prog 63 #[.slice a len cap, .string ⟨#[]⟩] w1 fun e w2 => e = .returned (.string jn) ∧ Below w1.heap.size w1 w2) := hJ
  clear hJ
  go_enter Tryd.func51, Tryd.ntmps51
  go_wp2_with fail
  refine (keyBlock_any key w h1).mono ?_
  rintro e w1 ⟨kb, rfl, hkb, hb1⟩
  have hks : kb.size ≤ 64 := by rw [← size_list, hkb]; exact keyL_len _ (by rw [size_list]; exact h1)
  have HK : Hid (kb.data.toList = keyL key.data.toList) := hkb
  clear hkb
  go_wp2_with fail
  refine (HJ.out w1 hb1).mono ?_
  rintro e w2 ⟨rfl, hb2⟩
  have hb := hb1.trans (hb2.mono hb1.size)
  have hg2 := hg.below hb (by omega)
  have hr2 := hr.below hb hz
  have hz2 : 1 < w2.heap.size := Nat.lt_of_lt_of_le hz hb.size
  go_wp2_with fail
  refine (sum_any (key.size : Int) (kb ++ jn) w2 (by omega) (by omega) (by rw [ByteArray.size_append]; unfold maxLen; omega) hg2 hr2 hz2).mono ?_
  rintro e w3 ⟨rfl, hb3⟩
  have e1 : (kb ++ jn).data.toList = keyL key.data.toList ++ jn.data.toList := by rw [ByteArray.data_append, Array.toList_append, HK.out]
  rw [e1]
  go_wp2
  go_ret2
  exact ⟨rfl, hb.trans (hb3.mono hb.size)⟩
end Go.Proofs.YtihilkdokfdoeaaDoor
