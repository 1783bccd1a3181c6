import Derived.Test.YtnachkdclmcaiabDoorNsI
namespace Go.Proofs.YtnachkdclmcaiabDoor
open Go.RowKit
attribute [local go_sem ↓] Go.wp_at_zero Go.wp_at_succ

theorem isL_pack (l : List (List UInt8)) (h : ∀ t ∈ l, t.length ≤ 1000000000) (hl : l ≠ []) : isL (packL l) = true := by
  have hne : packL l ≠ [] := by
    cases l with
    | nil => exact absurd rfl hl
    | cons a l => rw [pack_cons]; simp [one_ne]
  simp only [isL, decide_eq_true_eq]
  exact ⟨hne, good_pack l h⟩
theorem one_small (t : List UInt8) (h : t.length < 10) : one t = UInt8.ofNat (48 + t.length) :: 58 :: (t ++ [44]) := by
  rw [one, itoa_nat, Lib.decDigits_one h]; rfl
theorem pack_two : packL [[97, 98], []] = [50, 58, 97, 98, 44, 48, 58, 44] := by
  rw [pack_cons, pack_cons, one_small _ (by decide), one_small _ (by decide)]; rfl
theorem pack_three : packL [[48, 58, 44]] = [51, 58, 48, 58, 44, 44] := by
  rw [pack_cons, one_small _ (by decide)]; rfl
theorem pack_none : packL [[]] = [48, 58, 44] := by
  rw [pack_cons, one_small _ (by decide)]; rfl
theorem inner_of (l : List (List UInt8)) (h : ∀ t ∈ l, t.length ≤ 1000000000) : innerL [packL l] = l.filter isL := by
  rw [inner_cons, inner_nil, List.append_nil, items_pack l h, List.map_map]
  congr 1
  exact List.map_id' l
theorem deep_three : deepL [51, 58, 48, 58, 44, 44] = 2 := by
  have h1 : isL (packL [[]]) = true := isL_pack _ (by simp) (by simp)
  have h2 : isL (packL [[48, 58, 44]]) = true := isL_pack _ (by simp) (by simp)
  have hn : isL [] = false := by simp [isL]
  rw [← pack_three, deepL, if_pos h2, levels_step (by simp) (by simpa using h2), inner_of _ (by simp)]
  have : List.filter isL [[48, 58, 44]] = [packL [[]]] := by rw [pack_none]; rw [pack_none] at h1; simp [h1]
  rw [this, levels_step (by simp) (by simpa using h1), inner_of _ (by simp)]
  have : List.filter isL [[]] = [] := by simp [hn]
  rw [this, levels_nil]
theorem texts_two : texts [50, 58, 97, 98, 44, 48, 58, 44] = [[97, 98], []] := by rw [← pack_two, texts_pack _ (by simp)]
theorem err_two : errOf [50, 58, 97, 98, 44, 48, 58, 44] = 0 := by rw [← pack_two, err_pack _ (by simp)]

theorem Sl_built (w : World) (a b : List UInt8) : Sl (w.alloc (.cells #[.string (bs a), .string (bs b)] 9)) (.slice (some ⟨w.heap.size, 0, none⟩) 2 2) [a, b] := by
  refine .inr ⟨w.heap.size, 0, 2, rfl, by simp, fun i t ht => ?_⟩
  unfold World.cell?
  rw [World.alloc_heap_new]
  match i with
  | 0 =>
    simp only [List.getElem?_cons_zero, Option.some.injEq] at ht
    subst ht
    rfl
  | 1 =>
    simp only [List.getElem?_cons_succ, List.getElem?_cons_zero, Option.some.injEq] at ht
    subst ht
    rfl
  | i + 2 => simp at ht

set_option maxHeartbeats 1000000 in
theorem two_any (w : World) (he : Env w) : Calls Tryd.prog 8 #[] w fun e W' => e = .returned (.bool true) ∧ Below w.heap.size w W' := by
  have hq : ((bs [50, 58, 97, 98, 44, 48, 58, 44]).toList == [50, 58, 97, 98, 44, 48, 58, 44]) = true := by rw [ByteArray.toList_eq]; rfl
  go_enter Tryd.func8, Tryd.ntmps8
  go_wp2_with fail
  refine (Unpack_any [50, 58, 97, 98, 44, 48, 58, 44] w (by decide) he).mono ?_
  rw [texts_two, err_two]
  rintro e w1 ⟨v, rfl, hrow, hb1⟩
  have hS := Sl.of_owns hrow
  obtain ⟨va, vc, rfl⟩ := hS.slice
  have he1 := he.next hb1
  have hb2 := (Below.refl w1.heap.size w1).alloc (Nat.le_refl _) (.cells #[.string (bs [97, 98]), .string (bs [])] 9)
  have hS2 := Sl_built w1 [97, 98] []
  go_wp2_with fail
  refine (Pack_any [[97, 98], []] _ _ (by decide) (by decide) (he1.next hb2) hS2).mono ?_
  rw [pack_two]
  rintro e w2 ⟨rfl, hb3⟩
  have hB2 := (hb1.trans (hb2.mono hb1.size)).trans (hb3.mono (Nat.le_trans hb1.size hb2.size))
  have he2 := he.next hB2
  have hb4 := (Below.refl w2.heap.size w2).alloc (Nat.le_refl _) (.cells #[.string (bs [97, 98]), .string (bs [])] 9)
  have hS3 := Sl_built w2 [97, 98] []
  go_wp2_with fail
  refine (Texts_any [[97, 98], []] [[97, 98], []] _ _ _ (by decide) (by decide) (hS.below (((hb2.trans (hb3.mono hb2.size)).trans (hb4.mono (Nat.le_trans hb2.size hb3.size))).mono (Nat.le_refl _)) (Nat.le_refl _)) hS3).mono ?_
  rintro e w3 ⟨rfl, hb5⟩
  have hB3 := (hB2.trans (hb4.mono hB2.size)).trans (hb5.mono (Nat.le_trans hB2.size hb4.size))
  have hde : decide (([[97, 98], []] : List (List UInt8)) = [[97, 98], []]) = true := by simp
  rw [hde]
  go_wp2_with fail
  refine (Deep_any [51, 58, 48, 58, 44, 44] w3 (by decide) (he.next hB3)).mono ?_
  rw [deep_three]
  rintro e w4 ⟨rfl, hb6⟩
  have hB4 := hB3.trans (hb6.mono hB3.size)
  go_wp2
  go_ret
  exact ⟨rfl, hB4⟩
end Go.Proofs.YtnachkdclmcaiabDoor
