import Derived.Test.YtmkjcfakopbdhaaGreatDoorNsI
namespace Go.Proofs.YtmkjcfakopbdhaaGreatDoor
open Go.RowKit
attribute [local go_sem ↓] Go.wp_at_zero Go.wp_at_succ

theorem isL_pack (l : List (List UInt8)) (h : ∀ t ∈ l, t.length ≤ 1000000000) (hl : l ≠ []) : isL (packL l) = true := by
  have hne : packL l ≠ [] := by
    cases l with
    | nil => exact absurd rfl hl
    | cons a l => rw [pack_cons]; simp [one_ne]
  simp only [isL, decide_eq_true_eq]
  exact ⟨hne, good_pack l h⟩
theorem one_small (t : List UInt8) (h : t.length < 10) : one t = UInt8.ofNat (48 + t.length) :: 58 :: (t ++ [44]) := by
  rw [one, itoa_nat, Lib.decDigits_one h]; rfl
theorem pack_two : packL [[97, 98], []] = [50, 58, 97, 98, 44, 48, 58, 44] := by
  rw [pack_cons, pack_cons, one_small _ (by decide), one_small _ (by decide)]; rfl
theorem pack_three : packL [[48, 58, 44]] = [51, 58, 48, 58, 44, 44] := by
  rw [pack_cons, one_small _ (by decide)]; rfl
theorem pack_none : packL [[]] = [48, 58, 44] := by
  rw [pack_cons, one_small _ (by decide)]; rfl
theorem inner_of (l : List (List UInt8)) (h : ∀ t ∈ l, t.length ≤ 1000000000) : innerL [packL l] = l.filter isL := by
  rw [inner_cons, inner_nil, List.append_nil, items_pack l h, List.map_map]
  congr 1
  exact List.map_id' l
theorem deep_three : deepL [51, 58, 48, 58, 44, 44] = 2 := by
  have h1 : isL (packL [[]]) = true := isL_pack _ (by simp) (by simp)
  have h2 : isL (packL [[48, 58, 44]]) = true := isL_pack _ (by simp) (by simp)
  have hn : isL [] = false := by simp [isL]
  rw [← pack_three, deepL, if_pos h2, levels_step (by simp) (by simpa using h2), inner_of _ (by simp)]
  have : List.filter isL [[48, 58, 44]] = [packL [[]]] := by rw [pack_none]; rw [pack_none] at h1; simp [h1]
  rw [this, levels_step (by simp) (by simpa using h1), inner_of _ (by simp)]
  have : List.filter isL [[]] = [] := by simp [hn]
  rw [this, levels_nil]
theorem texts_two : texts [50, 58, 97, 98, 44, 48, 58, 44] = [[97, 98], []] := by rw [← pack_two, texts_pack _ (by simp)]
theorem err_two : errOf [50, 58, 97, 98, 44, 48, 58, 44] = 0 := by rw [← pack_two, err_pack _ (by simp)]

theorem Sl_built (w : World) (a b : List UInt8) : Sl (w.alloc (.cells #[.string (bs a), .string (bs b)] 9)) (.slice (some ⟨w.heap.size, 0, none⟩) 2 2) [a, b] := by
  refine .inr ⟨w.heap.size, 0, 2, rfl, by simp, fun i t ht => ?_⟩
  unfold World.cell?
  rw [World.alloc_heap_new]
  match i with
  | 0 =>
    simp only [List.getElem?_cons_zero, Option.some.injEq] at ht
    subst ht
    rfl
  | 1 =>
    simp only [List.getElem?_cons_succ, List.getElem?_cons_zero, Option.some.injEq] at ht
    subst ht
    rfl
  | i + 2 => simp at ht

end Go.Proofs.YtmkjcfakopbdhaaGreatDoor
