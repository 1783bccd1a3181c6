import Derived.Test.YtoniohmceaflnaaDoorCtF
import Derived.BigCall
namespace Go.Proofs.YtoniohmceaflnaaDoor
open Go.RowKit
attribute [local go_sem ↓] Go.wp_at_zero Go.wp_at_succ

theorem cell_other {w : World} {B : Nat} {p : Addr} (h : p.block ≠ B) (j : Nat) (u : Value) : (w.setCell ⟨B, j, none⟩ u).cell? p = w.cell? p := World.cell?_of_block (w := w) (Below.heap_setCell _ _ _ _ h)
def tagB : List UInt8 := [48, 49, 50, 51, 52, 53, 54, 55, 56, 57, 97, 98, 99, 100, 101, 102]
theorem tag_any (w : World) : Calls Tryd.prog 44 #[] w fun e w' => e = .returned (.string (bs tagB)) ∧ w' = w := by
  go_enter Tryd.func44, Tryd.ntmps44
  go_wp2
  go_ret
  exact ⟨rfl, rfl⟩
theorem Count_any (x : ByteArray) (g : Int) (a : Option Addr) (n c : Nat) (w : World) : Calls Tryd.prog 33 #[.agg #[.string x, .int .i64 g, .slice a n c]] w fun e w' => e = .returned (.int .i64 n) ∧ Below w.heap.size w w' := by
  go_enter Tryd.func33, Tryd.ntmps33
  go_wp2
  go_ret
  exact ⟨rfl, (Below.refl _ w).alloc (Nat.le_refl _) _⟩
theorem itoa_dig (n : Nat) (h : n < 10) : Lib.itoa (n : Int) = [UInt8.ofNat (48 + n)] := by rw [itoa_nat, Lib.decDigits_one h]
theorem itoa_16 : Lib.itoa (16 : Nat) = [49, 54] := by
  rw [itoa_nat, dec_big (by decide), Lib.decDigits_one (by decide)]; rfl
theorem enc_one : encV [97] 2 [(1, tagB)] = [49, 58, 97, 44, 49, 58, 50, 44, 49, 58, 49, 44, 49, 54, 58] ++ tagB ++ [44] := by
  have h : faultL 2 [(1, tagB)] = 0 := by decide
  have e2 : Lib.itoa 2 = [50] := itoa_dig 2 (by decide)
  have e1 : Lib.itoa 1 = [49] := itoa_dig 1 (by decide)
  rw [encV, if_pos h, encL, tagL]
  simp only [List.flatMap_cons, List.flatMap_nil, List.append_nil, List.cons_append, List.nil_append, e1, e2]
  rw [pack_cons, pack_cons, pack_cons, pack_cons, one_small _ (by decide), one_small _ (by decide), one_small _ (by decide), one]
  have e16 : Lib.itoa ((tagB.length : Nat) : Int) = [49, 54] := itoa_16
  rw [e16]
  rfl
theorem add_one1 : addE [97] 2 [(1, tagB)] 2 1 [97] tagB = 42 := by decide
theorem add_one0 : addE [97] 2 [(1, tagB)] 2 0 [97] tagB = 0 := by decide
theorem ins_one0 : insT 0 tagB [(1, tagB)] = [(0, tagB), (1, tagB)] := by decide

set_option maxRecDepth 20000 in
set_option maxHeartbeats 2000000 in
theorem one4_any (w : World) (he : EnvP w) : Calls Tryd.prog 26 #[] w fun e w' => e = .returned (.bool true) ∧ Below w.heap.size w w' := by
  have hb0 : Below w.heap.size w (w.alloc (.cells #[.int .i64 1, .string (bs tagB)] 94)) := (Below.refl _ w).alloc (Nat.le_refl _) _
  have hb1 := hb0.alloc hb0.size (.cells #[.string (bs [97]), .int .i64 2, .slice (some ⟨w.heap.size, 0, none⟩) 1 1] 58)
  have hbT : Below (w.heap.size + 1) (w.alloc (.cells #[.int .i64 1, .string (bs tagB)] 94)) ((w.alloc (.cells #[.int .i64 1, .string (bs tagB)] 94)).alloc (.cells #[.string (bs [97]), .int .i64 2, .slice (some ⟨w.heap.size, 0, none⟩) 1 1] 58)) := (Below.refl _ _).alloc (by simp) _
  have hT1 : Tp ((w.alloc (.cells #[.int .i64 1, .string (bs tagB)] 94)).alloc (.cells #[.string (bs [97]), .int .i64 2, .slice (some ⟨w.heap.size, 0, none⟩) 1 1] 58)) (.slice (some ⟨w.heap.size, 0, none⟩) 1 1) [(1, tagB)] := (Tp_new w 1 tagB 94).below hbT (by simp)
  have c0 := cell_new (w.alloc (.cells #[.int .i64 1, .string (bs tagB)] 94)) #[.string (bs [97]), .int .i64 2, .slice (some ⟨w.heap.size, 0, none⟩) 1 1] 58 0 (.string (bs [97])) rfl (w.heap.size + 1) (by simp)
  have c1 := cell_new (w.alloc (.cells #[.int .i64 1, .string (bs tagB)] 94)) #[.string (bs [97]), .int .i64 2, .slice (some ⟨w.heap.size, 0, none⟩) 1 1] 58 1 (.int .i64 2) rfl (w.heap.size + 1) (by simp)
  have c2 := cell_new (w.alloc (.cells #[.int .i64 1, .string (bs tagB)] 94)) #[.string (bs [97]), .int .i64 2, .slice (some ⟨w.heap.size, 0, none⟩) 1 1] 58 2 (.slice (some ⟨w.heap.size, 0, none⟩) 1 1) rfl (w.heap.size + 1) (by simp)
  have hz : w.heap.size + 2 ≤ ((w.alloc (.cells #[.int .i64 1, .string (bs tagB)] 94)).alloc (.cells #[.string (bs [97]), .int .i64 2, .slice (some ⟨w.heap.size, 0, none⟩) 1 1] 58)).heap.size := by simp
  have hE := Encode_any [97] 2 [(1, tagB)] _ ((w.alloc (.cells #[.int .i64 1, .string (bs tagB)] 94)).alloc (.cells #[.string (bs [97]), .int .i64 2, .slice (some ⟨w.heap.size, 0, none⟩) 1 1] 58)) (by decide) (by decide) (he.next hb1) hT1.tl
  rw [enc_one, show faultL 2 [(1, tagB)] = 0 from by decide] at hE
  go_enter Tryd.func26, Tryd.ntmps26
  go_wp2_with (first
    | (go_at_call 44; refine (tag_any _).mono ?_; rintro e w' ⟨rfl, h⟩; obtain rfl := h.symm; clear h))
  refine hE.mono ?_
  clear hE
  rintro e w2 ⟨rfl, hb2⟩
  have hB2 := hb1.trans (hb2.mono hb1.size)
  have k0 := (hb2.cell (p := ⟨w.heap.size + 1, 0, none⟩) (by show w.heap.size + 1 < _; omega)).trans c0
  have k1 := (hb2.cell (p := ⟨w.heap.size + 1, 1, none⟩) (by show w.heap.size + 1 < _; omega)).trans c1
  have k2 := (hb2.cell (p := ⟨w.heap.size + 1, 2, none⟩) (by show w.heap.size + 1 < _; omega)).trans c2
  have hT2 := hT1.below hb2 (Nat.le_refl _)
  have hz2 := Nat.le_trans hz hb2.size
  have he2 := he.next hB2
  have hA : ∀ W, Below w2.heap.size w2 W → Calls Tryd.prog 45 #[.agg #[.string (bs [97]), .int .i64 2, .slice (some ⟨w.heap.size, 0, none⟩) 1 1], .agg #[.int .i64 2, .int .i64 1, .string (bs [97]), .string (bs tagB)]] W fun e W' => (∃ ua uc, e = .returned (.tuple #[.agg #[.string (bs []), .int .i64 0, .slice ua 0 uc], .int .i64 42])) ∧ Below W.heap.size W W' := by
    intro W hW
    refine (Add_any [97] 2 [(1, tagB)] _ 2 1 [97] tagB W (by decide) (he2.next hW) (hT2.below hW (Nat.le_refl _))).mono ?_
    rw [add_one1]
    rintro e w3 ⟨X, G, T, u, rfl, h, hTp, hb3⟩
    rcases h with ⟨h, _⟩ | ⟨_, rfl, rfl, rfl⟩
    · cases h
    obtain ⟨ua, uc, rfl⟩ := hTp.tl.slice
    exact ⟨⟨ua, uc, rfl⟩, hb3⟩
  have hA2 : ∀ W, Below w2.heap.size w2 W → Calls Tryd.prog 45 #[.agg #[.string (bs [97]), .int .i64 2, .slice (some ⟨w.heap.size, 0, none⟩) 1 1], .agg #[.int .i64 2, .int .i64 0, .string (bs [97]), .string (bs tagB)]] W fun e W' => (∃ b o uc, e = .returned (.tuple #[.agg #[.string (bs [97]), .int .i64 2, .slice (some ⟨b, o, none⟩) 2 uc], .int .i64 0]) ∧ W'.cell? ⟨b, o, none⟩ = some (.int .i64 0) ∧ b < W'.heap.size ∧ W.heap.size ≤ b) ∧ Below W.heap.size W W' := by
    intro W hW
    refine (Add_any [97] 2 [(1, tagB)] _ 2 0 [97] tagB W (by decide) (he2.next hW) (hT2.below hW (Nat.le_refl _))).mono ?_
    rw [add_one0]
    rintro e w3 ⟨X, G, T, u, rfl, h, hTp, hb3⟩
    rcases h with ⟨_, rfl, rfl, rfl, hfr⟩ | ⟨h, _⟩
    · rw [ins_one0] at hTp
      obtain ⟨ua, uc, rfl⟩ := hTp.tl.slice
      obtain ⟨b, o, rfl, hlt⟩ := hTp.tl.some (by decide)
      exact ⟨⟨b, o, uc, rfl, (hTp.tl.cells (k := 0) rfl).1, hlt, hfr b rfl⟩, hb3⟩
    · exact absurd rfl h
  clear c0 c1 c2 hT1 hz hb1 hb0 hbT hb2 hT2
  have e0 := World.new_ne w2 _ k0
  have e1 := World.new_ne w2 _ k1
  have e2 := World.new_ne w2 _ k2
  go_wp2_with fail
  go_region_held3 (fun w' => w'.cell? ⟨w.heap.size + 1, 0, none⟩ = some (.string (bs [97])) ∧ w'.cell? ⟨w.heap.size + 1, 1, none⟩ = some (.int .i64 2) ∧ w'.cell? ⟨w.heap.size + 1, 2, none⟩ = some (.slice (some ⟨w.heap.size, 0, none⟩) 1 1)) (go_keep)
    (first
      | (go_at_call 44; refine (tag_any _).mono ?_; rintro e w' ⟨rfl, h⟩; obtain rfl := h.symm; clear h)
      | (go_at_call 45; refine (hA w2.drew (below_drew (Below.refl _ _))).mono ?_; rintro e w3 ⟨⟨ua, uc, rfl⟩, hb3⟩; have hB3 : Below w2.heap.size w2 w3 := (below_drew (Below.refl w2.heap.size w2)).trans hb3; have m0 := (hB3.cell (p := ⟨w.heap.size + 1, 0, none⟩) (by show w.heap.size + 1 < w2.heap.size; omega)).trans k0; have m1 := (hB3.cell (p := ⟨w.heap.size + 1, 1, none⟩) (by show w.heap.size + 1 < w2.heap.size; omega)).trans k1; have m2 := (hB3.cell (p := ⟨w.heap.size + 1, 2, none⟩) (by show w.heap.size + 1 < w2.heap.size; omega)).trans k2)
      | (go_at_call 45; refine (hA (w2.drew.alloc (.cells #[.string ⟨#[]⟩, .int .i64 0, .slice none 0 0] 58)) ((below_drew (Below.refl _ _)).alloc (Nat.le_refl _) _)).mono ?_; rintro e w3 ⟨⟨ua, uc, rfl⟩, hb3⟩; have hB3 : Below w2.heap.size w2 w3 := ((below_drew (Below.refl w2.heap.size w2)).alloc (Nat.le_refl _) (.cells #[.string ⟨#[]⟩, .int .i64 0, .slice none 0 0] 58)).trans (hb3.mono (by show w2.heap.size ≤ (w2.drew.alloc (.cells #[.string ⟨#[]⟩, .int .i64 0, .slice none 0 0] 58)).heap.size; simp)); have m0 := (hB3.cell (p := ⟨w.heap.size + 1, 0, none⟩) (by show w.heap.size + 1 < w2.heap.size; omega)).trans k0; have m1 := (hB3.cell (p := ⟨w.heap.size + 1, 1, none⟩) (by show w.heap.size + 1 < w2.heap.size; omega)).trans k1; have m2 := (hB3.cell (p := ⟨w.heap.size + 1, 2, none⟩) (by show w.heap.size + 1 < w2.heap.size; omega)).trans k2; have rz : w3.heap[w2.heap.size]? = some (.cells #[.string ⟨#[]⟩, .int .i64 0, .slice none 0 0] 58) := (hb3.block w2.heap.size (by show w2.heap.size < (w2.drew.alloc (.cells #[.string ⟨#[]⟩, .int .i64 0, .slice none 0 0] 58)).heap.size; simp)).trans (heap_alloc_new w2.drew (.cells #[.string ⟨#[]⟩, .int .i64 0, .slice none 0 0] 58)); have f1 := frozen_block rz 0; have f2 := frozen_block rz 1; have f3 := frozen_block rz 2; have s1 := cell_block rz 0 _ rfl; have s2 := cell_block rz 1 _ rfl; have s3 := cell_block rz 2 _ rfl))
  all_goals go_wp2_with fail
  all_goals
    have hb4a := hB3.alloc hB3.size (.cells #[.string (bs []), .int .i64 0, .slice ua 0 uc] 58)
    have hb4b : Below w2.heap.size w2 (((w3.setCell ⟨w2.heap.size, 0, none⟩ (.string (bs []))).setCell ⟨w2.heap.size, 1, none⟩ (.int .i64 0)).setCell ⟨w2.heap.size, 2, none⟩ (.slice ua 0 uc)) := ((hB3.setCell (p := ⟨w2.heap.size, 0, none⟩) (Nat.le_refl _) _).setCell (p := ⟨w2.heap.size, 1, none⟩) (Nat.le_refl _) _).setCell (p := ⟨w2.heap.size, 2, none⟩) (Nat.le_refl _) _
    obtain ⟨WA, hWA⟩ : ∃ W, (w3.alloc (.cells #[.string (bs []), .int .i64 0, .slice ua 0 uc] 58)) = W := ⟨_, rfl⟩
    obtain ⟨WB, hWB⟩ : ∃ W, (((w3.setCell ⟨w2.heap.size, 0, none⟩ (.string (bs []))).setCell ⟨w2.heap.size, 1, none⟩ (.int .i64 0)).setCell ⟨w2.heap.size, 2, none⟩ (.slice ua 0 uc)) = W := ⟨_, rfl⟩
    rw [hWA] at hb4a
    rw [hWB] at hb4b
    first
      | (rw [hWA]; clear hWA hWB hb4b; obtain ⟨W4, h4⟩ : ∃ W, W = WA := ⟨_, rfl⟩; subst h4)
      | (rw [hWB]; clear hWA hWB hb4a; obtain ⟨W4, h4⟩ : ∃ W, W = WB := ⟨_, rfl⟩; subst h4)
    have hb4 : Below w2.heap.size w2 W4 := by first | exact hb4a | exact hb4b
    clear e0 e1 e2 m0 m1 m2 hB3 hA
    have n0 := (hb4.cell (p := ⟨w.heap.size + 1, 0, none⟩) (by show w.heap.size + 1 < w2.heap.size; omega)).trans k0
    have n1 := (hb4.cell (p := ⟨w.heap.size + 1, 1, none⟩) (by show w.heap.size + 1 < w2.heap.size; omega)).trans k1
    have n2 := (hb4.cell (p := ⟨w.heap.size + 1, 2, none⟩) (by show w.heap.size + 1 < w2.heap.size; omega)).trans k2
    have e0 := World.new_ne W4 _ n0
    have e1 := World.new_ne W4 _ n1
    have e2 := World.new_ne W4 _ n2
    have hz4 := hb4.size
    go_region_held3 (fun w' => w'.cell? ⟨w.heap.size + 1, 0, none⟩ = some (.string (bs [97])) ∧ w'.cell? ⟨w.heap.size + 1, 1, none⟩ = some (.int .i64 2) ∧ w'.cell? ⟨w.heap.size + 1, 2, none⟩ = some (.slice (some ⟨w.heap.size, 0, none⟩) 1 1)) (go_keep)
      (first
        | (go_at_call 44; refine (tag_any _).mono ?_; rintro e w' ⟨rfl, h⟩; obtain rfl := h.symm; clear h)
        | (go_at_call 45; refine (hA2 W4.drew (below_drew hb4)).mono ?_; rintro e w5 ⟨⟨ub, uo, ud, rfl, hcu, hlu, hfu⟩, hb5⟩; have hB5 : Below w2.heap.size w2 w5 := (below_drew hb4).trans (hb5.mono hz4); have p0 := (hB5.cell (p := ⟨w.heap.size + 1, 0, none⟩) (by show w.heap.size + 1 < w2.heap.size; omega)).trans k0; have p1 := (hB5.cell (p := ⟨w.heap.size + 1, 1, none⟩) (by show w.heap.size + 1 < w2.heap.size; omega)).trans k1; have p2 := (hB5.cell (p := ⟨w.heap.size + 1, 2, none⟩) (by show w.heap.size + 1 < w2.heap.size; omega)).trans k2)
        | (go_at_call 45; refine (hA2 (W4.drew.alloc (.cells #[.string ⟨#[]⟩, .int .i64 0, .slice none 0 0] 58)) ((below_drew hb4).alloc hz4 _)).mono ?_; rintro e w5 ⟨⟨ub, uo, ud, rfl, hcu, hlu, hfu⟩, hb5⟩; have hB5 : Below w2.heap.size w2 w5 := ((below_drew hb4).alloc hz4 (.cells #[.string ⟨#[]⟩, .int .i64 0, .slice none 0 0] 58)).trans (hb5.mono (Nat.le_trans hz4 (by show W4.heap.size ≤ (W4.drew.alloc (.cells #[.string ⟨#[]⟩, .int .i64 0, .slice none 0 0] 58)).heap.size; simp))); have p0 := (hB5.cell (p := ⟨w.heap.size + 1, 0, none⟩) (by show w.heap.size + 1 < w2.heap.size; omega)).trans k0; have p1 := (hB5.cell (p := ⟨w.heap.size + 1, 1, none⟩) (by show w.heap.size + 1 < w2.heap.size; omega)).trans k1; have p2 := (hB5.cell (p := ⟨w.heap.size + 1, 2, none⟩) (by show w.heap.size + 1 < w2.heap.size; omega)).trans k2; have rz : w5.heap[W4.heap.size]? = some (.cells #[.string ⟨#[]⟩, .int .i64 0, .slice none 0 0] 58) := (hb5.block W4.heap.size (by show W4.heap.size < (W4.drew.alloc (.cells #[.string ⟨#[]⟩, .int .i64 0, .slice none 0 0] 58)).heap.size; simp)).trans (heap_alloc_new W4.drew (.cells #[.string ⟨#[]⟩, .int .i64 0, .slice none 0 0] 58)); have f1 := frozen_block rz 0; have f2 := frozen_block rz 1; have f3 := frozen_block rz 2; have s1 := cell_block rz 0 _ rfl; have s2 := cell_block rz 1 _ rfl; have s3 := cell_block rz 2 _ rfl))
  all_goals
    have hq : (bs tagB).toList = tagB := ByteArray.toList_eq _
    first
      | (have g0 := cell_new w5 #[.string (bs [97]), .int .i64 2, .slice (some ⟨ub, uo, none⟩) 2 ud] 58 0 (.string (bs [97])) rfl _ rfl
         have g1 := cell_new w5 #[.string (bs [97]), .int .i64 2, .slice (some ⟨ub, uo, none⟩) 2 ud] 58 1 (.int .i64 2) rfl _ rfl
         have g2 := cell_new w5 #[.string (bs [97]), .int .i64 2, .slice (some ⟨ub, uo, none⟩) 2 ud] 58 2 (.slice (some ⟨ub, uo, none⟩) 2 ud) rfl _ rfl
         have b6 := hB5.alloc hB5.size (.cells #[.string (bs [97]), .int .i64 2, .slice (some ⟨ub, uo, none⟩) 2 ud] 58)
         have u6 := (((Below.refl w5.heap.size w5).alloc (Nat.le_refl _) (.cells #[.string (bs [97]), .int .i64 2, .slice (some ⟨ub, uo, none⟩) 2 ud] 58)).cell (p := ⟨ub, uo, none⟩) hlu).trans hcu
         have l6 : w5.heap.size < (w5.alloc (.cells #[.string (bs [97]), .int .i64 2, .slice (some ⟨ub, uo, none⟩) 2 ud] 58)).heap.size := by simp
         have v6 : ub < (w5.alloc (.cells #[.string (bs [97]), .int .i64 2, .slice (some ⟨ub, uo, none⟩) 2 ud] 58)).heap.size := Nat.lt_trans hlu l6
         obtain ⟨W6, hW6⟩ : ∃ W, (w5.alloc (.cells #[.string (bs [97]), .int .i64 2, .slice (some ⟨ub, uo, none⟩) 2 ud] 58)) = W := ⟨_, rfl⟩
         rw [hW6] at g0 g1 g2 b6 u6 l6 v6
         rw [hW6]
         clear hW6 hcu hB5 hb5 hlu
         obtain ⟨DB, hDB⟩ : ∃ n, w5.heap.size = n := ⟨_, rfl⟩
         rw [hDB] at g0 g1 g2 l6 ⊢)
      | (have hr := set3 rz (.string (bs [97])) (.int .i64 2) (.slice (some ⟨ub, uo, none⟩) 2 ud)
         have g0 := cell_block hr 0 (.string (bs [97])) rfl
         have g1 := cell_block hr 1 (.int .i64 2) rfl
         have g2 := cell_block hr 2 (.slice (some ⟨ub, uo, none⟩) 2 ud) rfl
         have b6 : Below w2.heap.size w2 (((w5.setCell ⟨W4.heap.size, 0, none⟩ (.string (bs [97]))).setCell ⟨W4.heap.size, 1, none⟩ (.int .i64 2)).setCell ⟨W4.heap.size, 2, none⟩ (.slice (some ⟨ub, uo, none⟩) 2 ud)) := ((hB5.setCell (p := ⟨W4.heap.size, 0, none⟩) hz4 _).setCell (p := ⟨W4.heap.size, 1, none⟩) hz4 _).setCell (p := ⟨W4.heap.size, 2, none⟩) hz4 _
         have hne : ub ≠ W4.heap.size := (by intro h; have h2 : (W4.drew.alloc (.cells #[.string ⟨#[]⟩, .int .i64 0, .slice none 0 0] 58)).heap.size ≤ ub := hfu; have h3 : W4.heap.size < (W4.drew.alloc (.cells #[.string ⟨#[]⟩, .int .i64 0, .slice none 0 0] 58)).heap.size := (by simp); omega)
         have u6 : (((w5.setCell ⟨W4.heap.size, 0, none⟩ (.string (bs [97]))).setCell ⟨W4.heap.size, 1, none⟩ (.int .i64 2)).setCell ⟨W4.heap.size, 2, none⟩ (.slice (some ⟨ub, uo, none⟩) 2 ud)).cell? ⟨ub, uo, none⟩ = some (.int .i64 0) := (((cell_other hne 2 _).trans (cell_other hne 1 _)).trans (cell_other hne 0 _)).trans hcu
         have l6 : W4.heap.size < (((w5.setCell ⟨W4.heap.size, 0, none⟩ (.string (bs [97]))).setCell ⟨W4.heap.size, 1, none⟩ (.int .i64 2)).setCell ⟨W4.heap.size, 2, none⟩ (.slice (some ⟨ub, uo, none⟩) 2 ud)).heap.size := (Array.getElem?_eq_some_iff.1 hr).1
         have v6 : ub < (((w5.setCell ⟨W4.heap.size, 0, none⟩ (.string (bs [97]))).setCell ⟨W4.heap.size, 1, none⟩ (.int .i64 2)).setCell ⟨W4.heap.size, 2, none⟩ (.slice (some ⟨ub, uo, none⟩) 2 ud)).heap.size := (by simpa [World.setCell] using hlu)
         obtain ⟨W6, hW6⟩ : ∃ W, (((w5.setCell ⟨W4.heap.size, 0, none⟩ (.string (bs [97]))).setCell ⟨W4.heap.size, 1, none⟩ (.int .i64 2)).setCell ⟨W4.heap.size, 2, none⟩ (.slice (some ⟨ub, uo, none⟩) 2 ud)) = W := ⟨_, rfl⟩
         rw [hW6] at g0 g1 g2 b6 u6 l6 v6
         rw [hW6]
         clear hW6 hcu hB5 hb5 hlu hr hne
         obtain ⟨DB, hDB⟩ : ∃ n, W4.heap.size = n := ⟨_, rfl⟩
         rw [hDB] at g0 g1 g2 l6 ⊢)
  all_goals go_wp2_with (first
    | (go_at_call 44; refine (tag_any _).mono ?_; rintro e w' ⟨rfl, h⟩; obtain rfl := h.symm; clear h)
    | (go_at_call 33; refine (Count_any _ _ _ _ _ W6).mono ?_; rintro e w7 ⟨rfl, hb7⟩; have g27 := (hb7.cell (p := ⟨DB, 2, none⟩) l6).trans g2; have u7 := (hb7.cell (p := ⟨ub, uo, none⟩) v6).trans u6; have b7 := b6.trans (hb7.mono b6.size)))
  all_goals (go_ret; exact ⟨rfl, hB2.trans (b7.mono hB2.size)⟩)
end Go.Proofs.YtoniohmceaflnaaDoor
