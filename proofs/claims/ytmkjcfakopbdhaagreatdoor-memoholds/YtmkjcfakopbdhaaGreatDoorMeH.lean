/- The conversion, and the small case: walked. -/
import Derived.Test.YtmkjcfakopbdhaaGreatDoorMeG
import Derived.Deep.DeepCutAuto
namespace Go.Proofs.YtmkjcfakopbdhaaGreatDoor
open Go.RowKit
attribute [local go_sem ↓] Go.wp_at_zero Go.wp_at_succ

set_option maxRecDepth 20000 in
set_option maxHeartbeats 2000000 in
theorem conv_any (k g n v m : Int) (t tg : List UInt8) (w : World) :
    Calls Tryz.prog 11 #[.agg #[.int .i64 k, .int .i64 g, .int .i64 n, .int .i64 v, .int .i64 m, .string (bs t), .string (bs tg)]] w fun e W' => e = .returned (.agg #[.int .i64 k, .int .i64 g, .int .i64 n, .int .i64 v, .int .i64 m, .string (bs t), .string (bs tg)]) ∧ Below w.heap.size w W' := by
  have hb0 : Below w.heap.size w (w.alloc (.cells #[.int .i64 k, .int .i64 g, .int .i64 n, .int .i64 v, .int .i64 m, .string (bs t), .string (bs tg)] 25)) := (Below.refl _ w).alloc (Nat.le_refl _) _
  have hb1 : Below w.heap.size w ((w.alloc (.cells #[.int .i64 k, .int .i64 g, .int .i64 n, .int .i64 v, .int .i64 m, .string (bs t), .string (bs tg)] 25)).alloc (.cells #[.int .i64 0, .int .i64 0, .int .i64 0, .int .i64 0, .int .i64 0, .string ⟨#[]⟩, .string ⟨#[]⟩] 38)) := hb0.alloc hb0.size _
  have r1 : ((w.alloc (.cells #[.int .i64 k, .int .i64 g, .int .i64 n, .int .i64 v, .int .i64 m, .string (bs t), .string (bs tg)] 25)).alloc (.cells #[.int .i64 0, .int .i64 0, .int .i64 0, .int .i64 0, .int .i64 0, .string ⟨#[]⟩, .string ⟨#[]⟩] 38)).heap[w.heap.size + 1]? = some (.cells #[.int .i64 0, .int .i64 0, .int .i64 0, .int .i64 0, .int .i64 0, .string ⟨#[]⟩, .string ⟨#[]⟩] 38) := by
    have := heap_alloc_new (w.alloc (.cells #[.int .i64 k, .int .i64 g, .int .i64 n, .int .i64 v, .int .i64 m, .string (bs t), .string (bs tg)] 25)) (.cells #[.int .i64 0, .int .i64 0, .int .i64 0, .int .i64 0, .int .i64 0, .string ⟨#[]⟩, .string ⟨#[]⟩] 38)
    simpa using this
  have hbb : Below (w.heap.size + 1) (w.alloc (.cells #[.int .i64 k, .int .i64 g, .int .i64 n, .int .i64 v, .int .i64 m, .string (bs t), .string (bs tg)] 25)) ((w.alloc (.cells #[.int .i64 k, .int .i64 g, .int .i64 n, .int .i64 v, .int .i64 m, .string (bs t), .string (bs tg)] 25)).alloc (.cells #[.int .i64 0, .int .i64 0, .int .i64 0, .int .i64 0, .int .i64 0, .string ⟨#[]⟩, .string ⟨#[]⟩] 38)) := (Below.refl _ _).alloc (by simp) _
  have p1 : ((w.alloc (.cells #[.int .i64 k, .int .i64 g, .int .i64 n, .int .i64 v, .int .i64 m, .string (bs t), .string (bs tg)] 25)).alloc (.cells #[.int .i64 0, .int .i64 0, .int .i64 0, .int .i64 0, .int .i64 0, .string ⟨#[]⟩, .string ⟨#[]⟩] 38)).heap[w.heap.size]? = some (.cells #[.int .i64 k, .int .i64 g, .int .i64 n, .int .i64 v, .int .i64 m, .string (bs t), .string (bs tg)] 25) := (hbb.block w.heap.size (by simp)).trans (heap_alloc_new _ _)
  clear hb0 hbb
  go_enter Tryz.func11, Tryz.ntmps11
  go_upto_region 1 with fail
  obtain ⟨W, hW⟩ : ∃ W, (w.alloc (.cells #[.int .i64 k, .int .i64 g, .int .i64 n, .int .i64 v, .int .i64 m, .string (bs t), .string (bs tg)] 25)).alloc (.cells #[.int .i64 0, .int .i64 0, .int .i64 0, .int .i64 0, .int .i64 0, .string ⟨#[]⟩, .string ⟨#[]⟩] 38) = W := ⟨_, rfl⟩
  rw [hW] at hb1 r1 p1 ⊢
  clear hW
  have f0 := frozenB r1 0
  have f1 := frozenB r1 1
  have f2 := frozenB r1 2
  have f3 := frozenB r1 3
  have f4 := frozenB r1 4
  have f5 := frozenB r1 5
  have f6 := frozenB r1 6
  have s0 := cellB r1 0 (.int .i64 0) rfl
  have s1 := cellB r1 1 (.int .i64 0) rfl
  have s2 := cellB r1 2 (.int .i64 0) rfl
  have s3 := cellB r1 3 (.int .i64 0) rfl
  have s4 := cellB r1 4 (.int .i64 0) rfl
  have s5 := cellB r1 5 (.string ⟨#[]⟩) rfl
  have s6 := cellB r1 6 (.string ⟨#[]⟩) rfl
  have x0 := cellB p1 0 (.int .i64 k) rfl
  have x1 := cellB p1 1 (.int .i64 g) rfl
  have x2 := cellB p1 2 (.int .i64 n) rfl
  have x3 := cellB p1 3 (.int .i64 v) rfl
  have x4 := cellB p1 4 (.int .i64 m) rfl
  have x5 := cellB p1 5 (.string (bs t)) rfl
  have x6 := cellB p1 6 (.string (bs tg)) rfl
  have hr7 := set7 r1 (.int .i64 k) (.int .i64 g) (.int .i64 n) (.int .i64 v) (.int .i64 m) (.string (bs t)) (.string (bs tg))
  have z0 := cellB hr7 0 (.int .i64 k) rfl
  have z1 := cellB hr7 1 (.int .i64 g) rfl
  have z2 := cellB hr7 2 (.int .i64 n) rfl
  have z3 := cellB hr7 3 (.int .i64 v) rfl
  have z4 := cellB hr7 4 (.int .i64 m) rfl
  have z5 := cellB hr7 5 (.string (bs t)) rfl
  have z6 := cellB hr7 6 (.string (bs tg)) rfl
  have hBz := (((((((hb1).setCell (p := ⟨w.heap.size + 1, 0, none⟩) (Nat.le_succ _) (.int .i64 k)).setCell (p := ⟨w.heap.size + 1, 1, none⟩) (Nat.le_succ _) (.int .i64 g)).setCell (p := ⟨w.heap.size + 1, 2, none⟩) (Nat.le_succ _) (.int .i64 n)).setCell (p := ⟨w.heap.size + 1, 3, none⟩) (Nat.le_succ _) (.int .i64 v)).setCell (p := ⟨w.heap.size + 1, 4, none⟩) (Nat.le_succ _) (.int .i64 m)).setCell (p := ⟨w.heap.size + 1, 5, none⟩) (Nat.le_succ _) (.string (bs t))).setCell (p := ⟨w.heap.size + 1, 6, none⟩) (Nat.le_succ _) (.string (bs tg))
  clear hr7 r1 p1
  go_wp2
  exact bodyPost_ret (v := .agg #[.int .i64 k, .int .i64 g, .int .i64 n, .int .i64 v, .int .i64 m, .string (bs t), .string (bs tg)]) (by simp [results, Tryz.f11, go_sem, z0, z1, z2, z3, z4, z5, z6]) rfl ⟨rfl, hBz⟩

def wantsL : List UInt8 := [50, 58, 49, 50, 44, 57, 58, 50, 58, 45, 49, 44, 49, 58, 48, 44, 44, 49, 58, 48, 44, 49, 58, 51, 44, 48, 58, 44, 48, 58, 44]
theorem wants_c : cE 12 (-1) 0 0 3 ([] : List UInt8).length ([] : List UInt8).length = 0 := by decide
theorem wants_l : meL 12 (-1) 0 0 3 [] [] = wantsL := by decide +kernel
theorem wants_v : meV 12 (-1) 0 0 3 [] [] = wantsL := by rw [meV, if_pos wants_c, wants_l]
theorem wants_d : deL wantsL = some (12, -1, 0, 0, 3, [], []) := by rw [← wants_l]; exact de_me wants_c

set_option maxRecDepth 20000 in
set_option maxHeartbeats 2000000 in
theorem wants_any (w : World) (he : EnvM w) : Calls Tryz.prog 4 #[] w fun e W' => e = .returned (.bool true) ∧ Below w.heap.size w W' := by
  have hE := Encode_any 12 (-1) 0 0 3 [] [] w he
  rw [wants_c, wants_v] at hE
  have hD := fun W (h : EnvM W) => Decode_any wantsL W (by decide) h
  rw [deV, deE, wants_d] at hD
  simp only [Option.getD_some, Option.isSome_some, if_true] at hD
  obtain ⟨L, hL⟩ : ∃ L, wantsL = L := ⟨_, rfl⟩
  have hlit : Value.string { data := #[50, 58, 49, 50, 44, 57, 58, 50, 58, 45, 49, 44, 49, 58, 48, 44, 44, 49, 58, 48, 44, 49, 58, 51, 44, 48, 58, 44, 48, 58, 44] } = .string (bs L) := by rw [← hL]; rfl
  have hss : ((bs L).toList == (bs L).toList) = true := by simp
  rw [hL] at hE hD
  clear hL
  go_enter Tryz.func4, Tryz.ntmps4
  rw [hlit]
  clear hlit
  go_wp2_with fail
  refine hE.mono ?_
  clear hE
  rintro e w1 ⟨rfl, hb1⟩
  go_wp2_with fail
  refine (hD w1 (he.next hb1)).mono ?_
  clear hD
  rintro e w2 ⟨rfl, hb2⟩
  have hb3 : Below w2.heap.size w2 (w2.alloc (.cells #[.int .i64 12, .int .i64 (-1), .int .i64 0, .int .i64 0, .int .i64 3, .string (bs []), .string (bs [])] 25)) := (Below.refl _ _).alloc (Nat.le_refl _) _
  have hB3 := (hb1.trans (hb2.mono hb1.size)).trans (hb3.mono (hb1.trans (hb2.mono hb1.size)).size)
  go_wp2
  go_ret
  exact ⟨rfl, hB3⟩
end Go.Proofs.YtmkjcfakopbdhaaGreatDoor
