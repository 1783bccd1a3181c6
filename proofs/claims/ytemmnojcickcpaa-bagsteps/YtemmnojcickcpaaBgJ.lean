/- The law's small case of bags, walked; and the law BagNil. -/
import Derived.Test.YtemmnojcickcpaaBgI
namespace Go.Proofs.Ytemmnojcickcpaa
open Go.RowKit
attribute [local go_sem ↓] Go.wp_at_zero Go.wp_at_succ

theorem Put_ok {base : Nat} {w : World} {B : Nat} {v : Value} {l : List It} {d : Int} (h : BagAt 70 31 base w B v l d) (hd : 0 ≤ d ∧ d < 1099511627776) (a0 a1 a2 : Int) (a3 : List UInt8) (h0 : putE (a0, a1, a2, a3) l.length = 0) :
    Calls Try.prog 19 #[.pointer (some ⟨B, 0, none⟩), .agg #[.int .i64 a0, .int .i64 a1, .int .i64 a2, .string (bs a3)]] w fun e W' => e = .returned (.int .i64 0) ∧ ∃ v', BagAt 70 31 base W' B v' (l ++ [(a0, a1, a2, a3)]) d ∧ Moved B v v' w W' := by
  have h := Put_any h hd a0 a1 a2 a3
  have e1 : putL (a0, a1, a2, a3) l = l ++ [(a0, a1, a2, a3)] := if_pos h0
  have e2 : putD (a0, a1, a2, a3) l d = d := if_neg (by rw [h0]; decide)
  rw [e1, e2, h0] at h
  exact h
/-- Below a heap's size, by an object above it. -/
theorem BagAt.bel {T E : TypeId} {b base : Nat} {w w' : World} {B : Nat} {v v' : Value} {l : List It} {d : Int} (h : BagAt T E base w B v l d) (hm : Moved B v v' w w') (hb : b ≤ base) : Below b w w' :=
  hm.below (Nat.le_trans hb h.base) (fun k hk => Nat.le_trans hb (h.own.lt k hk).1) (Nat.le_trans hb (Nat.le_trans h.base (Nat.le_of_lt h.lt)))
theorem Moved.far {B k : Nat} {v v' : Value} {w w' : World} (hm : Moved B v v' w w') (hk : k < w.heap.size) (h1 : k ≠ B) (h2 : v.ownBlock ≠ some k) {o : Obj} (ho : w.heap[k]? = some o) : w'.heap[k]? = some o := (hm.block k hk h1 h2).trans ho

set_option maxRecDepth 20000 in
set_option maxHeartbeats 4000000 in
theorem three_any (w : World) : Calls Try.prog 10 #[] w fun e W' => e = .returned (.bool true) ∧ Below w.heap.size w W' := by
  have hN := New_any w
  go_enter Try.func10, Try.ntmps10
  go_wp2_with fail
  refine hN.mono ?_
  rintro e w1 ⟨rfl, rfl⟩
  have h0 := BagAt.new w w.heap.size (Nat.le_refl _)
  have hB0 : Below w.heap.size w (w.alloc (.cells #[.slice none 0 0, .int .i64 0] 70)) := (Below.refl _ w).alloc (Nat.le_refl _) _
  obtain ⟨W1, hW1⟩ : ∃ W, w.alloc (.cells #[.slice none 0 0, .int .i64 0] 70) = W := ⟨_, rfl⟩
  rw [hW1] at h0 hB0 ⊢
  obtain ⟨B, hB⟩ : ∃ B, w.heap.size = B := ⟨_, rfl⟩
  have HB : Hid (w.heap.size = B) := hB
  rw [hB] at h0 hB0
  rw [show (⟨w.heap.size, 0, none⟩ : Addr) = ⟨B, 0, none⟩ by rw [hB]]
  clear hW1 hN hB
  have hP0 := Put_ok h0 (by decide) 0 0 0 [97] (by decide)
  go_wp2_with fail
  refine hP0.mono ?_
  rintro e w2 ⟨rfl, v2, h2, hm2⟩
  have hB2 := hB0.trans (h0.bel hm2 (Nat.le_refl _))
  have hP2 := Put_ok h2 (by decide) 0 0 0 [98] (by decide)
  clear hP0 h0 hm2 hB0
  go_wp2_with fail
  refine hP2.mono ?_
  rintro e w3 ⟨rfl, v3, h3, hm3⟩
  have hB3 := hB2.trans (h2.bel hm3 (Nat.le_refl _))
  have hP3 := Put_ok h3 (by decide) 0 0 0 [99] (by decide)
  clear hP2 h2 hm3 hB2
  go_wp2_with fail
  refine hP3.mono ?_
  rintro e w4 ⟨rfl, v4, h4, hm4⟩
  have hB4 := hB3.trans (h3.bel hm4 (Nat.le_refl _))
  have hK : Calls Try.prog 20 #[.pointer (some ⟨B, 0, none⟩), .int .i64 1] _ _ := Pick_ok h4 (by decide) 1 0 0 0 [98] (by decide)
  clear hP3 h3 hm4 hB3
  go_wp2_with fail
  refine hK.mono ?_
  rintro e w5 ⟨rfl, v5, h5, hm5⟩
  have hB5 := hB4.trans (h4.bel hm5 (Nat.le_refl _))
  clear hK h4 hm5 hB4
  go_upto_region 6 with fail
  have hba : Below w5.heap.size w5 (w5.alloc (.cells #[.int .i64 0, .int .i64 0, .int .i64 0, .string (bs [98])] 31)) := (Below.refl _ _).alloc (Nat.le_refl _) _
  have x6 := heap_alloc_new w5 (.cells #[.int .i64 0, .int .i64 0, .int .i64 0, .string (bs [98])] 31)
  obtain ⟨W6, hW6⟩ : ∃ W, w5.alloc (.cells #[.int .i64 0, .int .i64 0, .int .i64 0, .string (bs [98])] 31) = W := ⟨_, rfl⟩
  rw [hW6] at hba x6 ⊢
  have h6 := h5.next hba
  have hB6 := hB5.trans (hba.mono (Nat.le_trans h5.base (Nat.le_of_lt h5.lt)))
  have hX1 : w5.heap.size ≠ B := by have := h5.lt; omega
  have hX2 : v5.ownBlock ≠ some w5.heap.size := fun e => by have := (h5.own.lt _ e).2; omega
  obtain ⟨X, hX⟩ : ∃ X, w5.heap.size = X := ⟨_, rfl⟩
  rw [hX] at x6 hX1 hX2 ⊢
  have hX6 : X < W6.heap.size := (Array.getElem?_eq_some_iff.1 x6).1
  clear hW6 hba h5 hB5 hX
  have hC : Calls Try.prog 21 #[.pointer (some ⟨B, 0, none⟩), .int .i64 0] _ _ := Copy_ok h6 0 0 0 0 [97] (by decide) (by decide)
  go_wp2_with fail
  refine hC.mono ?_
  rintro e w7 ⟨rfl, v7, h7, hm7⟩
  have hB7 := hB6.trans (h6.bel hm7 (Nat.le_refl _))
  have x7 := hm7.far hX6 hX1 hX2 x6
  have hS : Calls Try.prog 12 #[.pointer (some ⟨B, 0, none⟩), .int .i64 2] _ _ := See_ok h7 2 0 0 0 [97] (by decide)
  clear hC h6 x6 hB6 hm7
  go_wp2_with fail
  refine hS.mono ?_
  rintro e w8 ⟨rfl, hb8⟩
  have h8 := h7.next hb8
  have hB8 := hB7.trans (hb8.mono (Nat.le_trans h7.base (Nat.le_of_lt h7.lt)))
  have x8 := (hb8.block X (Array.getElem?_eq_some_iff.1 x7).1).trans x7
  clear hS h7 x7 hB7
  go_upto_region 8 with fail
  have hba : Below w8.heap.size w8 (w8.alloc (.cells #[.int .i64 0, .int .i64 0, .int .i64 0, .string (bs [97])] 31)) := (Below.refl _ _).alloc (Nat.le_refl _) _
  have y9 := heap_alloc_new w8 (.cells #[.int .i64 0, .int .i64 0, .int .i64 0, .string (bs [97])] 31)
  have x9 := (hba.block X (Array.getElem?_eq_some_iff.1 x8).1).trans x8
  have h9 := h8.next hba
  have hB9 := hB8.trans (hba.mono (Nat.le_trans h8.base (Nat.le_of_lt h8.lt)))
  obtain ⟨W9, hW9⟩ : ∃ W, w8.alloc (.cells #[.int .i64 0, .int .i64 0, .int .i64 0, .string (bs [97])] 31) = W := ⟨_, rfl⟩
  rw [hW9] at x9 y9 h9 hB9 ⊢
  have p3 := cellB x9 3 (.string (bs [98])) rfl
  have q3 := cellB y9 3 (.string (bs [97])) rfl
  have hL : Calls Try.prog 16 #[.pointer (some ⟨B, 0, none⟩)] _ fun e W' => e = .returned (.int .i64 3) ∧ W' = W9 := Len_any h9
  clear hW9 x9 y9 h9 hba h8 x8 hB8 hb8 hX6 hX1 hX2
  have e1 : bs [98] = ⟨#[98]⟩ := rfl
  have e2 : bs [97] = ⟨#[97]⟩ := rfl
  rw [e1] at p3
  rw [e2] at q3
  clear e1 e2
  go_wp2_with (go_at_call 16; refine hL.mono ?_; rintro e w10 ⟨rfl, rfl⟩)
  go_ret
  exact ⟨rfl, by rw [HB.out]; exact hB9⟩
end Go.Proofs.Ytemmnojcickcpaa
