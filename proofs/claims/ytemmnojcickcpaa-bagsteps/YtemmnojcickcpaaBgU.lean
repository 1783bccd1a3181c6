/- The law's step of two bags, walked: a pick, a copy, and no step. -/
import Derived.Test.YtemmnojcickcpaaBgR
namespace Go.Proofs.Ytemmnojcickcpaa
open Go.RowKit
attribute [local go_sem ↓] Go.wp_at_zero Go.wp_at_succ

theorem Mv2.free {B B2 k : Nat} {v v' v2 v2' : Value} {w w' : World} (hm : Mv2 B v v' B2 v2 v2' w w') (hk : k < w.heap.size) (h1 : k ≠ B) (h2 : k ≠ B2) (h3 : v.ownBlock ≠ some k) (h4 : v2.ownBlock ≠ some k) {o : Obj} (ho : w.heap[k]? = some o) : w'.heap[k]? = some o := (hm.block k hk h1 h2 h3 h4).trans ho
theorem does_other {w0 : World} {base B B2 : Nat} {v v2 : Value} {l : List It} {w : World} (h : Tw w0 base B v B2 v2 l w) (what i a0 a1 a2 : Int) (a3 : List UInt8) (hw : what < 0 ∨ 3 < what) :
    Calls Try.prog 11 #[.pointer (some ⟨B, 0, none⟩), .pointer (some ⟨B2, 0, none⟩), .agg #[.int .i64 what, .int .i64 i, .int .i64 a0, .int .i64 a1, .int .i64 a2, .string (bs a3)]] w fun e W' => e = .returned (.bool true) ∧ ∃ v' v2' l', Tw w0 base B v' B2 v2' l' W' ∧ l'.length ≤ l.length + 1 ∧ Mv2 B v v' B2 v2 v2' w W' := by
  have hb0 : Below w.heap.size w (w.alloc (.cells #[.int .i64 what, .int .i64 i, .int .i64 a0, .int .i64 a1, .int .i64 a2, .string (bs a3)] 33)) := (Below.refl _ w).alloc (Nat.le_refl _) _
  have h0 := h.next hb0
  have q0 : (what == 0) = false := by simp; omega
  have q1 : (what == 1) = false := by simp; omega
  have q2 : (what == 2) = false := by simp; omega
  have q3 : (what == 3) = false := by simp; omega
  clear hw
  go_enter Try.func11, Try.ntmps11
  go_wp2
  go_ret
  exact ⟨rfl, v, v2, l, h0, by omega, Mv2.refl hb0⟩
set_option maxRecDepth 20000 in
set_option maxHeartbeats 4000000 in
theorem does_copy {w0 : World} {base B B2 : Nat} {v v2 : Value} {l : List It} {w : World} (h : Tw w0 base B v B2 v2 l w) (hl : l.length < 4096) (i a0 a1 a2 : Int) (a3 : List UInt8) :
    Calls Try.prog 11 #[.pointer (some ⟨B, 0, none⟩), .pointer (some ⟨B2, 0, none⟩), .agg #[.int .i64 3, .int .i64 i, .int .i64 a0, .int .i64 a1, .int .i64 a2, .string (bs a3)]] w fun e W' => e = .returned (.bool true) ∧ ∃ v' v2' l', Tw w0 base B v' B2 v2' l' W' ∧ l'.length ≤ l.length + 1 ∧ Mv2 B v v' B2 v2 v2' w W' := by
  have hb0 : Below w.heap.size w (w.alloc (.cells #[.int .i64 3, .int .i64 i, .int .i64 a0, .int .i64 a1, .int .i64 a2, .string (bs a3)] 33)) := (Below.refl _ w).alloc (Nat.le_refl _) _
  have h0 := h.next hb0
  have hSB : w.heap.size ≠ B := by have := h.bag.lt; omega
  have hSo : v.ownBlock ≠ some w.heap.size := fun e => by have := (h.bag.own.lt _ e).2; omega
  have hSB2 : w.heap.size ≠ B2 := by have := h.rbag.lt; omega
  have hSo2 : v2.ownBlock ≠ some w.heap.size := fun e => by have := (h.rbag.own.lt _ e).2; omega
  go_enter Try.func11, Try.ntmps11
  go_upto_region 10 with fail
  have y0 := heap_alloc_new w (.cells #[.int .i64 3, .int .i64 i, .int .i64 a0, .int .i64 a1, .int .i64 a2, .string (bs a3)] 33)
  obtain ⟨W0, hW0⟩ : ∃ W, w.alloc (.cells #[.int .i64 3, .int .i64 i, .int .i64 a0, .int .i64 a1, .int .i64 a2, .string (bs a3)] 33) = W := ⟨_, rfl⟩
  rw [hW0] at hb0 h0 y0 ⊢
  obtain ⟨S, hS⟩ : ∃ S, w.heap.size = S := ⟨_, rfl⟩
  rw [hS] at y0 hSB hSo hSB2 hSo2 ⊢
  have z1 := cellB y0 1 (.int .i64 i) rfl
  have hSl : S < W0.heap.size := (Array.getElem?_eq_some_iff.1 y0).1
  clear hW0 hS
  by_cases hi : i < 0 ∨ (l.length : Int) ≤ i
  · have hR := rSee_no h0.rbag i hi
    have hC : ∀ W, BagAt 70 31 base W B v l 0 → Calls Try.prog 21 #[.pointer (some ⟨B, 0, none⟩), .int .i64 i] W fun e W' => e = .returned (.int .i64 6) ∧ Below W.heap.size W W' := fun W hW => Copy_no hW i hi
    clear hi
    go_wp2_with (first
      | (go_at_call 13; refine hR.mono ?_; rintro e w1 ⟨rfl, hb1⟩; have h2 := (h0.next hb1).next ((Below.refl w1.heap.size w1).alloc (Nat.le_refl _) (.cells #[.int .i64 0, .int .i64 0, .int .i64 0, .string (bs [])] 38)); have y1 := (hb1.block S hSl).trans y0; have p1 := cellB y1 1 (.int .i64 i) rfl; have hSn : S < w1.heap.size := (Array.getElem?_eq_some_iff.1 y1).1)
      | (go_at_call 21; refine (hC _ h2.bag).mono ?_; rintro e w3 ⟨rfl, hb3⟩))
    go_ret
    have hbb := hb1.alloc hb1.size (.cells #[.int .i64 0, .int .i64 0, .int .i64 0, .string (bs [])] 38)
    have hbz := hbb.trans (hb3.mono hbb.size)
    exact ⟨rfl, v, v2, l, h0.next hbz, by omega, Mv2.pre hb0 (Mv2.refl hbz)⟩
  · obtain ⟨k, rfl⟩ := Int.eq_ofNat_of_zero_le (show 0 ≤ i by omega)
    obtain ⟨⟨b0, b1, b2, b3⟩, ha⟩ : ∃ a, l[k]? = some a := ⟨_, List.getElem?_eq_getElem (by omega)⟩
    have hp : putE (b0, b1, b2, b3) l.length = 0 := putE_zero (h.ok _ (List.mem_of_getElem? ha)) hl
    have hR := rSee_ok h0.rbag k b0 b1 b2 b3 ha
    have hP : ∀ W, BagAt 29 38 base W B2 v2 l 0 → Calls Try.prog 30 #[.pointer (some ⟨B2, 0, none⟩), .agg #[.int .i64 b0, .int .i64 b1, .int .i64 b2, .string (bs b3)]] W fun e W' => e = .returned (.int .i64 0) ∧ ∃ v', BagAt 29 38 base W' B2 v' (l ++ [(b0, b1, b2, b3)]) 0 ∧ Moved B2 v2 v' W W' := fun W hW => rPut_ok hW b0 b1 b2 b3 hp
    have hC : ∀ W, BagAt 70 31 base W B v l 0 → Calls Try.prog 21 #[.pointer (some ⟨B, 0, none⟩), .int .i64 k] W fun e W' => e = .returned (.int .i64 0) ∧ ∃ v', BagAt 70 31 base W' B v' (l ++ [(b0, b1, b2, b3)]) 0 ∧ Moved B v v' W W' := fun W hW => Copy_ok hW k b0 b1 b2 b3 ha hl
    have HO : Hid (∀ x ∈ l ++ [(b0, b1, b2, b3)], putE x 0 = 0) := ok_snoc h.ok (putE_zero hp (by decide))
    clear hi ha hp
    go_wp2_with fail
    refine hR.mono ?_
    rintro e w1 ⟨rfl, hb1⟩
    have y1 := (hb1.block S hSl).trans y0
    have h1 := h0.next hb1
    have hS1 : S < w1.heap.size := (Array.getElem?_eq_some_iff.1 y1).1
    clear hR y0 hSl z1
    go_upto_region 12 with fail
    have hb2 : Below w1.heap.size w1 (w1.alloc (.cells #[.int .i64 b0, .int .i64 b1, .int .i64 b2, .string (bs b3)] 38)) := (Below.refl _ _).alloc (Nat.le_refl _) _
    have x2 := heap_alloc_new w1 (.cells #[.int .i64 b0, .int .i64 b1, .int .i64 b2, .string (bs b3)] 38)
    have h2 := h1.next hb2
    have y2 := (hb2.block S hS1).trans y1
    obtain ⟨W2, hW2⟩ : ∃ W, w1.alloc (.cells #[.int .i64 b0, .int .i64 b1, .int .i64 b2, .string (bs b3)] 38) = W := ⟨_, rfl⟩
    rw [hW2] at hb2 x2 h2 y2 ⊢
    have q0 := cellB x2 0 (.int .i64 b0) rfl
    have q1 := cellB x2 1 (.int .i64 b1) rfl
    have q2 := cellB x2 2 (.int .i64 b2) rfl
    have q3 := cellB x2 3 (.string (bs b3)) rfl
    clear hW2 y1 h1
    go_wp2_with fail
    refine (hP _ h2.rbag).mono ?_
    rintro e w3 ⟨rfl, v3, hr3, hm3⟩
    have y3 := hm3.far (Array.getElem?_eq_some_iff.1 y2).1 hSB2 hSo2 y2
    have p1 := cellB y3 1 (.int .i64 k) rfl
    have hb3 := h2.bag.other hm3 h2.ap.symm
    go_wp2_with (go_at_call 21; refine (hC _ hb3).mono ?_; rintro e w4 ⟨rfl, v4, hb4, hm4⟩)
    go_ret
    exact ⟨rfl, v4, v3, _, h2.both' hm3 hr3 hm4 hb4 HO.out, by simp, Mv2.pre hb0 (Mv2.pre (hb1.trans (hb2.mono hb1.size)) (Mv2.of' hm3 hm4))⟩
end Go.Proofs.Ytemmnojcickcpaa
