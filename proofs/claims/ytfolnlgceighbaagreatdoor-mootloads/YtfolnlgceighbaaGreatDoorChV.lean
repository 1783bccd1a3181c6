/- Chains: three, walked. -/
import Derived.Test.YtfolnlgceighbaaGreatDoorChU
namespace Go.Proofs.YtfolnlgceighbaaGreatDoor
open Go.RowKit
attribute [local go_sem ↓] Go.wp_at_zero Go.wp_at_succ

theorem Do_any (k g s : Int) (B : Nat) (base : Nat) (v : Value) (l : List Rc) (w : World) (h : ChAt base w B v l) (hl : l.length ≤ 1000) :
    Calls Tryz.prog 27 #[.pointer (some ⟨B, 0, none⟩), .agg #[.int .i64 k, .int .i64 g, .int .i64 s]] w fun e W' => e = .returned (.int .i64 (doE (cls l) k g s)) ∧ DoPost base B v l k g s w W' := by
  by_cases h4 : l.length < 40
  · exact Do_some k g s B base v l w h h4
  · exact Do_full k g s B base v l w h (by omega) hl
theorem Kb.below {B : Nat} {v : Value} {w0 w W' : World} {l : List Rc} {base : Nat} (hb : Below base w0 w) (hw : base ≤ w.heap.size) (h : ChAt base w B v l) (hk : Kb B v w W') : Below base w0 W' :=
  ⟨hk.os.trans hb.os, hk.tape.trans hb.tape, hk.output.trans hb.output, Nat.le_trans hb.size hk.size, fun j hj => (hk.block j (by omega) (by have := h.low; omega) (fun e => by have := (h.own.lt j e).1; omega)).trans (hb.block j hj)⟩
/-- Do at a chain whose configurations are known. -/
theorem Do_at {w0 w : World} {base B : Nat} {v : Value} {l : List Rc} {cs : List (List Nat × List Nat)} (hb : Below base w0 w) (hw : base ≤ w.heap.size) (h : ChAt base w B v l) (hc : cls l = cs) (k g s : Int) (hl : cs.length ≤ 1000) :
    Calls Tryz.prog 27 #[.pointer (some ⟨B, 0, none⟩), .agg #[.int .i64 k, .int .i64 g, .int .i64 s]] w fun e W' => e = .returned (.int .i64 (doE cs k g s)) ∧ ∃ v' l', ChAt base W' B v' l' ∧ cls l' = doC cs k g s ∧ Below base w0 W' ∧ base ≤ W'.heap.size := by
  subst hc
  rw [cls_len] at hl
  refine (Do_any k g s B base v l w h hl).mono ?_
  rintro e W' ⟨rfl, v', l', h1, h2, h3, _⟩
  exact ⟨rfl, v', l', h2, h1, h3.below hb hw h, Nat.le_trans hw h3.size⟩
theorem four_eq {a b c d p q r t : Nat} (h : [p, q, r, t] = [a, b, c, d]) : p = a ∧ q = b ∧ r = c ∧ t = d := by simpa using h
theorem do_e0 : doE [] 1 1 0 = 0 := by decide +kernel
theorem do_c0 : doC [] 1 1 0 = [([1], [1, 1, 1, 1])] := by decide +kernel
theorem do_e1 : doE [([1], [1, 1, 1, 1])] 1 2 0 = 0 := by decide +kernel
theorem do_c1 : doC [([1], [1, 1, 1, 1])] 1 2 0 = [([1], [1, 1, 1, 1]), ([1, 2], [2, 2, 1, 1])] := by decide +kernel
theorem do_e2 : doE [([1], [1, 1, 1, 1]), ([1, 2], [2, 2, 1, 1])] 1 3 0 = 0 := by decide +kernel
theorem do_c2 : doC [([1], [1, 1, 1, 1]), ([1, 2], [2, 2, 1, 1])] 1 3 0 = [([1], [1, 1, 1, 1]), ([1, 2], [2, 2, 1, 1]), ([1, 2, 3], [2, 2, 3, 1])] := by decide +kernel
theorem do_e3 : doE [([1], [1, 1, 1, 1]), ([1, 2], [2, 2, 1, 1]), ([1, 2, 3], [2, 2, 3, 1])] 2 1 0 = 0 := by decide +kernel
theorem do_c3 : doC [([1], [1, 1, 1, 1]), ([1, 2], [2, 2, 1, 1]), ([1, 2, 3], [2, 2, 3, 1])] 2 1 0 = [([1], [1, 1, 1, 1]), ([1, 2], [2, 2, 1, 1]), ([1, 2, 3], [2, 2, 3, 1]), ([2, 3], [2, 2, 3, 3])] := by decide +kernel
theorem fld25 (n : Int) (v : Value) (a b c d : Int) (W : World) : (Instr.field 25 (.agg (cf n v a b c d)) 2).run Tryz.prog W = .ok (.agg #[.int .i64 a, .int .i64 b, .int .i64 c, .int .i64 d]) W := by kernel_rfl
set_option maxRecDepth 20000 in
set_option maxHeartbeats 1000000 in
theorem eq23 (a b c d p q r t : Int) (w : World) : (Op.equalIn 10000 23 (.agg #[.int .i64 a, .int .i64 b, .int .i64 c, .int .i64 d]) (.agg #[.int .i64 p, .int .i64 q, .int .i64 r, .int .i64 t])).run Tryz.prog w = .ok (decide ([a, b, c, d] = [p, q, r, t])) w := by
  have hu5 := Tryz.underlying3
  have ha5 := Tryz.isAgg3
  have hz5 := Tryz.sizeOf3
  rw [show (10000 : Nat) = 9999 + 1 from rfl, Op.equalIn]
  simp only [Sem.run_bind, run_underlying Tryz.underlying23, Result.andThen_ok]
  simp only [Std.Legacy.Range.forIn_eq_forIn_range', Std.Legacy.Range.size, Nat.sub_zero, Nat.add_sub_cancel, Nat.div_one, List.range'_succ, List.range'_zero, List.forIn_cons, List.forIn_nil]
  go_simp
  by_cases h0 : a = p
  case neg => simp [h0]
  subst h0
  by_cases h1 : b = q
  case neg => simp [h1]
  subst h1
  by_cases h2 : c = r
  case neg => simp [h2]
  subst h2
  by_cases h3 : d = t
  case neg => simp [h3]
  subst h3
  simp
set_option maxRecDepth 20000 in
set_option maxHeartbeats 1000000 in
theorem three_any (w : World) : Calls Tryz.prog 6 #[] w fun e W' => e = .returned (.bool true) ∧ Below w.heap.size w W' := by
  have hN := New_any w
  go_enter Tryz.func6, Tryz.ntmps6
  go_upto_region 2 with (first
    | (go_at_call 26; refine hN.mono ?_; rintro e w1 ⟨rfl, hC0, hb1⟩; have HC0 : Hid (ChAt w.heap.size w1 w.heap.size (.slice none 0 0) []) := hC0; have HB0 : Hid (Below w.heap.size w w1) := hb1; clear hC0 hb1))
  clear hN
  have hD0 := Do_at HB0.out (HB0.out.size) HC0.out (show cls [] = [] from rfl) 1 1 0 (by decide)
  rw [do_e0, do_c0] at hD0
  go_upto_region 3 with (first
    | (go_at_call 27; refine hD0.mono ?_; rintro e w2 ⟨rfl, v1, l1, x1, x2, x3, x4⟩; have HC1 : Hid (ChAt w.heap.size w2 w.heap.size v1 l1) := x1; have HE1 : Hid (cls l1 = [([1], [1, 1, 1, 1])]) := x2; have HB1 : Hid (Below w.heap.size w w2) := x3; have HS1 : Hid (w.heap.size ≤ w2.heap.size) := x4; clear x1 x2 x3 x4))
  clear hD0
  have hD1 := Do_at HB1.out (HS1.out) HC1.out (show cls l1 = [([1], [1, 1, 1, 1])] from HE1.out) 1 2 0 (by decide)
  rw [do_e1, do_c1] at hD1
  go_upto_region 4 with (first
    | (go_at_call 27; refine hD1.mono ?_; rintro e w3 ⟨rfl, v2, l2, x1, x2, x3, x4⟩; have HC2 : Hid (ChAt w.heap.size w3 w.heap.size v2 l2) := x1; have HE2 : Hid (cls l2 = [([1], [1, 1, 1, 1]), ([1, 2], [2, 2, 1, 1])]) := x2; have HB2 : Hid (Below w.heap.size w w3) := x3; have HS2 : Hid (w.heap.size ≤ w3.heap.size) := x4; clear x1 x2 x3 x4))
  clear hD1
  have hD2 := Do_at HB2.out (HS2.out) HC2.out (show cls l2 = [([1], [1, 1, 1, 1]), ([1, 2], [2, 2, 1, 1])] from HE2.out) 1 3 0 (by decide)
  rw [do_e2, do_c2] at hD2
  go_upto_region 5 with (first
    | (go_at_call 27; refine hD2.mono ?_; rintro e w4 ⟨rfl, v3, l3, x1, x2, x3, x4⟩; have HC3 : Hid (ChAt w.heap.size w4 w.heap.size v3 l3) := x1; have HE3 : Hid (cls l3 = [([1], [1, 1, 1, 1]), ([1, 2], [2, 2, 1, 1]), ([1, 2, 3], [2, 2, 3, 1])]) := x2; have HB3 : Hid (Below w.heap.size w w4) := x3; have HS3 : Hid (w.heap.size ≤ w4.heap.size) := x4; clear x1 x2 x3 x4))
  clear hD2
  have hD3 := Do_at HB3.out (HS3.out) HC3.out (show cls l3 = [([1], [1, 1, 1, 1]), ([1, 2], [2, 2, 1, 1]), ([1, 2, 3], [2, 2, 3, 1])] from HE3.out) 2 1 0 (by decide)
  rw [do_e3, do_c3] at hD3
  go_upto_region 6 with (first
    | (go_at_call 27; refine hD3.mono ?_; rintro e w5 ⟨rfl, v4, l4, x1, x2, x3, x4⟩; have HC4 : Hid (ChAt w.heap.size w5 w.heap.size v4 l4) := x1; have HE4 : Hid (cls l4 = [([1], [1, 1, 1, 1]), ([1, 2], [2, 2, 1, 1]), ([1, 2, 3], [2, 2, 3, 1]), ([2, 3], [2, 2, 3, 3])]) := x2; have HB4 : Hid (Below w.heap.size w w5) := x3; have HS4 : Hid (w.heap.size ≤ w5.heap.size) := x4; clear x1 x2 x3 x4))
  clear hD3
  have hln : l4.length = 4 := by rw [← cls_len, HE4.out]; rfl
  have HC : Hid (cfgAt l4 4 = ([2, 3], [2, 2, 3, 3])) := by show _ = _; rw [cfgAt_cls, HE4.out]; rfl
  have hG : Calls Tryz.prog 28 #[.pointer (some ⟨w.heap.size, 0, none⟩), .int .i64 2] w5 fun e W' => ∃ ua n uc, e = .returned (.tuple #[.agg (cf 2 (.slice ua n uc) 2 2 1 1), .int .i64 0]) ∧ Below w5.heap.size w5 W' := by
    refine (Get_ok 2 w.heap.size w.heap.size v4 l4 w5 HC4.out (by omega) (by omega)).mono ?_
    rintro e W' ⟨x, rfl, u, a, b, c, d, j1, rfl, j3, j4, j5⟩
    rw [cfgAt_cls, HE4.out] at j1
    obtain ⟨rfl, rfl, rfl, rfl⟩ := four_eq j1.symm
    obtain ⟨ua, uc, rfl⟩ := j3.slice
    exact ⟨_, _, _, rfl, j5⟩
  go_upto_region 7 with (first
    | (go_at_call 28; refine hG.mono ?_; rintro e w6 ⟨ua, n, uc, rfl, j5⟩; have HJ : Hid (Below w5.heap.size w5 w6) := j5; clear j5))
  have j5 := HJ.out
  have hbA := (Below.refl w6.heap.size w6).alloc (Nat.le_refl _) (.cells (cf 2 (.slice ua n uc) 2 2 1 1) 25)
  have hbB := j5.trans (hbA.mono j5.size)
  have hC6 := HC4.out.next hbB
  have hL : Calls Tryz.prog 29 #[.pointer (some ⟨w.heap.size, 0, none⟩)] (w6.alloc (.cells (cf 2 (.slice ua n uc) 2 2 1 1) 25)) fun e W' => ∃ ub nb uc', e = .returned (.agg (cf 4 (.slice ub nb uc') 2 2 3 3)) ∧ Below (w6.alloc (.cells (cf 2 (.slice ua n uc) 2 2 1 1) 25)).heap.size (w6.alloc (.cells (cf 2 (.slice ua n uc) 2 2 1 1) 25)) W' := by
    refine (Last_any w.heap.size w.heap.size v4 l4 _ hC6 (by omega)).mono ?_
    rintro e W' ⟨x, rfl, u, a, b, c, d, j1, rfl, j3, j4, j5⟩
    rw [hln, HC.out] at j1
    obtain ⟨rfl, rfl, rfl, rfl⟩ := four_eq j1.symm
    obtain ⟨ua', uc', rfl⟩ := j3.slice
    exact ⟨_, _, _, by rw [hln]; rfl, j5⟩
  have r0 := heap_alloc_new w6 (.cells (cf 2 (.slice ua n uc) 2 2 1 1) 25)
  have hbw : Below w.heap.size w (w6.alloc (.cells (cf 2 (.slice ua n uc) 2 2 1 1) 25)) := HB4.out.trans (hbB.mono HS4.out)
  have hsw : w.heap.size ≤ (w6.alloc (.cells (cf 2 (.slice ua n uc) 2 2 1 1) 25)).heap.size := Nat.le_trans HS4.out hbB.size
  obtain ⟨W7, hW7⟩ : ∃ W, w6.alloc (.cells (cf 2 (.slice ua n uc) 2 2 1 1) 25) = W := ⟨_, rfl⟩
  have HV : Hid (w6.alloc (.cells (cf 2 (.slice ua n uc) 2 2 1 1) 25) = W7) := hW7
  have hL2 : Calls Tryz.prog 29 #[.pointer (some ⟨w.heap.size, 0, none⟩)] W7 fun e W' => ∃ ua n uc, e = .returned (.agg (cf 4 (.slice ua n uc) 2 2 3 3)) ∧ Below W7.heap.size W7 W' := by
    subst hW7
    refine hL.mono ?_
    rintro e W' ⟨a, b, c, rfl, h⟩
    exact ⟨a, b, c, rfl, h⟩
  rw [hW7] at r0 hbw hsw
  have q2 := cellB r0 2 _ rfl
  have q3 := cellB r0 3 _ rfl
  have q4 := cellB r0 4 _ rfl
  have q5 := cellB r0 5 _ rfl
  have HR : Hid (Below w.heap.size w W7 ∧ w.heap.size ≤ W7.heap.size) := ⟨hbw, hsw⟩
  clear hW7 r0 hbw hsw hC6 hbA hbB j5 hG HJ hL
  rw [HV.out]
  clear HV
  have z3 : ∀ ub nb uc' W, (Instr.field 25 (.agg (cf 4 (.slice ub nb uc') 2 2 3 3)) 2).run Tryz.prog W = .ok (.agg #[.int .i64 2, .int .i64 2, .int .i64 3, .int .i64 3]) W := fun ub nb uc' W => fld25 _ _ _ _ _ _ W
  have z1 : ∀ W, (Op.equalIn 10000 23 (.agg #[.int .i64 2, .int .i64 2, .int .i64 1, .int .i64 1]) (.agg #[.int .i64 2, .int .i64 2, .int .i64 1, .int .i64 1])).run Tryz.prog W = .ok true W := fun W => eq23 2 2 1 1 2 2 1 1 W
  have z2 : ∀ W, (Op.equalIn 10000 23 (.agg #[.int .i64 2, .int .i64 2, .int .i64 3, .int .i64 3]) (.agg #[.int .i64 2, .int .i64 2, .int .i64 3, .int .i64 3])).run Tryz.prog W = .ok true W := fun W => eq23 2 2 3 3 2 2 3 3 W
  go_wp2_with (first
    | (go_at_call 29; refine hL2.mono ?_; rintro e w8 ⟨ub, nb, uc', rfl, i5⟩; have HI : Hid (Below W7.heap.size W7 w8) := i5; clear i5))
  go_ret
  exact ⟨rfl, HR.out.1.trans (HI.out.mono HR.out.2)⟩
end Go.Proofs.YtfolnlgceighbaaGreatDoor
