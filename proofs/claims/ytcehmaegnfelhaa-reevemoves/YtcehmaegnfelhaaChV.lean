/- Chains: three, walked. -/
import Derived.Test.YtcehmaegnfelhaaChU
namespace Go.Proofs.Ytcehmaegnfelhaa
open Go.RowKit
attribute [local go_sem ↓] Go.wp_at_zero Go.wp_at_succ

theorem Do_any (k g s : Int) (B : Nat) (base : Nat) (v : Value) (l : List Rc) (w : World) (h : ChAt base w B v l) (hl : l.length ≤ 1000) :
    Calls Try.prog 15 #[.pointer (some ⟨B, 0, none⟩), .agg #[.int .i64 k, .int .i64 g, .int .i64 s]] w fun e W' => e = .returned (.int .i64 (doE (cls l) k g s)) ∧ DoPost base B v l k g s w W' := by
  by_cases h4 : l.length < 40
  · exact Do_some k g s B base v l w h h4
  · exact Do_full k g s B base v l w h (by omega) hl
theorem Kb.below {B : Nat} {v : Value} {w0 w W' : World} {l : List Rc} {base : Nat} (hb : Below base w0 w) (hw : base ≤ w.heap.size) (h : ChAt base w B v l) (hk : Kb B v w W') : Below base w0 W' :=
  ⟨hk.os.trans hb.os, hk.tape.trans hb.tape, hk.output.trans hb.output, Nat.le_trans hb.size hk.size, fun j hj => (hk.block j (by omega) (by have := h.low; omega) (fun e => by have := (h.own.lt j e).1; omega)).trans (hb.block j hj)⟩
/-- Do at a chain whose configurations are known. -/
theorem Do_at {w0 w : World} {base B : Nat} {v : Value} {l : List Rc} {cs : List (List Nat × List Nat)} (hb : Below base w0 w) (hw : base ≤ w.heap.size) (h : ChAt base w B v l) (hc : cls l = cs) (k g s : Int) (hl : cs.length ≤ 1000) :
    Calls Try.prog 15 #[.pointer (some ⟨B, 0, none⟩), .agg #[.int .i64 k, .int .i64 g, .int .i64 s]] w fun e W' => e = .returned (.int .i64 (doE cs k g s)) ∧ ∃ v' l', ChAt base W' B v' l' ∧ cls l' = doC cs k g s ∧ Below base w0 W' ∧ base ≤ W'.heap.size := by
  subst hc
  rw [cls_len] at hl
  refine (Do_any k g s B base v l w h hl).mono ?_
  rintro e W' ⟨rfl, v', l', h1, h2, h3, _⟩
  exact ⟨rfl, v', l', h2, h1, h3.below hb hw h, Nat.le_trans hw h3.size⟩
theorem four_eq {a b c d p q r t : Nat} (h : [p, q, r, t] = [a, b, c, d]) : p = a ∧ q = b ∧ r = c ∧ t = d := by simpa using h
theorem do_e0 : doE [] 1 1 0 = 0 := by decide +kernel
theorem do_c0 : doC [] 1 1 0 = [([1], [1, 1, 1, 1])] := by decide +kernel
theorem do_e1 : doE [([1], [1, 1, 1, 1])] 1 2 0 = 0 := by decide +kernel
theorem do_c1 : doC [([1], [1, 1, 1, 1])] 1 2 0 = [([1], [1, 1, 1, 1]), ([1, 2], [2, 2, 1, 1])] := by decide +kernel
theorem do_e2 : doE [([1], [1, 1, 1, 1]), ([1, 2], [2, 2, 1, 1])] 1 3 0 = 0 := by decide +kernel
theorem do_c2 : doC [([1], [1, 1, 1, 1]), ([1, 2], [2, 2, 1, 1])] 1 3 0 = [([1], [1, 1, 1, 1]), ([1, 2], [2, 2, 1, 1]), ([1, 2, 3], [2, 2, 3, 1])] := by decide +kernel
theorem do_e3 : doE [([1], [1, 1, 1, 1]), ([1, 2], [2, 2, 1, 1]), ([1, 2, 3], [2, 2, 3, 1])] 2 1 0 = 0 := by decide +kernel
theorem do_c3 : doC [([1], [1, 1, 1, 1]), ([1, 2], [2, 2, 1, 1]), ([1, 2, 3], [2, 2, 3, 1])] 2 1 0 = [([1], [1, 1, 1, 1]), ([1, 2], [2, 2, 1, 1]), ([1, 2, 3], [2, 2, 3, 1]), ([2, 3], [2, 2, 3, 3])] := by decide +kernel
theorem fld25 (n : Int) (v : Value) (a b c d : Int) (W : World) : (Instr.field 50 (.agg (cf n v a b c d)) 2).run Try.prog W = .ok (.agg #[.int .i64 a, .int .i64 b, .int .i64 c, .int .i64 d]) W := by kernel_rfl
set_option maxRecDepth 20000 in
set_option maxHeartbeats 1000000 in
theorem eq23 (a b c d p q r t : Int) (w : World) : (Op.equalIn 10000 48 (.agg #[.int .i64 a, .int .i64 b, .int .i64 c, .int .i64 d]) (.agg #[.int .i64 p, .int .i64 q, .int .i64 r, .int .i64 t])).run Try.prog w = .ok (decide ([a, b, c, d] = [p, q, r, t])) w := by
  have hu5 := Try.underlying3
  have ha5 := Try.isAgg3
  have hz5 := Try.sizeOf3
  rw [show (10000 : Nat) = 9999 + 1 from rfl, Op.equalIn]
  simp only [Sem.run_bind, run_underlying Try.underlying48, Result.andThen_ok]
  simp only [Std.Legacy.Range.forIn_eq_forIn_range', Std.Legacy.Range.size, Nat.sub_zero, Nat.add_sub_cancel, Nat.div_one, List.range'_succ, List.range'_zero, List.forIn_cons, List.forIn_nil]
  go_simp
  by_cases h0 : a = p
  case neg => simp [h0]
  subst h0
  by_cases h1 : b = q
  case neg => simp [h1]
  subst h1
  by_cases h2 : c = r
  case neg => simp [h2]
  subst h2
  by_cases h3 : d = t
  case neg => simp [h3]
  subst h3
  simp
end Go.Proofs.Ytcehmaegnfelhaa
