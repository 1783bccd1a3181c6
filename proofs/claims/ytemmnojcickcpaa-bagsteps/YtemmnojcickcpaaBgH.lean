/- The bag's Pick: the list is copied over itself; walked. -/
import Derived.Test.YtemmnojcickcpaaBgG
namespace Go.Proofs.Ytemmnojcickcpaa
open Go.RowKit
attribute [local go_sem ↓] Go.wp_at_zero Go.wp_at_succ

/-- copy within a row of elements of any size: all is read first. -/
theorem run_copy_rows {P : Program} (w : World) (dT sT ty elem : TypeId) (s : Nat) (g o dLen dCap : Nat) (a : Addr) (sLen sCap : Nat) (cur : Array Value) (t : TypeId) (cs : List Value)
    (hu : P.underlying dT = some (.slice elem)) (hs : (P.info? elem).map (·.size) = some s)
    (hg : w.heap[g]? = some (.cells cur t (0, 0))) (hn : cs.length = (Nat.min sLen dLen) * s)
    (hsrc : ∀ j v, cs[j]? = some v → w.cell? (a.add j) = some v) (hfit : o + cs.length ≤ cur.size) (h1 : ∀ v ∈ cs, v.oneCell' = true) :
    (Builtin.copy_ #[dT, sT] ty #[.slice (some ⟨g, o, none⟩) dLen dCap, .slice (some a) sLen sCap]).run P w =
      .ok (goInt (Nat.min sLen dLen)) (w.setRow g (cur.toList.take o ++ cs ++ cur.toList.drop (o + cs.length)).toArray) := by
  have hl := run_loadCells_list (P := P) w a cs hsrc
  have hst := run_storeCells_at P g o t cs 0 cur w hg (by simpa using hfit) h1
  cases hq : P.info? elem with
  | none => simp [hq] at hs
  | some i =>
    have hi : i.size = s := by simpa [hq] using hs
    simp [Builtin.copy_, run_underlying hu, Builtin.lenOf, Builtin.firstCells, sizeOf, typeInfo, hq, hi, ← hn, hl, hst]
theorem run_copy_zero {P : Program} (w : World) (dT sT ty elem : TypeId) (s : Nat) (g o dLen dCap : Nat) (sp : Option Addr) (sCap : Nat) (hu : P.underlying dT = some (.slice elem)) (hs : (P.info? elem).map (·.size) = some s) :
    (Builtin.copy_ #[dT, sT] ty #[.slice (some ⟨g, o, none⟩) dLen dCap, .slice sp 0 sCap]).run P w = .ok (goInt 0) w := by
  cases hq : P.info? elem with
  | none => simp [hq] at hs
  | some i =>
    cases sp with
    | none => simp [Builtin.copy_, run_underlying hu, Builtin.lenOf, Builtin.firstCells, sizeOf, typeInfo, hq, storeCells]
    | some a =>
      have hl := run_loadCells_list (P := P) w a [] (by simp)
      simp only [List.length_nil] at hl
      simp [Builtin.copy_, run_underlying hu, Builtin.lenOf, Builtin.firstCells, sizeOf, typeInfo, hq, storeCells, hl]
theorem erase_len {α : Type} {l : List α} {k : Nat} (hk : k < l.length) : (l.eraseIdx k).length + 1 = l.length := by rw [List.length_eraseIdx_of_lt hk]; omega
theorem drop_last {α : Type} {l : List α} {z : α} (h : l.getLast? = some z) : l.drop (l.length - 1) = [z] := by
  obtain ⟨r, rfl⟩ := List.getLast?_eq_some_iff.1 h
  simp
/-- The row behind the copy. -/
theorem row_erase {l : List It} {k : Nat} (hk : k < l.length) {z : It} (hz : l.getLast? = some z) (rest : List Value) :
    (ics l ++ rest).take (k * 4) ++ ics (l.drop (k + 1)) ++ (ics l ++ rest).drop (k * 4 + (ics (l.drop (k + 1))).length) = ics (l.eraseIdx k ++ [z]) ++ rest := by
  have e1 : (ics l ++ rest).take (k * 4) = ics (l.take k) := by rw [List.take_append_of_le_length (by rw [ics_len]; omega), ics_take]
  have e2 : k * 4 + (ics (l.drop (k + 1))).length = (l.length - 1) * 4 := by rw [ics_len, List.length_drop]; omega
  have e3 : (ics l ++ rest).drop ((l.length - 1) * 4) = ics [z] ++ rest := by rw [List.drop_append_of_le_length (by rw [ics_len]; omega), ics_drop, drop_last hz]
  rw [e1, e2, e3, ics_append, List.eraseIdx_eq_take_drop_succ, ics_append, List.append_assoc, List.append_assoc, List.append_assoc]

theorem owns_parts {w : World} {base g n cap : Nat} {E : TypeId} {s : Nat} {xs : List Value} (h : w.ownsRow base E s (.slice (some ⟨g, 0, none⟩) n cap) n xs) :
    ∃ cur : Array Value, base ≤ g ∧ w.heap[g]? = some (.cells cur E (0, 0)) ∧ n ≤ cap ∧ cap ≤ maxLen ∧ cur.size = cap * s ∧ cur.toList.take (n * s) = xs ∧ xs.length = n * s := by
  obtain ⟨hl, h | ⟨g', cap', cur, hv, h2, h3, h4, h5, h6, h7⟩⟩ := h
  · cases h.1
  · injection hv with h1 _ h8
    injection h1 with h1
    injection h1 with h1 _ _
    subst h1 h8
    exact ⟨cur, h2, h3, h4, h5, h6, h7, hl⟩
theorem step_copy_items {ops : Array Oper} {o : Oper} {a : Act} {w : World} {K : Act → World → Prop} {Q : Exit → Act → World → Prop} {Z : Prop} (hgd : o.guard = none) (d s : Operand)
    (ho : o.op = .call { callee := .builtin .copy, args := #[d, s], argTypes := #[68, 68] }) (base g cap k q : Nat) (l : List It) (z : It) (dLen dCap sLen sCap : Nat) (sp : Option Addr)
    (hd : a.eval d = .slice (some ⟨g, k * 4, none⟩) dLen dCap) (hs : a.eval s = .slice sp sLen sCap) (hdl : dLen = l.length - k) (hsl : sLen = l.length - q) (hsp : sLen ≠ 0 → sp = some ⟨g, q * 4, none⟩) (hq : k + 1 = q)
    (hk : k < l.length) (hz : l.getLast? = some z) (hown : w.ownsRow base 31 4 (.slice (some ⟨g, 0, none⟩) l.length cap) l.length (ics l))
    (h : ∀ w', w'.ownsRow base 31 4 (.slice (some ⟨g, 0, none⟩) l.length cap) l.length (ics (l.eraseIdx k ++ [z])) → w.grownBy w' (some g) → K (a.put o.dst (goInt (sLen : Int))) w') :
    if Region.wanted o (yielded ops a.tmps) = true then Oper.wp Try.prog o a w K Q else Z := by
  subst hq
  have hw : Region.wanted o (yielded ops a.tmps) = true := by simp [Region.wanted, hgd]
  rw [if_pos hw]
  have hsize : (Try.prog.info? 31).map (·.size) = some 4 := by kernel_rfl
  obtain ⟨cur, hb, hg, hc1, hc2, hc3, hc4, hl4⟩ := owns_parts hown
  by_cases h0 : sLen = 0
  · have hrun := run_copy_zero (P := Try.prog) w 68 68 o.type 31 4 g (k * 4) dLen dCap sp sCap Try.underlying68 hsize
    have hkl : k + 1 = l.length := by omega
    have he : l.eraseIdx k ++ [z] = l := by
      rw [List.eraseIdx_eq_take_drop_succ, List.drop_of_length_le (by omega), List.append_nil]
      have := drop_last hz
      rw [show l.length - 1 = k by omega] at this
      rw [← this, List.take_append_drop]
    subst h0
    unfold Oper.wp
    simp [execOp, ho, resolve, invoke, builtin, hd, hs, hrun, Result.andThen]
    exact h w (by rw [he]; exact hown) ⟨rfl, rfl, rfl, Nat.le_refl _, fun _ _ _ => rfl⟩
  · have hsp' := hsp h0
    subst hsp'
    have hmin : Nat.min sLen dLen = sLen := Nat.min_eq_left (by omega)
    have hcl : (ics (l.drop (k + 1))).length = sLen * 4 := by rw [ics_len, List.length_drop, hsl]
    have hcat : cur.toList = ics l ++ cur.toList.drop (l.length * 4) := by rw [← hc4, List.take_append_drop]
    have hrun := run_copy_rows (P := Try.prog) w 68 68 o.type 31 4 g (k * 4) dLen dCap ⟨g, (k + 1) * 4, none⟩ sLen sCap cur 31 (ics (l.drop (k + 1))) Try.underlying68 hsize hg (by rw [hmin, hcl]) (fun j v hj => by
      rw [Addr.add_mid]
      have hj2 : j < sLen * 4 := by have := (List.getElem?_eq_some_iff.1 hj).1; omega
      rw [hown.cellAt _ (by omega), ← hj, ← ics_drop, List.getElem?_drop]) (by rw [hcl, hc3]; omega) (ics_one _)
    rw [hmin] at hrun
    have hrow : cur.toList.take (k * 4) ++ ics (l.drop (k + 1)) ++ cur.toList.drop (k * 4 + (ics (l.drop (k + 1))).length) = ics (l.eraseIdx k ++ [z]) ++ cur.toList.drop (l.length * 4) := by
      have := row_erase hk hz (cur.toList.drop (l.length * 4))
      rw [← hcat] at this
      exact this
    rw [hrow] at hrun
    unfold Oper.wp
    simp [execOp, ho, resolve, invoke, builtin, hd, hs, hrun, Result.andThen]
    have hel := erase_len hk
    have hlen : (l.eraseIdx k ++ [z]).length = l.length := by rw [List.length_append]; exact hel
    refine h _ ⟨by rw [ics_len, hlen], .inr ⟨g, cap, _, rfl, hb, setRow_heap w g _ _ _ _ hg, hc1, hc2, ?_, ?_⟩⟩ ⟨rfl, rfl, rfl, by simp [World.setRow], fun q _ hq => setRow_other w g q _ (fun e => hq (by rw [e]))⟩
    · have := hc3
      rw [← Array.length_toList] at this
      simp only [List.size_toArray, List.length_append, ics_len, hlen, List.length_drop]
      omega
    · rw [List.take_append_of_le_length (by rw [ics_len, hlen]; omega), List.take_of_length_le (by rw [ics_len, hlen]; omega)]
theorem wrap_id8 (x : Int) (h0 : -9223372036854775808 ≤ x) (h1 : x ≤ 9223372036854775807) : IntKind.i64.wrap x = x := by
  simp [IntKind.wrap, IntKind.bits, IntKind.signed]; omega
/-- A result's own block, written: what is answered, and what is left. -/
theorem fin4 {w W : World} {R : Nat} (h1 : W.heap[R]? = some (.cells #[.int .i64 0, .int .i64 0, .int .i64 0, .string ⟨#[]⟩] 31)) (h2 : Below w.heap.size w W) (hR : w.heap.size ≤ R) (p q r s : Value) :
    ((((W.setCell ⟨R, 0, none⟩ p).setCell ⟨R, 1, none⟩ q).setCell ⟨R, 2, none⟩ r).setCell ⟨R, 3, none⟩ s).cell? ⟨R, 0, none⟩ = some p ∧ ((((W.setCell ⟨R, 0, none⟩ p).setCell ⟨R, 1, none⟩ q).setCell ⟨R, 2, none⟩ r).setCell ⟨R, 3, none⟩ s).cell? ⟨R, 1, none⟩ = some q ∧
    ((((W.setCell ⟨R, 0, none⟩ p).setCell ⟨R, 1, none⟩ q).setCell ⟨R, 2, none⟩ r).setCell ⟨R, 3, none⟩ s).cell? ⟨R, 2, none⟩ = some r ∧ ((((W.setCell ⟨R, 0, none⟩ p).setCell ⟨R, 1, none⟩ q).setCell ⟨R, 2, none⟩ r).setCell ⟨R, 3, none⟩ s).cell? ⟨R, 3, none⟩ = some s ∧
    Below w.heap.size w ((((W.setCell ⟨R, 0, none⟩ p).setCell ⟨R, 1, none⟩ q).setCell ⟨R, 2, none⟩ r).setCell ⟨R, 3, none⟩ s) := by
  have hr := set4 h1 p q r s
  exact ⟨cellB hr 0 _ rfl, cellB hr 1 _ rfl, cellB hr 2 _ rfl, cellB hr 3 _ rfl, below_set4 h2 hR _ _ _ _⟩
set_option maxRecDepth 20000 in
set_option maxHeartbeats 2000000 in
theorem Pick_err (p : Option Addr) (i : Int) (w : World) (hSee : ∀ W, Below w.heap.size w W → Calls Try.prog 12 #[.pointer p, .int .i64 i] W fun e W' => e = .returned (.tuple #[.agg #[.int .i64 0, .int .i64 0, .int .i64 0, .string (bs [])], .int .i64 6]) ∧ Below W.heap.size W W') :
    Calls Try.prog 20 #[.pointer p, .int .i64 i] w fun e W' => e = .returned (.tuple #[.agg #[.int .i64 0, .int .i64 0, .int .i64 0, .string (bs [])], .int .i64 6]) ∧ Below w.heap.size w W' := by
  have hb0 : Below w.heap.size w (w.alloc (.cells #[.int .i64 0, .int .i64 0, .int .i64 0, .string ⟨#[]⟩] 31)) := (Below.refl _ w).alloc (Nat.le_refl _) _
  have HR : Hid (_) := heap_alloc_new w (.cells #[.int .i64 0, .int .i64 0, .int .i64 0, .string ⟨#[]⟩] 31)
  have hS := hSee _ hb0
  clear hSee
  go_enter Try.func20, Try.ntmps20
  go_wp2_with fail
  refine hS.mono ?_
  rintro e w1 ⟨rfl, hb1⟩
  have r1 := (hb1.block w.heap.size (by simp)).trans HR.out
  have hB1 := hb0.trans (hb1.mono hb0.size)
  have hlt : w.heap.size < w1.heap.size := (Array.getElem?_eq_some_iff.1 r1).1
  clear hS HR hb1 hb0
  go_upto_region 3 with fail
  have r2 := (Below.heap_alloc w1 (.cells #[.int .i64 0, .int .i64 0, .int .i64 0, .string (bs [])] 31) w.heap.size hlt).trans r1
  have hB2 := hB1.alloc hB1.size (.cells #[.int .i64 0, .int .i64 0, .int .i64 0, .string (bs [])] 31)
  obtain ⟨W2, hW2⟩ : ∃ W, w1.alloc (.cells #[.int .i64 0, .int .i64 0, .int .i64 0, .string (bs [])] 31) = W := ⟨_, rfl⟩
  rw [hW2] at r2 hB2 ⊢
  have f0 := frozenB r2 0
  have f1 := frozenB r2 1
  have f2 := frozenB r2 2
  have f3 := frozenB r2 3
  have x0 := cellB r2 0 _ rfl
  have x1 := cellB r2 1 _ rfl
  have x2 := cellB r2 2 _ rfl
  have x3 := cellB r2 3 _ rfl
  obtain ⟨y0, y1, y2, y3, hB3⟩ := fin4 r2 hB2 (Nat.le_refl _) (.int .i64 0) (.int .i64 0) (.int .i64 0) (.string ⟨#[]⟩)
  clear hW2 r2 r1 hB1
  go_wp2
  exact bodyPost_ret (v := .tuple #[.agg #[.int .i64 0, .int .i64 0, .int .i64 0, .string (bs [])], .int .i64 6]) (by simp [results, Try.f20, go_sem, y0, y1, y2, y3, bs]) rfl ⟨rfl, hB3⟩
theorem Pick_nil (i : Int) (w : World) : Calls Try.prog 20 #[.pointer none, .int .i64 i] w fun e W' => e = .returned (.tuple #[.agg #[.int .i64 0, .int .i64 0, .int .i64 0, .string (bs [])], .int .i64 6]) ∧ Below w.heap.size w W' :=
  Pick_err none i w (fun W _ => See_nil i W)
theorem Pick_no {base : Nat} {w : World} {B : Nat} {v : Value} {l : List It} {d : Int} (h : BagAt 70 31 base w B v l d) (i : Int) (hi : i < 0 ∨ (l.length : Int) ≤ i) :
    Calls Try.prog 20 #[.pointer (some ⟨B, 0, none⟩), .int .i64 i] w fun e W' => e = .returned (.tuple #[.agg #[.int .i64 0, .int .i64 0, .int .i64 0, .string (bs [])], .int .i64 6]) ∧ Below w.heap.size w W' :=
  Pick_err _ i w (fun _ hW => See_no (h.next hW) i hi)
end Go.Proofs.Ytemmnojcickcpaa
