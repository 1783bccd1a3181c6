/- The document's own window in memory; Has, Ask, above, walked. -/
import Derived.Test.YtobojfkoffhljaaWiM
namespace Go.Proofs.Ytobojfkoffhljaa
open Go.RowKit
attribute [local go_sem ↓] Go.wp_at_zero Go.wp_at_succ

abbrev Rq := Int × Int × List UInt8
/-- Requests as cells. -/
def rcs (l : List Rq) : List Value := l.flatMap fun a => [.int .i64 a.1, .int .i64 a.2.1, .string (bs a.2.2)]
theorem rcs_cons (a : Rq) (l : List Rq) : rcs (a :: l) = .int .i64 a.1 :: .int .i64 a.2.1 :: .string (bs a.2.2) :: rcs l := rfl
theorem rcs_len (l : List Rq) : (rcs l).length = l.length * 3 := by
  induction l with
  | nil => rfl
  | cons t r ih => rw [rcs_cons]; simp only [List.length_cons, ih]; omega
theorem rcs_append (a b : List Rq) : rcs (a ++ b) = rcs a ++ rcs b := by simp [rcs]
theorem rcs_at (l : List Rq) (i : Nat) (t : Rq) (h : l[i]? = some t) : (rcs l)[i * 3]? = some (.int .i64 t.1) ∧ (rcs l)[i * 3 + 1]? = some (.int .i64 t.2.1) ∧ (rcs l)[i * 3 + 2]? = some (.string (bs t.2.2)) := by
  induction l generalizing i with
  | nil => cases h
  | cons a r ih =>
    rw [rcs_cons]
    cases i with
    | zero => simp at h; subst h; exact ⟨rfl, rfl, rfl⟩
    | succ i =>
      have := ih i (by simpa using h)
      rw [show (i + 1) * 3 = i * 3 + 1 + 1 + 1 from by omega]
      simpa using this
theorem rcs_take (l : List Rq) (k : Nat) : (rcs l).take (k * 3) = rcs (l.take k) := by
  induction l generalizing k with
  | nil => simp [rcs]
  | cons a r ih =>
    cases k with
    | zero => simp [rcs]
    | succ k =>
      rw [rcs_cons, List.take_succ_cons, rcs_cons, show (k + 1) * 3 = k * 3 + 1 + 1 + 1 from by omega]
      simp only [List.take_succ_cons, ih]
theorem rcs_drop (l : List Rq) (k : Nat) : (rcs l).drop (k * 3) = rcs (l.drop k) := by
  induction l generalizing k with
  | nil => simp [rcs]
  | cons a r ih =>
    cases k with
    | zero => simp
    | succ k =>
      rw [rcs_cons, List.drop_succ_cons, show (k + 1) * 3 = k * 3 + 1 + 1 + 1 from by omega]
      simp only [List.drop_succ_cons, ih]
theorem rcs_one (l : List Rq) : ∀ u ∈ rcs l, u.oneCell' = true := by
  intro u hu
  obtain ⟨a, _, h⟩ := List.mem_flatMap.1 hu
  simp at h
  rcases h with rfl | rfl | rfl <;> rfl
/-- The cells of the i'th request of a row. -/
theorem row_at {w : World} {base : Nat} {E : TypeId} {v : Value} {l : List Rq} (h : w.ownsRow base E 3 v l.length (rcs l)) {i : Nat} {t : Rq} (hi : l[i]? = some t) :
    ∃ g cap, v = .slice (some ⟨g, 0, none⟩) l.length cap ∧ base ≤ g ∧ g < w.heap.size ∧ w.cell? ⟨g, i * 3, none⟩ = some (.int .i64 t.1) ∧ w.cell? ⟨g, i * 3 + 1, none⟩ = some (.int .i64 t.2.1) ∧ w.cell? ⟨g, i * 3 + 2, none⟩ = some (.string (bs t.2.2)) := by
  have hil : i < l.length := (List.getElem?_eq_some_iff.1 hi).1
  obtain ⟨g, cap, rfl, hb, hlt⟩ := h.form (by omega)
  obtain ⟨e0, e1, e2⟩ := rcs_at l i t hi
  refine ⟨g, cap, rfl, hb, hlt, ?_, ?_, ?_⟩
  · rw [← e0]; exact h.cellAt _ (by omega)
  · rw [← e1]; exact h.cellAt _ (by omega)
  · rw [← e2]; exact h.cellAt _ (by omega)

def fpR (R : Nat) (vl vd : Value) (k : Nat) : Prop := k = R ∨ vl.ownBlock = some k ∨ vd.ownBlock = some k
/-- What a call on one object leaves. -/
structure Mvd (S S' : Nat → Prop) (w w' : World) : Prop where
  os : w'.os = w.os
  tape : w'.tape = w.tape
  output : w'.output = w.output
  size : w.heap.size ≤ w'.heap.size
  block : ∀ k, k < w.heap.size → ¬ S k → w'.heap[k]? = w.heap[k]?
  own : ∀ k, S' k → S k ∨ w.heap.size ≤ k
theorem Mvd.of_below {w w' : World} (h : Below w.heap.size w w') (S : Nat → Prop) : Mvd S S w w' := ⟨h.os, h.tape, h.output, h.size, fun k hk _ => h.block k hk, fun _ h => .inl h⟩
theorem Mvd.trans {S S1 S2 : Nat → Prop} {w w1 w2 : World} (h : Mvd S S1 w w1) (k : Mvd S1 S2 w1 w2) : Mvd S S2 w w2 :=
  ⟨k.os.trans h.os, k.tape.trans h.tape, k.output.trans h.output, Nat.le_trans h.size k.size,
    fun i hi h1 => (k.block i (Nat.lt_of_lt_of_le hi h.size) (fun e => by rcases h.own i e with e | e; exact h1 e; omega)).trans (h.block i hi h1),
    fun i hi => by
      rcases k.own i hi with e | e
      · exact h.own i e
      · exact .inr (Nat.le_trans h.size e)⟩
theorem Mvd.below {S S' : Nat → Prop} {w w' : World} {b : Nat} (h : Mvd S S' w w') (hb : b ≤ w.heap.size) (hS : ∀ k, S k → b ≤ k) : Below b w w' := ⟨h.os, h.tape, h.output, h.size, fun k hk => h.block k (by omega) (fun e => by have := hS k e; omega)⟩
/-- The document's window. -/
structure RefAt (base : Nat) (w : World) (R : Nat) (low : Int) (vl vd : Value) (l F : List Rq) : Prop where
  blk : w.heap[R]? = some (.cells #[.int .i64 low, vl, vd] 32)
  own : w.ownsRow base 42 3 vl l.length (rcs l)
  dn : w.ownsRow base 42 3 vd F.length (rcs F)
  n1 : vl.ownBlock ≠ some R
  n2 : vd.ownBlock ≠ some R
  n3 : ∀ k, vl.ownBlock = some k → vd.ownBlock ≠ some k
  base : base ≤ R
theorem RefAt.lt {base : Nat} {w : World} {R : Nat} {low : Int} {vl vd : Value} {l F : List Rq} (h : RefAt base w R low vl vd l F) : R < w.heap.size := (Array.getElem?_eq_some_iff.1 h.blk).1
theorem RefAt.keep {base : Nat} {w w' : World} {R : Nat} {low : Int} {vl vd : Value} {l F : List Rq} (h : RefAt base w R low vl vd l F) (hk : ∀ k, fpR R vl vd k → w'.heap[k]? = w.heap[k]?) : RefAt base w' R low vl vd l F :=
  ⟨(hk R (.inl rfl)).trans h.blk, owns_kept h.own (fun k e => hk k (.inr (.inl e))), owns_kept h.dn (fun k e => hk k (.inr (.inr e))), h.n1, h.n2, h.n3, h.base⟩
theorem RefAt.fp {base : Nat} {w : World} {R : Nat} {low : Int} {vl vd : Value} {l F : List Rq} (h : RefAt base w R low vl vd l F) {k : Nat} (hk : fpR R vl vd k) : base ≤ k ∧ k < w.heap.size := by
  rcases hk with e | e | e
  · rw [e]; exact ⟨h.base, h.lt⟩
  · exact h.own.lt k e
  · exact h.dn.lt k e
theorem RefAt.next {base : Nat} {w w' : World} {R : Nat} {low : Int} {vl vd : Value} {l F : List Rq} (h : RefAt base w R low vl vd l F) (hb : Below w.heap.size w w') : RefAt base w' R low vl vd l F := h.keep (fun k hk => hb.block k (h.fp hk).2)
theorem RefAt.le {base : Nat} {w : World} {R : Nat} {low : Int} {vl vd : Value} {l F : List Rq} (h : RefAt base w R low vl vd l F) : base ≤ w.heap.size := Nat.le_trans h.base (Nat.le_of_lt h.lt)

theorem rHas_any {base : Nat} {w : World} {R : Nat} {low : Int} {vl vd : Value} {l F : List Rq} (h : RefAt base w R low vl vd l F) (h0 : 0 ≤ low) (h1 : low ≤ 1099511627768) (n : Int) : Calls Try.prog 16 #[.pointer (some ⟨R, 0, none⟩), .int .i64 n] w fun e W' => e = .returned (.bool (hasW low n)) ∧ W' = w := by
  have c0 := cellB h.blk 0 (.int .i64 low) rfl
  clear h
  go_enter Try.func16, Try.ntmps16
  go_wp2
  go_loop [5] (fun i => ∃ k : Nat, 1 ≤ k ∧ k ≤ 9 ∧ i = .int .i64 k ∧ Hid (n ≤ low ∨ low + (k : Int) ≤ n)) (fun i => 9 - (intOf i).toNat)
  case atStart => exact ⟨1, by omega, by omega, rfl, by show _ ∨ _; omega⟩
  case round =>
    obtain ⟨k, k1, k9, rfl, hno⟩ := hrel
    by_cases hk : k ≤ 8
    · by_cases he : n = low + (k : Int)
      · have hh : hasW low n = true := by simp only [hasW, Bool.and_eq_true, decide_eq_true_eq]; omega
        have HH : Hid (hasW low n = true) := hh
        have hb : (n == low + (k : Int)) = true := by simp [he]
        clear hh he
        go_wp2
        go_ret
        exact ⟨by rw [HH.out]; rfl, rfl⟩
      · have hb : (n == low + (k : Int)) = false := by simp [he]
        have HN : Hid (n ≤ low ∨ low + ((k : Int) + 1) ≤ n) := by
          have := hno.out
          show _ ∨ _
          omega
        clear he hno
        go_wp2
        go_round
        case rel => exact ⟨k + 1, by omega, by omega, by go_num, by have := HN.out; show _ ∨ _; omega⟩
        case measure => simp [intOf]; omega
    · have hh : hasW low n = false := by
        have := hno.out
        simp only [hasW, Bool.and_eq_false_iff, decide_eq_false_iff_not]
        omega
      have HH : Hid (hasW low n = false) := hh
      have e9 : k = 9 := by omega
      subst e9
      clear hh hno
      go_wp2
      go_ret
      exact ⟨by rw [HH.out]; rfl, rfl⟩
theorem rAsk_any {base : Nat} {w : World} {R : Nat} {low : Int} {vl vd : Value} {l F : List Rq} (h : RefAt base w R low vl vd l F) (h0 : 0 ≤ low) (h1 : low ≤ 1099511627768) (view n : Int) : Calls Try.prog 40 #[.pointer (some ⟨R, 0, none⟩), .int .i64 view, .int .i64 n] w fun e W' => e = .returned (.int .i64 (askE low view n)) ∧ W' = w := by
  have hH := rHas_any h h0 h1 n
  clear h
  rcases range3 view 1099511627776 with ⟨v1, vi⟩ | ⟨v1, v2, vi⟩ | ⟨v1, v2, vi⟩
  · unfold askE
    rw [if_pos vi]
    clear vi hH
    go_enter Try.func40, Try.ntmps40
    go_wp2
    go_ret
    exact ⟨rfl, rfl⟩
  · unfold askE
    rw [if_pos vi]
    clear vi hH
    go_enter Try.func40, Try.ntmps40
    go_wp2
    go_ret
    exact ⟨rfl, rfl⟩
  · unfold askE
    rw [if_neg (by rw [vi]; decide)]
    cases hh : hasW low n
    · rw [hh] at hH
      rw [if_pos rfl]
      clear vi hh
      go_enter Try.func40, Try.ntmps40
      go_wp2_with (first | (go_at_call 16; refine hH.mono ?_; rintro e w1 ⟨rfl, h9⟩; replace h9 := h9.symm; subst h9))
      go_ret
      exact ⟨rfl, rfl⟩
    · rw [hh] at hH
      rw [if_neg (by decide)]
      clear vi hh
      go_enter Try.func40, Try.ntmps40
      go_wp2_with (first | (go_at_call 16; refine hH.mono ?_; rintro e w1 ⟨rfl, h9⟩; replace h9 := h9.symm; subst h9))
      go_ret
      exact ⟨rfl, rfl⟩
end Go.Proofs.Ytobojfkoffhljaa
