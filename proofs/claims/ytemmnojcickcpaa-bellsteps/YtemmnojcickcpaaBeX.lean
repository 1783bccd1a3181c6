/- The document's own bell, walked: Tick. -/
import Derived.Test.YtemmnojcickcpaaBeW
namespace Go.Proofs.Ytemmnojcickcpaa
open Go.RowKit
attribute [local go_sem ↓] Go.wp_at_zero Go.wp_at_succ

theorem below_drewN {n : Nat} {w w' : World} (h : Below n w w') (k : Nat) : Below n w (w'.drewN k) := ⟨h.os, h.tape, h.output, h.size, h.block⟩
/-- The document's bell, and beside it what has rung. -/
structure Rf (w0 : World) (R : Nat) (F : Ft) (now : Int) (u : Value) (Q : List Tm) (wr : World) : Prop where
  ref : RefAt wr R F now
  row : wr.ownsRow w0.heap.size 3 1 u Q.length (mcs Q)
  lt : R < w0.heap.size
  mv : MovR R w0 wr
theorem Rf.n1 {w0 wr : World} {R : Nat} {F : Ft} {now : Int} {u : Value} {Q : List Tm} (h : Rf w0 R F now u Q wr) : u.ownBlock ≠ some R := fun e => by have := (h.row.lt R e).1; have := h.lt; omega
theorem Rf.next {w0 wr wr' : World} {R : Nat} {F : Ft} {now : Int} {u : Value} {Q : List Tm} (h : Rf w0 R F now u Q wr) (hb : Below wr.heap.size wr wr') : Rf w0 R F now u Q wr' :=
  ⟨h.ref.keep (hb.block R h.ref.lt), owns_kept h.row (fun k hk => hb.block k (h.row.lt k hk).2), h.lt, h.mv.trans (Moved.of_below hb _ _)⟩
theorem Rf.off {w0 wr : World} {R : Nat} {F : Ft} {now : Int} {u : Value} {Q : List Tm} (h : Rf w0 R F now u Q wr) (n : Nat) (hn : n < 16) : Rf w0 R (upd F n none) now u Q (wr.setCell ⟨R, 1 + n, none⟩ (.int .i64 (-1))) :=
  ⟨h.ref.off n hn, owns_kept h.row (fun k hk => set_far (fun e => h.n1 (by rw [← e]; exact hk)) _ _), h.lt, h.mv.trans (movR_set _ _ _ _)⟩
theorem Rf.grown {w0 wr wr' : World} {R : Nat} {F : Ft} {now : Int} {u : Value} {Q : List Tm} (h : Rf w0 R F now u Q wr) {t : Tm} {g cap : Nat} (hg : wr.grownBy wr' u.ownBlock)
    (ho : wr'.ownsRow w0.heap.size 3 1 (.slice (some ⟨g, 0, none⟩) (Q.length + 1) cap) (Q.length + 1) (mcs Q ++ [.int .i64 t.1])) : Rf w0 R F now (.slice (some ⟨g, 0, none⟩) (Q.length + 1) cap) (Q ++ [t]) wr' := by
  refine ⟨h.ref.keep (hg.block R h.ref.lt (fun e => h.n1 e.symm)), ?_, h.lt, ?_⟩
  · rw [mcs_snoc, List.length_append]; exact ho
  · exact ⟨hg.os.trans h.mv.os, hg.tape.trans h.mv.tape, hg.output.trans h.mv.output, Nat.le_trans h.mv.size hg.size, fun k hk h1 h2 => (hg.block k (Nat.lt_of_lt_of_le hk h.mv.size) (fun e => by have := (h.row.lt k e.symm).1; omega)).trans (h.mv.block k hk h1 h2), h.mv.own⟩
set_option maxRecDepth 20000 in
set_option maxHeartbeats 2000000 in
theorem rTick_bad (R : Nat) (b : Int) (w : World) (hb : b < 0 ∨ 0 ≤ b ∧ 4096 < b) : Calls Try.prog 42 #[.pointer (some ⟨R, 0, none⟩), .int .i64 b] w fun e W' => e = .returned (.tuple #[.slice none 0 0, .int .i64 1]) ∧ W' = w := by
  rcases hb with h | ⟨h, h2⟩
  all_goals
    go_enter Try.func42, Try.ntmps42
    go_wp2
    go_ret2
    exact ⟨rfl, rfl⟩
set_option maxRecDepth 20000 in
set_option maxHeartbeats 2000000 in
theorem rTick_long {w : World} {R : Nat} {F : Ft} {now : Int} (h : RefAt w R F now) (b : Int) (h1 : 0 ≤ b) (h2 : b ≤ 4096) (hl : 1099511627776 < now + b) :
    Calls Try.prog 42 #[.pointer (some ⟨R, 0, none⟩), .int .i64 b] w fun e W' => e = .returned (.tuple #[.slice none 0 0, .int .i64 2]) ∧ W' = w := by
  have c0 := h.now
  have hq : decide (1099511627776 - b < now) = true := decide_eq_true (by omega)
  clear h hl
  go_enter Try.func42, Try.ntmps42
  go_wp2
  go_ret2
  exact ⟨rfl, rfl⟩
/-- All that is left is due at x or behind it, and none of the first k names at x. -/
def Past (F : Ft) (x : Int) (k : Nat) : Prop := ∀ n d s, F n = some (d, s) → x ≤ d ∧ (n < k → d ≠ x)
/-- Some were rung since, or one is ahead. -/
def Some' (Q0 Q : List Tm) (F : Ft) (x : Int) (k : Nat) : Prop := Q0.length < Q.length ∨ Q.length = Q0.length ∧ ∃ (n : Nat) (s : Int), k ≤ n ∧ n < 16 ∧ F n = some (x, s)
theorem past_skip {F : Ft} {x : Int} {k : Nat} (h : Past F x k) (hk : rdue (F k) ≠ x) : Past F x (k + 1) := fun n d s hF => by
  refine ⟨(h n d s hF).1, fun hn => ?_⟩
  by_cases e : n = k
  · subst e
    rw [hF] at hk
    exact hk
  · exact (h n d s hF).2 (by omega)
theorem some_skip {Q0 Q : List Tm} {F : Ft} {x : Int} {k : Nat} (h : Some' Q0 Q F x k) (hk : rdue (F k) ≠ x) : Some' Q0 Q F x (k + 1) := by
  rcases h with h | ⟨h, n, s, h1, h2, h3⟩
  · exact .inl h
  · refine .inr ⟨h, n, s, ?_, h2, h3⟩
    by_cases e : n = k
    · subst e
      rw [h3] at hk
      exact absurd rfl hk
    · omega
theorem past_take {F : Ft} {x : Int} {k : Nat} (h : Past F x k) : Past (upd F k none) x (k + 1) := fun n d s hF => by
  unfold upd at hF
  split at hF
  · cases hF
  · exact ⟨(h n d s hF).1, fun hn => (h n d s hF).2 (by omega)⟩
theorem past_least {F : Ft} {x s : Int} {k : Nat} (h : Past F x k) : ∀ n d s', F n = some (d, s') → n = (k : Int) ∨ lessB ((k : Int), x, s) (n, d, s') = true := fun n d s' hF => by
  have := h n d s' hF
  by_cases e : n = k
  · exact .inl e
  · right
    rw [less_iff]
    by_cases e2 : x = d
    · subst e2
      have hn : ¬ n < (k : Int) := fun hn => this.2 hn rfl
      exact .inr ⟨rfl, by show (k : Int) < n; omega⟩
    · exact .inl (by show x < d; omega)
end Go.Proofs.Ytemmnojcickcpaa
