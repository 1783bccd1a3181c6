/- Two bells, the program's and the document's: what one step does to both. -/
import Derived.Test.YtemmnojcickcpaaBeY
namespace Go.Proofs.Ytemmnojcickcpaa
open Go.RowKit
attribute [local go_sem ↓] Go.wp_at_zero Go.wp_at_succ

/-- The program's bell in F, the document's in G. -/
structure Hf (w0 : World) (B : Nat) (v : Value) (R : Nat) (F : Ft) (now : Int) (G : Ft) (nowG : Int) (w : World) : Prop where
  bell : BelSt B w B v F now
  ref : RefAt w R G nowG
  ne : R ≠ B
  own : v.ownBlock ≠ some R
  bel : Below B w0 w
  ge : B ≤ R
theorem Hf.ltB {w0 w : World} {B R : Nat} {v : Value} {F G : Ft} {now nowG : Int} (h : Hf w0 B v R F now G nowG w) : B ≤ w.heap.size := Nat.le_of_lt h.bell.lt
theorem Hf.next {w0 w w' : World} {B R : Nat} {v : Value} {F G : Ft} {now nowG : Int} (h : Hf w0 B v R F now G nowG w) (hb : Below w.heap.size w w') : Hf w0 B v R F now G nowG w' :=
  ⟨h.bell.next hb, h.ref.keep (hb.block R h.ref.lt), h.ne, h.own, h.bel.trans (hb.mono h.ltB), h.ge⟩
theorem Hf.moved {w0 w w' : World} {B R : Nat} {v v' : Value} {F F' G : Ft} {now now' nowG : Int} (h : Hf w0 B v R F now G nowG w) (hs : BelSt B w' B v' F' now') (hm : Moved B v v' w w') : Hf w0 B v' R F' now' G nowG w' :=
  ⟨hs, h.ref.keep (hm.block R h.ref.lt h.ne h.own), h.ne, fun e => by rcases hm.own R e with e | e; exact h.own e; have := h.ref.lt; omega, h.bel.trans (h.bell.bel hm (Nat.le_refl _)), h.ge⟩
theorem Hf.movedR {w0 w w' : World} {B R : Nat} {v : Value} {F G G' : Ft} {now nowG nowG' : Int} (h : Hf w0 B v R F now G nowG w) (hs : RefAt w' R G' nowG') (hm : MovR R w w') : Hf w0 B v R F now G' nowG' w' := by
  refine ⟨?_, hs, h.ne, h.own, h.bel.trans ⟨hm.os, hm.tape, hm.output, hm.size, fun k hk => hm.block k (by have := h.ltB; omega) (by have := h.ge; omega) (fun e => by cases e)⟩, h.ge⟩
  obtain ⟨l, h1, h2, h3⟩ := h.bell
  exact ⟨l, h1.keep (hm.block B h1.lt (Ne.symm h.ne) (fun e => by cases e)) (fun k hk => hm.block k (h1.own.lt k hk).2 (fun e => h.own (by rw [← e]; exact hk)) (fun e => by cases e)), h2, h3⟩
/-- Both in the same state, in good order. -/
structure Tb (w0 : World) (B : Nat) (v : Value) (R : Nat) (F : Ft) (now : Int) (w : World) : Prop where
  two : Hf w0 B v R F now F now w
  n0 : 0 ≤ now
  n1 : now ≤ 1099511627776
  pos : Pos F
theorem Tb.next {w0 w w' : World} {B R : Nat} {v : Value} {F : Ft} {now : Int} (h : Tb w0 B v R F now w) (hb : Below w.heap.size w w') : Tb w0 B v R F now w' := ⟨h.two.next hb, h.n0, h.n1, h.pos⟩
/-- What a step on both leaves of another block. -/
def Free (B : Nat) (v : Value) (R : Nat) (w w' : World) : Prop := ∀ k o, k < w.heap.size → k ≠ B → k ≠ R → v.ownBlock ≠ some k → w.heap[k]? = some o → w'.heap[k]? = some o
theorem Free.of {B R : Nat} {v v' : Value} {w w1 w2 w3 : World} (hb : Below w.heap.size w w1) (hm : Moved B v v' w1 w2) (hr : MovR R w2 w3) : Free B v R w w3 := fun k o hk h1 h2 h3 ho => by
  have a := (hb.block k hk).trans ho
  have b := hm.far (Nat.lt_of_lt_of_le hk hb.size) h1 h3 a
  exact hr.far (Array.getElem?_eq_some_iff.1 b).1 h2 (fun e => by cases e) b
theorem Free.below {B R : Nat} {v : Value} {w w1 w2 : World} (h : Free B v R w w1) (hb : Below w1.heap.size w1 w2) : Free B v R w w2 := fun k o hk h1 h2 h3 ho => by
  have a := h k o hk h1 h2 h3 ho
  exact (hb.block k (Array.getElem?_eq_some_iff.1 a).1).trans a

theorem set_both {B R : Nat} {F : Ft} {now : Int} (hp : Pos F) (n0 : 0 ≤ now) (n1 : now ≤ 1099511627776) (n s : Int) : ∃ E F', Pos F' ∧
    (∀ W v, BelSt B W B v F now → Calls Try.prog 34 #[.pointer (some ⟨B, 0, none⟩), .int .i64 n, .int .i64 s] W fun e W' => e = .returned (.int .i64 E) ∧ ∃ v', BelSt B W' B v' F' now ∧ Moved B v v' W W') ∧
    (∀ W, RefAt W R F now → Calls Try.prog 37 #[.pointer (some ⟨R, 0, none⟩), .int .i64 n, .int .i64 s] W fun e W' => e = .returned (.int .i64 E) ∧ RefAt W' R F' now ∧ MovR R W W') := by
  by_cases hb : nameB n = false ∨ nameB n = true ∧ (s < 1 ∨ 1 ≤ s ∧ 4096 < s)
  · refine ⟨1, F, hp, fun W v hW => (Set_bad _ n s W hb).mono ?_, fun W hW => (rSet_bad R n s W hb).mono ?_⟩
    · rintro e W' ⟨rfl, rfl⟩; exact ⟨rfl, v, hW, Moved.refl _ _ _⟩
    · rintro e W' ⟨rfl, rfl⟩; exact ⟨rfl, hW, Moved.refl _ _ _⟩
  · have hn : nameB n = true := by
      cases h : nameB n with
      | true => rfl
      | false => exact absurd (.inl h) hb
    have hs : 1 ≤ s ∧ s ≤ 4096 := by
      by_cases h : s < 1 ∨ 1 ≤ s ∧ 4096 < s
      · exact absurd (.inr ⟨hn, h⟩) hb
      · omega
    have hnn := nameB_true hn
    obtain ⟨m, rfl⟩ : ∃ m : Nat, n = m := Int.eq_ofNat_of_zero_le hnn.1
    exact ⟨0, upd F m (some (now + s, s)), hp.upd (by omega) hnn hs, fun W v hW => Set_ok hW m s hn hs.1 hs.2 n0 n1, fun W hW => rSet_ok hW m s (by omega) hs.1 hs.2 n0 n1⟩
theorem off_both {B R : Nat} {F : Ft} {now : Int} (hp : Pos F) (n : Int) : ∃ x E F', Pos F' ∧
    (∀ W v, BelSt B W B v F now → Calls Try.prog 38 #[.pointer (some ⟨B, 0, none⟩), .int .i64 n] W fun e W' => e = .returned (.tuple #[.bool x, .int .i64 E]) ∧ ∃ v', BelSt B W' B v' F' now ∧ Moved B v v' W W') ∧
    (∀ W, RefAt W R F now → Calls Try.prog 39 #[.pointer (some ⟨R, 0, none⟩), .int .i64 n] W fun e W' => e = .returned (.tuple #[.bool x, .int .i64 E]) ∧ RefAt W' R F' now ∧ MovR R W W') := by
  cases hb : nameB n with
  | false =>
    refine ⟨false, 1, F, hp, fun W v hW => (Off_bad _ n W hb).mono ?_, fun W hW => (rOff_bad R n W hb).mono ?_⟩
    · rintro e W' ⟨rfl, rfl⟩; exact ⟨rfl, v, hW, Moved.refl _ _ _⟩
    · rintro e W' ⟨rfl, rfl⟩; exact ⟨rfl, hW, Moved.refl _ _ _⟩
  | true =>
    have hnn := nameB_true hb
    obtain ⟨m, rfl⟩ : ∃ m : Nat, n = m := Int.eq_ofNat_of_zero_le hnn.1
    exact ⟨(F m).isSome, 0, upd F m none, hp.off _, fun W v hW => Off_ok hW m hb, fun W hW => rOff_ok hW hp m (by omega)⟩
theorem double_both {B R : Nat} {F : Ft} {now : Int} (hp : Pos F) (n0 : 0 ≤ now) (n1 : now ≤ 1099511627776) (n : Int) : ∃ x E F', Pos F' ∧
    (∀ W v, BelSt B W B v F now → Calls Try.prog 40 #[.pointer (some ⟨B, 0, none⟩), .int .i64 n] W fun e W' => e = .returned (.tuple #[.int .i64 x, .int .i64 E]) ∧ ∃ v', BelSt B W' B v' F' now ∧ Moved B v v' W W') ∧
    (∀ W, RefAt W R F now → Calls Try.prog 41 #[.pointer (some ⟨R, 0, none⟩), .int .i64 n] W fun e W' => e = .returned (.tuple #[.int .i64 x, .int .i64 E]) ∧ RefAt W' R F' now ∧ MovR R W W') := by
  cases hb : nameB n with
  | false =>
    refine ⟨0, 1, F, hp, fun W v hW => (Double_bad _ n W hb).mono ?_, fun W hW => (rDouble_bad R n W hb).mono ?_⟩
    · rintro e W' ⟨rfl, rfl⟩; exact ⟨rfl, v, hW, Moved.refl _ _ _⟩
    · rintro e W' ⟨rfl, rfl⟩; exact ⟨rfl, hW, Moved.refl _ _ _⟩
  | true =>
    have hnn := nameB_true hb
    obtain ⟨m, rfl⟩ : ∃ m : Nat, n = m := Int.eq_ofNat_of_zero_le hnn.1
    cases hF : F m with
    | none =>
      refine ⟨0, 6, F, hp, fun W v hW => (Double_no hW m hb hF).mono ?_, fun W hW => (rDouble_no hW m (by omega) hF).mono ?_⟩
      · rintro e W' ⟨rfl, rfl⟩; exact ⟨rfl, v, hW, Moved.refl _ _ _⟩
      · rintro e W' ⟨rfl, rfl⟩; exact ⟨rfl, hW, Moved.refl _ _ _⟩
    | some y =>
      obtain ⟨d, s⟩ := y
      have hpp := hp _ _ _ hF
      have ht : 1 ≤ twice s ∧ twice s ≤ 4096 := by unfold twice; split <;> omega
      exact ⟨twice s, 0, upd F m (some (now + twice s, twice s)), hp.upd (by omega) hnn ht, fun W v hW => Double_ok hW m d s hb hF n0 n1, fun W hW => rDouble_ok hW hp m (by omega) d s hF n0 n1⟩
theorem tick_both {B R : Nat} {F : Ft} {now : Int} (hp : Pos F) (n0 : 0 ≤ now) (n1 : now ≤ 1099511627776) (b : Int) : ∃ (E : Int) (F' : Ft) (now' : Int) (Z : List Tm → Prop), Pos F' ∧ 0 ≤ now' ∧ now' ≤ 1099511627776 ∧ (∀ P Q, Z P → Z Q → P = Q) ∧ (∀ P, Z P → P.length ≤ 16) ∧
    (∀ W v, BelSt B W B v F now → Calls Try.prog 35 #[.pointer (some ⟨B, 0, none⟩), .int .i64 b] W fun e W' => ∃ u P v', e = .returned (.tuple #[u, .int .i64 E]) ∧ Z P ∧ W'.ownsRow W.heap.size 3 1 u P.length (mcs P) ∧ BelSt B W' B v' F' now' ∧ Moved B v v' W W') ∧
    (∀ W, RefAt W R F now → Calls Try.prog 42 #[.pointer (some ⟨R, 0, none⟩), .int .i64 b] W fun e W' => ∃ u P, e = .returned (.tuple #[u, .int .i64 E]) ∧ Z P ∧ W'.ownsRow W.heap.size 3 1 u P.length (mcs P) ∧ RefAt W' R F' now' ∧ MovR R W W') := by
  have hz : (∀ P Q : List Tm, P = [] → Q = [] → P = Q) ∧ ∀ P : List Tm, P = [] → P.length ≤ 16 := ⟨fun P Q h1 h2 => h1.trans h2.symm, fun P h => by rw [h]; exact Nat.zero_le _⟩
  by_cases hb : b < 0 ∨ 0 ≤ b ∧ 4096 < b
  · refine ⟨1, F, now, fun P => P = [], hp, n0, n1, hz.1, hz.2, fun W v hW => (Tick_bad _ b W hb).mono ?_, fun W hW => (rTick_bad R b W hb).mono ?_⟩
    · rintro e W' ⟨rfl, rfl⟩; exact ⟨_, [], v, rfl, rfl, World.ownsRow_nil _ _ _ _, hW, Moved.refl _ _ _⟩
    · rintro e W' ⟨rfl, rfl⟩; exact ⟨_, [], rfl, rfl, World.ownsRow_nil _ _ _ _, hW, Moved.refl _ _ _⟩
  · have h1 : 0 ≤ b := by omega
    have h2 : b ≤ 4096 := by omega
    by_cases hl : 1099511627776 < now + b
    · refine ⟨2, F, now, fun P => P = [], hp, n0, n1, hz.1, hz.2, fun W v hW => (Tick_long hW b h1 h2 n0 n1 hl).mono ?_, fun W hW => (rTick_long hW b h1 h2 hl).mono ?_⟩
      · rintro e W' ⟨rfl, rfl⟩; exact ⟨_, [], v, rfl, rfl, World.ownsRow_nil _ _ _ _, hW, Moved.refl _ _ _⟩
      · rintro e W' ⟨rfl, rfl⟩; exact ⟨_, [], rfl, rfl, World.ownsRow_nil _ _ _ _, hW, Moved.refl _ _ _⟩
    · refine ⟨0, late F (now + b), now + b, Rings F (now + b), hp.late _, by omega, by omega, fun P Q h3 h4 => h3.eq h4, fun P h3 => few_of h3.sort (fun n d s hq => ((h3.mem n d s).1 hq).1) hp, fun W v hW => (Tick_ok hW b h1 h2 n0 (by omega)).mono ?_, fun W hW => (rTick_ok hW hp b h1 h2 n0 (by omega)).mono ?_⟩
      · rintro e W' ⟨u, P, v', rfl, ho, hr, hs, hm⟩; exact ⟨u, P, v', rfl, hr, ho, hs, hm⟩
      · rintro e W' ⟨u, P, rfl, ho, hr, hs, hm⟩; exact ⟨u, P, rfl, hr, ho, hs, hm⟩
end Go.Proofs.Ytemmnojcickcpaa
