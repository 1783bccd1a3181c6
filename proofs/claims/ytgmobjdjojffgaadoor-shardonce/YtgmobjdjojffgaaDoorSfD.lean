/- A shard that moves: it is frozen, and another one holds the same; the round of one that moves, and the loop over what was done. -/
import Derived.Test.YtgmobjdjojffgaaDoorSfC
namespace Go.Proofs.YtgmobjdjojffgaaDoor
open Go.RowKit
attribute [local go_sem ↓] Go.wp_at_zero Go.wp_at_succ

/-- It is frozen. -/
def Fz (w W1 : World) (B : Nat) (s : Sh) (D : List St8) (u : Value) : Prop := ∃ T v, ShAt W1 B ⟨2, s.l, s.c⟩ T v ∧ W1.ownsRow w.heap.size 44 8 u D.length (dcs D) ∧ Below w.heap.size w W1
theorem On.freeze {w W : World} {B : Nat} {s : Sh} {D : List St8} {u : Value} {P : List Bl} (h : On w W B s D u P) : Calls Tryd.prog 16 #[.pointer (some ⟨B, 0, none⟩)] W fun e W' => e = .returned (.int .i64 0) ∧ Fz w W' B s D u := by
  obtain ⟨T, v, g1, g2, g3, _⟩ := h.at_
  refine (Freeze_ok g1 h.st).mono ?_
  rintro e W' ⟨rfl, h2, hm⟩
  exact ⟨rfl, T, v, h2, own_mv2 h.own (Mv2.of_mv hm T) (fun q e => ⟨(g3 q e).1, (g3 q e).2.1⟩), h.below.trans (hm.below h.ge h.below.size)⟩
def M0 (W1 W : World) : Prop := ShAt W W1.heap.size sh0 0 (.slice none 0 0) ∧ Below W1.heap.size W1 W
def M3 (W1 W : World) : Prop := ShAt W W1.heap.size (shO 3) 0 (.slice none 0 0) ∧ Below W1.heap.size W1 W
def M1 (w W1 W : World) (s : Sh) (D : List St8) (u : Value) : Prop := On w W W1.heap.size ⟨1, s.l, s.c⟩ D u [] ∧ Below W1.heap.size W1 W
theorem fz_new (W1 : World) : Calls Tryd.prog 13 #[] W1 fun e W' => e = .returned (.pointer (some ⟨W1.heap.size, 0, none⟩)) ∧ M0 W1 W' := by
  refine (sNew_any W1).mono ?_
  rintro e W' ⟨rfl, h1, h2, _⟩
  exact ⟨rfl, h1, h2⟩
theorem m0_pull {W1 W : World} (h : M0 W1 W) : Calls Tryd.prog 17 #[.pointer (some ⟨W1.heap.size, 0, none⟩)] W fun e W' => e = .returned (.int .i64 0) ∧ M3 W1 W' := by
  refine (Pull_ok h.1 rfl).mono ?_
  rintro e W' ⟨rfl, h1, hm⟩
  exact ⟨rfl, h1, h.2.trans (hm.below (Nat.le_refl _) h.2.size)⟩
theorem fz_content {w W1 W : World} {B : Nat} {s : Sh} {D : List St8} {u : Value} (he : EnvP w) (hf : Fz w W1 B s D u) (hok : OkS s) (hb : Below W1.heap.size W1 W) : Calls Tryd.prog 19 #[.pointer (some ⟨B, 0, none⟩)] W fun e W' => e = .returned (.string (bs (contT s.l s.c))) ∧ Below W.heap.size W W' := by
  obtain ⟨T, v, h1, _, h3⟩ := hf
  exact Content_any ((he.next h3).next hb) (h1.on hb) hok.c
theorem m3_install {w W1 W : World} {B : Nat} {s : Sh} {D : List St8} {u : Value} (he : Env w) (hf : Fz w W1 B s D u) (hok : OkS s) (hnum : ∀ d ∈ D, ∃ n : Nat, n < 8 ∧ d.client = n ∧ d.number ≤ (s.c n).1) (h : M3 W1 W) : Calls Tryd.prog 18 #[.pointer (some ⟨W1.heap.size, 0, none⟩), .string (bs (contT s.l s.c))] W fun e W' => e = .returned (.int .i64 0) ∧ M1 w W1 W' s D u := by
  obtain ⟨T, v, h1, ho, h3⟩ := hf
  have hcl := cont_len hok.l hok.c
  refine (Install_ok ((he.next h3).next h.2) h.1 rfl (contT s.l s.c) (by omega) s.l s.c (load_cont hok.l hok.c)).mono ?_
  rintro e W' ⟨rfl, T', v', g1, g2, g3, hm⟩
  have hb : Below W1.heap.size W1 W' := h.2.trans (hm.below (Nat.le_refl _) h.2.size)
  have hlt := h.2.size
  refine ⟨rfl, ⟨⟨T', v', g1, by have := h3.size; omega, fun k e => ?_, fun x hx => by cases hx⟩, h3.size, rfl, ⟨hok.c, hok.l, by show (0 : Int) ≤ 1; decide, by show (1 : Int) ≤ 3; decide⟩, own_kept ho hb, h3.trans (hb.mono h3.size), hnum, fun x hx => by cases hx⟩, hb⟩
  have := (ho.lt k e).2
  exact ⟨by omega, by omega, fun e2 => by have := g3 k e2; omega⟩
theorem m1_content {w W1 W : World} {s : Sh} {D : List St8} {u : Value} (he : EnvP w) (h : M1 w W1 W s D u) : Calls Tryd.prog 19 #[.pointer (some ⟨W1.heap.size, 0, none⟩)] W fun e W' => e = .returned (.string (bs (contT s.l s.c))) ∧ M1 w W1 W' s D u := by
  obtain ⟨T, v, g1, _⟩ := h.1.at_
  refine (Content_any (he.next h.1.below) g1 h.1.ok.c).mono ?_
  rintro e W' ⟨rfl, hb⟩
  exact ⟨rfl, h.1.new hb, h.2.trans (hb.mono h.2.size)⟩
/-- What is held ahead of a round. -/
structure Rd (w wr : World) (l : List St8) (j B : Nat) (s : Sh) (D : List St8) (u : Value) : Prop where
  on : On w wr B s D u []
  len : D.length ≤ j
theorem three_cells (d : St8) : d.cells.toArray = #[.int .i64 d.op, .int .i64 d.client, .int .i64 d.number, .int .i64 d.x.kind, .string (bs d.x.k), .string (bs d.x.v), .string (bs d.x.o), .string (bs d.t)] := rfl
end Go.Proofs.YtgmobjdjojffgaaDoor
