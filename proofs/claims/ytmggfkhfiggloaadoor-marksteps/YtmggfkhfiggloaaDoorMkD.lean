/- Marks in memory; New, Of, textOf, Stable, walked. -/
import Derived.Test.YtmggfkhfiggloaaDoorMkC
namespace Go.Proofs.YtmggfkhfiggloaaDoor
open Go.RowKit
attribute [local go_sem ↓] Go.wp_at_zero Go.wp_at_succ

/-- A vote: its number, its state, its tag; of number 0 it is none. -/
abbrev Vt := Int × List UInt8 × List UInt8
/-- What marks have: the votes that count, the stable one's number, state and certificate. -/
structure St where
  V : Nat → Vt
  n : Int
  s : List UInt8
  t : List UInt8
  g : Int
  T : List Tg
def st0 : St := ⟨fun _ => (0, [], []), 0, [], [], 0, []⟩
/-- The votes' cells. -/
def VCells (cs : Array Value) (V : Nat → Vt) : Prop := ∀ i, i < 10 → cs[2 + i * 3]? = some (.int .i64 (V i).1) ∧ cs[2 + i * 3 + 1]? = some (.string (bs (V i).2.1)) ∧ cs[2 + i * 3 + 2]? = some (.string (bs (V i).2.2))
def SCells (cs : Array Value) (s : St) (cv : Value) : Prop := cs[32]? = some (.int .i64 s.n) ∧ cs[33]? = some (.string (bs s.s)) ∧ cs[34]? = some (.string (bs s.t)) ∧ cs[35]? = some (.int .i64 s.g) ∧ cs[36]? = some cv
/-- Marks of a group and f. -/
structure MarkAt (w : World) (B : Nat) (g : Int) (f : Nat) (s : St) (cv : Value) : Prop where
  blk : ∃ cs : Array Value, w.heap[B]? = some (.cells cs 89) ∧ cs.size = 37 ∧ cs[0]? = some (.int .i64 g) ∧ cs[1]? = some (.int .i64 f) ∧ VCells cs s.V ∧ SCells cs s cv
  f3 : f ≤ 3
  tags : Tp w cv s.T
  own : ∀ k, cv.ownBlock = some k → s.T ≠ [] → k ≠ B
  len : s.T.length * 24 ≤ 140737488355328
theorem MarkAt.lt {w : World} {B : Nat} {g : Int} {f : Nat} {s : St} {cv : Value} (h : MarkAt w B g f s cv) : B < w.heap.size := by
  obtain ⟨cs, h1, _⟩ := h.blk
  exact (Array.getElem?_eq_some_iff.1 h1).1
theorem MarkAt.moved {w w' : World} {B C : Nat} {g : Int} {f : Nat} {s : St} {cv : Value} (h : MarkAt w B g f s cv) (hm : Mv C w w') (hB : B ≠ C) (hC : ∀ k, cv.ownBlock = some k → s.T ≠ [] → k ≠ C) : MarkAt w' B g f s cv := by
  obtain ⟨cs, h1, h2⟩ := h.blk
  exact ⟨⟨cs, (hm.block B h.lt hB).trans h1, h2⟩, h.f3, h.tags.keep hm.size (fun k hk hT hlt => hm.block k hlt (hC k hk hT)), h.own, h.len⟩
theorem MarkAt.on {w w' : World} {B : Nat} {g : Int} {f : Nat} {s : St} {cv : Value} (h : MarkAt w B g f s cv) (hb : Below w.heap.size w w') : MarkAt w' B g f s cv := by
  obtain ⟨cs, h1, h2⟩ := h.blk
  exact ⟨⟨cs, (hb.block B h.lt).trans h1, h2⟩, h.f3, h.tags.on hb, h.own, h.len⟩
theorem MarkAt.c {w : World} {B : Nat} {g : Int} {f : Nat} {s : St} {cv : Value} (h : MarkAt w B g f s cv) : w.cell? ⟨B, 0, none⟩ = some (.int .i64 g) ∧ w.cell? ⟨B, 1, none⟩ = some (.int .i64 f) := by
  obtain ⟨cs, h1, _, h2, h3, _⟩ := h.blk
  exact ⟨cellB h1 0 _ h2, cellB h1 1 _ h3⟩
theorem MarkAt.cs {w : World} {B : Nat} {g : Int} {f : Nat} {s : St} {cv : Value} (h : MarkAt w B g f s cv) : w.cell? ⟨B, 32, none⟩ = some (.int .i64 s.n) ∧ w.cell? ⟨B, 33, none⟩ = some (.string (bs s.s)) ∧ w.cell? ⟨B, 34, none⟩ = some (.string (bs s.t)) ∧ w.cell? ⟨B, 35, none⟩ = some (.int .i64 s.g) ∧ w.cell? ⟨B, 36, none⟩ = some cv := by
  obtain ⟨cs, h1, _, _, _, _, a, b, c, d, e⟩ := h.blk
  exact ⟨cellB h1 _ _ a, cellB h1 _ _ b, cellB h1 _ _ c, cellB h1 _ _ d, cellB h1 _ _ e⟩
theorem MarkAt.cv {w : World} {B : Nat} {g : Int} {f : Nat} {s : St} {cv : Value} (h : MarkAt w B g f s cv) {i : Nat} (hi : i < 10) : w.cell? ⟨B, 2 + i * 3, none⟩ = some (.int .i64 (s.V i).1) ∧ w.cell? ⟨B, 2 + i * 3 + 1, none⟩ = some (.string (bs (s.V i).2.1)) ∧ w.cell? ⟨B, 2 + i * 3 + 2, none⟩ = some (.string (bs (s.V i).2.2)) := by
  obtain ⟨cs, h1, _, _, _, h2, _⟩ := h.blk
  obtain ⟨a, b, c⟩ := h2 i hi
  exact ⟨cellB h1 _ _ a, cellB h1 _ _ b, cellB h1 _ _ c⟩
theorem MarkAt.frozen {w : World} {B : Nat} {g : Int} {f : Nat} {s : St} {cv : Value} (h : MarkAt w B g f s cv) (j : Nat) : w.frozen? ⟨B, j, none⟩ = false := by
  obtain ⟨cs, h1, _⟩ := h.blk
  exact frozenB h1 j

/-- The zero marks' cells. -/
def Z37 : Array Value := #[.int .i64 0, .int .i64 0] ++ ((List.replicate 10 [Value.int .i64 0, .string ⟨#[]⟩, .string ⟨#[]⟩]).flatten.toArray) ++ #[.int .i64 0, .string ⟨#[]⟩, .string ⟨#[]⟩, .int .i64 0, .slice none 0 0]
theorem Tryd.info89 : (Tryd.prog.info? 89).map (fun i => (i.zero, i.size, i.bytes)) = some (some (.agg Z37), 37, 488) := by kernel_rfl
theorem Tryd.zero89 (w : World) : (zeroValue 89).run Tryd.prog w = .ok (.agg Z37) w := by
  obtain ⟨i, hi, hz, _⟩ := info_parts Tryd.info89
  simp [zeroValue, typeInfo, hi, hz]
theorem new_cells (g f : Value) : let cs := (Z37.setIfInBounds 0 g).setIfInBounds 1 f; cs.size = 37 ∧ cs[0]? = some g ∧ cs[1]? = some f ∧ VCells cs st0.V ∧ SCells cs st0 (.slice none 0 0) := by
  refine ⟨rfl, rfl, rfl, fun i hi => ?_, rfl, rfl, rfl, rfl, rfl⟩
  match i, hi with
  | 0, _ => exact ⟨rfl, rfl, rfl⟩
  | 1, _ => exact ⟨rfl, rfl, rfl⟩
  | 2, _ => exact ⟨rfl, rfl, rfl⟩
  | 3, _ => exact ⟨rfl, rfl, rfl⟩
  | 4, _ => exact ⟨rfl, rfl, rfl⟩
  | 5, _ => exact ⟨rfl, rfl, rfl⟩
  | 6, _ => exact ⟨rfl, rfl, rfl⟩
  | 7, _ => exact ⟨rfl, rfl, rfl⟩
  | 8, _ => exact ⟨rfl, rfl, rfl⟩
  | 9, _ => exact ⟨rfl, rfl, rfl⟩
  | n + 10, h => omega
set_option maxHeartbeats 1000000 in
theorem New_no {g f : Int} (h : (inR g 0 4 && inR f 0 3) = false) (w : World) : Calls Tryd.prog 13 #[.int .i64 g, .int .i64 f] w fun e W' => e = .returned (.tuple #[.pointer none, .int .i64 1]) ∧ W' = w := by
  cases h1 : inR g 0 4
  · clear h
    go_enter Tryd.func13, Tryd.ntmps13
    go_wp2_with (first | (go_at_call 25; refine (within_any _ _ _ _).mono ?_; rintro e w1 ⟨rfl, h9⟩; subst h9))
    exact bodyPost_ret (v := .tuple #[.pointer none, .int .i64 1]) (by simp [results, Tryd.f13, go_sem]) rfl ⟨rfl, rfl⟩
  · rw [h1] at h
    have h2 : inR f 0 3 = false := by simpa using h
    clear h
    go_enter Tryd.func13, Tryd.ntmps13
    go_wp2_with (first | (go_at_call 25; refine (within_any _ _ _ _).mono ?_; rintro e w1 ⟨rfl, h9⟩; subst h9))
    exact bodyPost_ret (v := .tuple #[.pointer none, .int .i64 1]) (by simp [results, Tryd.f13, go_sem]) rfl ⟨rfl, rfl⟩
set_option maxRecDepth 20000 in
set_option maxHeartbeats 2000000 in
theorem New_ok {g : Int} {f : Nat} (h1 : inR g 0 4 = true) (hf : f ≤ 3) (w : World) : Calls Tryd.prog 13 #[.int .i64 g, .int .i64 f] w fun e W' => e = .returned (.tuple #[.pointer (some ⟨w.heap.size, 0, none⟩), .int .i64 0]) ∧ MarkAt W' w.heap.size g f st0 (.slice none 0 0) ∧ Below w.heap.size w W' := by
  have h2 : inR (f : Int) 0 3 = true := by simp [inR]; omega
  have hz := Tryd.zero89
  have HC := new_cells (.int .i64 g) (.int .i64 f)
  obtain ⟨Z, hZ⟩ : ∃ Z, Z37 = Z := ⟨_, rfl⟩
  have hzs : Z.size = 37 := by rw [← hZ]; rfl
  have hne : ¬ Z = #[] := fun e => by rw [e] at hzs; cases hzs
  rw [hZ] at hz HC
  have HC' : Hid (_) := HC
  clear hZ HC
  go_enter Tryd.func13, Tryd.ntmps13
  go_wp2_with (first | (go_at_call 25; refine (within_any _ _ _ _).mono ?_; rintro e w1 ⟨rfl, h9⟩; subst h9))
  exact bodyPost_ret (v := .tuple #[.pointer (some ⟨w1.heap.size, 0, none⟩), .int .i64 0]) (by simp [results, Tryd.f13, go_sem]) rfl ⟨rfl, ⟨⟨_, heap_alloc_new _ _, HC'.out⟩, hf, Tp.nil _, (fun k hk => by cases hk), (by decide)⟩, (Below.refl _ w1).alloc (Nat.le_refl _) _⟩
theorem new_cases (g f : Int) : ((inR g 0 4 && inR f 0 3) = false) ∨ (inR g 0 4 = true ∧ ∃ f' : Nat, f = f' ∧ f' ≤ 3) := by
  cases h : inR g 0 4 && inR f 0 3
  · exact .inl rfl
  · simp at h
    have := inR_t h.2
    exact .inr ⟨h.1, f.toNat, by omega, by omega⟩

/-- The number of a replica's vote. -/
def ofN (s : St) (f : Nat) (no : Int) : Int := if inR no 0 (3 * (f : Int)) = true then (s.V no.toNat).1 else 0
theorem Of_nil (no : Int) (w : World) : Calls Tryd.prog 22 #[.pointer none, .int .i64 no] w fun e W' => e = .returned (.int .i64 0) ∧ W' = w := by
  go_enter Tryd.func22, Tryd.ntmps22
  go_wp2
  go_ret
  exact ⟨rfl, rfl⟩
set_option maxHeartbeats 1000000 in
theorem Of_any {w : World} {B : Nat} {g : Int} {f : Nat} {s : St} {cv : Value} (h : MarkAt w B g f s cv) (no : Int) : Calls Tryd.prog 22 #[.pointer (some ⟨B, 0, none⟩), .int .i64 no] w fun e W' => e = .returned (.int .i64 (ofN s f no)) ∧ W' = w := by
  have c1 := h.c.2
  have f3 : (f : Int) ≤ 3 := by have := h.f3; omega
  unfold ofN
  cases hr : inR no 0 (3 * (f : Int))
  · rw [if_neg (by decide)]
    clear h
    go_enter Tryd.func22, Tryd.ntmps22
    go_wp2_with (first | (go_at_call 25; refine (within_any _ _ _ _).mono ?_; rintro e w1 ⟨rfl, h9⟩; subst h9))
    go_ret
    exact ⟨rfl, rfl⟩
  · rw [if_pos rfl]
    obtain ⟨r0, r1⟩ := inR_t hr
    obtain ⟨i, rfl⟩ : ∃ i : Nat, no = i := ⟨no.toNat, by omega⟩
    rw [Int.toNat_natCast]
    have hc := (h.cv (i := i) (by omega)).1
    obtain ⟨x, hx⟩ : ∃ x, (s.V i).1 = x := ⟨_, rfl⟩
    rw [hx] at hc ⊢
    have i9 : (i : Int) < 10 := by omega
    clear h hx
    go_enter Tryd.func22, Tryd.ntmps22
    go_wp2_with (first | (go_at_call 25; refine (within_any _ _ _ _).mono ?_; rintro e w1 ⟨rfl, h9⟩; subst h9))
    go_ret
    exact ⟨rfl, rfl⟩
end Go.Proofs.YtmggfkhfiggloaaDoor
