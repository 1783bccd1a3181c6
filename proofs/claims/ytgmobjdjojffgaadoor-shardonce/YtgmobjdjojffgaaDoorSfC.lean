/- A shard beside the steps that were done: what each act leaves. -/
import Derived.Test.YtgmobjdjojffgaaDoorSfB
namespace Go.Proofs.YtgmobjdjojffgaaDoor
open Go.RowKit
attribute [local go_sem ↓] Go.wp_at_zero Go.wp_at_succ

theorem chk_range (kind : Int) (k v o : List UInt8) : 0 ≤ chk kind k v o ∧ chk kind k v o ≤ 999 := by
  unfold chk
  split
  · decide
  · split
    · decide
    · split
      · decide
      · split <;> decide
theorem do_bounds {l : List Rw} (h : Ok l) (kind : Int) (k v o : List UInt8) : 0 ≤ (doR l kind k v o).2.1 ∧ (doR l kind k v o).2.1 ≤ 999 ∧ (doR l kind k v o).1.length ≤ 64 := by
  unfold doR
  split
  · obtain ⟨a, b⟩ := chk_range kind k v o
    exact ⟨a, b, by simp⟩
  · rename_i hc
    have hc0 : chk kind k v o = 0 := by simpa using hc
    obtain ⟨_, _, _, hv, _⟩ := chk_zero hc0
    have hv' : v.length ≤ 64 := by simpa [isV] using hv
    show 0 ≤ (tells (val? l k) l.length kind v o).2 ∧ (tells (val? l k) l.length kind v o).2 ≤ 999 ∧ (tells (val? l k) l.length kind v o).1.length ≤ 64
    cases hh : val? l k with
    | none =>
      unfold tells
      simp only
      split
      · exact ⟨by decide, by decide, by simp⟩
      · split
        · exact ⟨by decide, by decide, by simp⟩
        · refine ⟨Int.le_refl 0, (by show (0 : Int) ≤ 999; decide), ?_⟩
          show (if kind = 2 then [] else v).length ≤ 64
          split
          · simp
          · exact hv'
    | some u =>
      have hu : u.length ≤ 64 := by
        have := (h.row _ (val_mem hh)).2
        simpa [isV] using this
      unfold tells
      simp only
      split
      · split
        · exact ⟨by decide, by decide, by simp⟩
        · rename_i hlen
          exact ⟨Int.le_refl 0, (by show (0 : Int) ≤ 999; decide), by show (u ++ v).length ≤ 64; omega⟩
      · split
        · exact ⟨by decide, by decide, by simp⟩
        · exact ⟨Int.le_refl 0, (by show (0 : Int) ≤ 999; decide), hu⟩
theorem okS_done {s : Sh} (h : OkS s) {n : Nat} (hn : n < 8) {number : Int} (h1 : 1 ≤ number) (h2 : number ≤ 1099511627776) (kind : Int) (k v o : List UInt8) : OkS (doneS s n number kind k v o) := by
  obtain ⟨a, b, c⟩ := do_bounds h.l kind k v o
  exact ⟨h.c.upd hn ⟨by show 0 ≤ number; omega, h2, a, b, c, fun e => by have e' : number = 0 := e; omega⟩, h.l.do kind k v o, by show (0 : Int) ≤ 1; decide, by show (1 : Int) ≤ 3; decide⟩
def dcs (D : List St8) : List Value := D.flatMap St8.cells
theorem dcs_append (a b : List St8) : dcs (a ++ b) = dcs a ++ dcs b := by simp [dcs]
/-- Blocks that stay. -/
abbrev Bl := Nat × Obj
/-- A Serving shard, beside the steps that were done, and blocks that stay. -/
structure On (w W : World) (B : Nat) (s : Sh) (D : List St8) (u : Value) (P : List Bl) : Prop where
  at_ : ∃ T v, ShAt W B s T v ∧ w.heap.size ≤ T ∧ (∀ k, u.ownBlock = some k → k ≠ B ∧ k ≠ T ∧ v.ownBlock ≠ some k) ∧ ∀ x ∈ P, x.1 ≠ B ∧ x.1 ≠ T ∧ v.ownBlock ≠ some x.1
  ge : w.heap.size ≤ B
  st : s.st = 1
  ok : OkS s
  own : W.ownsRow w.heap.size 44 8 u D.length (dcs D)
  below : Below w.heap.size w W
  num : ∀ d ∈ D, ∃ n : Nat, n < 8 ∧ d.client = n ∧ d.number ≤ (s.c n).1
  kept : ∀ x ∈ P, W.heap[x.1]? = some x.2 ∧ u.ownBlock ≠ some x.1
theorem On.klt {w W : World} {B : Nat} {s : Sh} {D : List St8} {u : Value} {P : List Bl} (h : On w W B s D u P) {x : Bl} (hx : x ∈ P) : x.1 < W.heap.size := (Array.getElem?_eq_some_iff.1 (h.kept x hx).1).1
theorem On.new {w W W' : World} {B : Nat} {s : Sh} {D : List St8} {u : Value} {P : List Bl} (h : On w W B s D u P) (hb : Below W.heap.size W W') : On w W' B s D u P := by
  obtain ⟨T, v, g1, g2, g3, g4⟩ := h.at_
  exact ⟨⟨T, v, g1.on hb, g2, g3, g4⟩, h.ge, h.st, h.ok, own_kept h.own hb, h.below.trans (hb.mono h.below.size), h.num, fun x hx => ⟨(hb.block _ (h.klt hx)).trans (h.kept x hx).1, (h.kept x hx).2⟩⟩
/-- A new block stays. -/
theorem On.alloc {w W : World} {B : Nat} {s : Sh} {D : List St8} {u : Value} {P : List Bl} (h : On w W B s D u P) (ob : Obj) : On w (W.alloc ob) B s D u ((W.heap.size, ob) :: P) := by
  have hb : Below W.heap.size W (W.alloc ob) := (Below.refl _ _).alloc (Nat.le_refl _) _
  have h2 := h.new hb
  obtain ⟨T, v, g1, g2, g3, g4⟩ := h.at_
  have hT := (g1.tab (by rw [h.st]; rfl)).1.lt
  have hv : ∀ k, v.ownBlock = some k → k < W.heap.size := fun k e => (g1.tab (by rw [h.st]; rfl)).1.rows.lt k e
  have hB := g1.lt
  refine ⟨⟨T, v, g1.on hb, g2, g3, fun x hx => ?_⟩, h2.ge, h2.st, h2.ok, h2.own, h2.below, h2.num, fun x hx => ?_⟩
  · rcases List.mem_cons.1 hx with rfl | hx
    · exact ⟨by show W.heap.size ≠ B; omega, by show W.heap.size ≠ T; omega, fun e => by have := hv _ e; exact absurd this (Nat.lt_irrefl _)⟩
    · exact g4 x hx
  · rcases List.mem_cons.1 hx with rfl | hx
    · exact ⟨heap_alloc_new W ob, fun e => by have := (h.own.lt _ e).2; exact absurd this (Nat.lt_irrefl _)⟩
    · exact h2.kept x hx
theorem On.less {w W : World} {B : Nat} {s : Sh} {D : List St8} {u : Value} {P Q : List Bl} (h : On w W B s D u P) (hQ : ∀ x ∈ Q, x ∈ P) : On w W B s D u Q := by
  obtain ⟨T, v, g1, g2, g3, g4⟩ := h.at_
  exact ⟨⟨T, v, g1, g2, g3, fun x hx => g4 x (hQ x hx)⟩, h.ge, h.st, h.ok, h.own, h.below, h.num, fun x hx => h.kept x (hQ x hx)⟩
theorem On.content {w W : World} {B : Nat} {s : Sh} {D : List St8} {u : Value} {P : List Bl} (he : EnvP w) (h : On w W B s D u P) : Calls Tryd.prog 19 #[.pointer (some ⟨B, 0, none⟩)] W fun e W' => e = .returned (.string (bs (contS s))) ∧ On w W' B s D u P := by
  obtain ⟨T, v, g1, _⟩ := h.at_
  refine (Content_any (he.next h.below) g1 h.ok.c).mono ?_
  rintro e W' ⟨rfl, hb⟩
  exact ⟨rfl, h.new hb⟩
theorem On.do_bad {w W : World} {B : Nat} {s : Sh} {D : List St8} {u : Value} {P : List Bl} (h : On w W B s D u P) (client number kind : Int) (k vl o : List UInt8) (hn : okN client number = false) : Calls Tryd.prog 20 #[.pointer (some ⟨B, 0, none⟩), .int .i64 client, .int .i64 number, opV kind k vl o] W fun e W' => e = .returned (ansV 0 [] false 1) ∧ On w W' B s D u P := by
  refine (sDo_bad _ client number kind k vl o W hn).mono ?_
  rintro e W' ⟨rfl, hb⟩
  exact ⟨rfl, h.new hb⟩
theorem On.do_old {w W : World} {B : Nat} {s : Sh} {D : List St8} {u : Value} {P : List Bl} (h : On w W B s D u P) (n : Nat) (number kind : Int) (k vl o : List UInt8) (hn : okN n number = true) (hl : number < (s.c n).1) : Calls Tryd.prog 20 #[.pointer (some ⟨B, 0, none⟩), .int .i64 n, .int .i64 number, opV kind k vl o] W fun e W' => e = .returned (ansV 0 [] false 6) ∧ On w W' B s D u P := by
  obtain ⟨T, v, g1, _⟩ := h.at_
  refine (sDo_old g1 h.st n number kind k vl o hn hl).mono ?_
  rintro e W' ⟨rfl, hb⟩
  exact ⟨rfl, h.new hb⟩
theorem On.do_same {w W : World} {B : Nat} {s : Sh} {D : List St8} {u : Value} {P : List Bl} (h : On w W B s D u P) (n : Nat) (number kind : Int) (k vl o : List UInt8) (hn : okN n number = true) (hl : number = (s.c n).1) : Calls Tryd.prog 20 #[.pointer (some ⟨B, 0, none⟩), .int .i64 n, .int .i64 number, opV kind k vl o] W fun e W' => e = .returned (ansV (s.c n).2.1 (s.c n).2.2 false 0) ∧ On w W' B s D u P := by
  obtain ⟨T, v, g1, _⟩ := h.at_
  refine (sDo_same g1 h.st n number kind k vl o hn hl).mono ?_
  rintro e W' ⟨rfl, hb⟩
  exact ⟨rfl, h.new hb⟩
theorem own_mv2 {w W : World} {base n B T : Nat} {e : TypeId} {z : Nat} {v : Value} {xs : List Value} (h : w.ownsRow base e z v n xs) (hm : Mv2 B T w W) (hk : ∀ k, v.ownBlock = some k → k ≠ B ∧ k ≠ T) : W.ownsRow base e z v n xs := by
  have hlt := fun k e => (h.lt k e).2
  obtain ⟨q1, q2⟩ := h
  rcases q2 with q2 | ⟨g, cap, cur, rfl, q3, q4, q5⟩
  · exact ⟨q1, .inl q2⟩
  · exact ⟨q1, .inr ⟨g, cap, cur, rfl, q3, (hm.block g (hlt g rfl) (hk g rfl).1 (hk g rfl).2).trans q4, q5⟩⟩
theorem On.do_new {w W : World} {B : Nat} {s : Sh} {D : List St8} {u : Value} {P : List Bl} (h : On w W B s D u P) (n : Nat) (number kind : Int) (k vl o : List UInt8) (hn : okN n number = true) (hl : (s.c n).1 < number) : Calls Tryd.prog 20 #[.pointer (some ⟨B, 0, none⟩), .int .i64 n, .int .i64 number, opV kind k vl o] W fun e W' => e = .returned (ansV (doR s.l kind k vl o).2.1 (doR s.l kind k vl o).1 true 0) ∧ On w W' B (doneS s n number kind k vl o) D u P := by
  obtain ⟨T, v, g1, g2, g3, g4⟩ := h.at_
  have hN := hn
  rw [okN, Bool.and_eq_true] at hN
  have i1 := inR_t hN.1
  have i2 := inR_t hN.2
  refine (sDo_new g1 h.st n number kind k vl o hn hl).mono ?_
  rintro e W' ⟨rfl, v', k1, k2, k3⟩
  refine ⟨rfl, ⟨T, v', k1, g2, fun q e => ?_, fun x hx => ?_⟩, h.ge, rfl, okS_done h.ok (by omega) i2.1 i2.2 kind k vl o, own_mv2 h.own k3 (fun q e => ⟨(g3 q e).1, (g3 q e).2.1⟩), h.below.trans (k3.below h.ge g2 h.below.size), fun d hd => ?_, fun x hx => ⟨(k3.block _ (h.klt hx) (g4 x hx).1 (g4 x hx).2.1).trans (h.kept x hx).1, (h.kept x hx).2⟩⟩
  · obtain ⟨a, b, c⟩ := g3 q e
    refine ⟨a, b, fun e2 => ?_⟩
    rcases k2 q e2 with e3 | e3
    · exact c e3
    · have := (h.own.lt q e).2
      omega
  · obtain ⟨a, b, c⟩ := g4 x hx
    refine ⟨a, b, fun e2 => ?_⟩
    rcases k2 _ e2 with e3 | e3
    · exact c e3
    · have := h.klt hx
      omega
  · obtain ⟨m, m1, m2, m3⟩ := h.num d hd
    refine ⟨m, m1, m2, ?_⟩
    show d.number ≤ (updC s.c n _ m).1
    by_cases e : m = n
    · subst e
      rw [updC_same]
      show d.number ≤ number
      omega
    · rw [updC_other _ e]
      exact m3
/-- One step more was done. -/
theorem On.push {w W W' : World} {B : Nat} {s : Sh} {D : List St8} {u : Value} {P : List Bl} (h : On w W B s D u P) {d : St8} {g cap : Nat} (ho : W'.ownsRow w.heap.size 44 8 (.slice (some ⟨g, 0, none⟩) (D.length + 1) cap) (D.length + 1) (dcs D ++ d.cells)) (hg : W.grownBy W' u.ownBlock) (hat : u.ownBlock = some g ∨ g = W.heap.size) (hd : ∃ n : Nat, n < 8 ∧ d.client = n ∧ d.number ≤ (s.c n).1) : On w W' B s (D ++ [d]) (.slice (some ⟨g, 0, none⟩) (D.length + 1) cap) P := by
  obtain ⟨T, v, g1, g2, g3, g4⟩ := h.at_
  have hc1 : hasC s.st = true := by rw [h.st]; rfl
  have hT := (g1.tab hc1).1.lt
  have hv : ∀ k, v.ownBlock = some k → k < W.heap.size := fun k e => (g1.tab hc1).1.rows.lt k e
  have hB := g1.lt
  have hne : ∀ k, u.ownBlock = some k → k ≠ B ∧ k ≠ T ∧ v.ownBlock ≠ some k := g3
  have hgs := hg.size
  refine ⟨⟨T, v, g1.keep hgs (hg.block B hB (fun e => (g3 B e.symm).1 rfl)) (fun _ => ⟨hg.block T hT (fun e => (g3 T e.symm).2.1 rfl), fun k e hk => hg.block k hk (fun e2 => (g3 k e2.symm).2.2 e)⟩), g2, fun k e => ?_, g4⟩, h.ge, h.st, h.ok, ?_, h.below.grown hg h.below.size (fun k e => (h.own.lt k e).1), fun x hx => ?_, fun x hx => ⟨(hg.block _ (h.klt hx) (fun e => (h.kept x hx).2 e.symm)).trans (h.kept x hx).1, fun e => ?_⟩⟩
  · have e2 : g = k := by simpa [Value.ownBlock] using e
    subst e2
    rcases hat with e3 | e3
    · exact g3 _ e3
    · subst e3
      exact ⟨by omega, by omega, fun e4 => absurd (hv _ e4) (Nat.lt_irrefl _)⟩
  · rw [dcs_append, List.length_append, show dcs [d] = d.cells by simp [dcs]]
    exact ho
  · rcases List.mem_append.1 hx with hx | hx
    · exact h.num x hx
    · rw [List.mem_singleton.1 hx]
      exact hd
  · have e2 : g = x.1 := by simpa [Value.ownBlock] using e
    rcases hat with e3 | e3
    · exact (h.kept x hx).2 (by rw [e3, e2])
    · have := h.klt hx
      omega
end Go.Proofs.YtgmobjdjojffgaaDoor
