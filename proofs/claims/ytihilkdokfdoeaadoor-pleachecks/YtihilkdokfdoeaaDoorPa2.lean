/- proof.Replay, walked. -/
import Derived.Test.YtihilkdokfdoeaaDoorPa1
import Derived.Laws.StructEq
namespace Go.Proofs.YtihilkdokfdoeaaDoor
section
open Go.RowKit
attribute [local go_sem ↓] Go.wp_at_zero Go.wp_at_succ

theorem owns_keep {w w' : World} {base n : Nat} {e : TypeId} {s : Nat} {v : Value} {xs : List Value} (h : w.ownsRow base e s v n xs) (hk : ∀ k, v.ownBlock = some k → w'.heap[k]? = w.heap[k]?) : w'.ownsRow base e s v n xs := by
  obtain ⟨hl, hr⟩ := h
  rcases hr with hr | ⟨g, cap, cur, rfl, hb, hh, hrest⟩
  · exact ⟨hl, .inl hr⟩
  · exact ⟨hl, .inr ⟨g, cap, cur, rfl, hb, (hk g rfl).trans hh, hrest⟩⟩
def tcs (b : Nat) : Array Value := #[.pointer (some ⟨b, 0, none⟩), .pointer (some ⟨b + 1, 0, none⟩), .pointer (some ⟨b + 2, 0, none⟩), .pointer (some ⟨b + 3, 0, none⟩)]
/-- In the midst of Replay: tables, their box, the answers so far. -/
structure RI (N b X : Nat) (w : World) (S : Ms) (V : Nat → Value) (x : Value) (n : Nat) (A : List An) (W : World) : Prop where
  m4 : M4 N W b S V
  row : W.ownsRow N 49 2 x n (A.flatMap acs)
  ap : ∀ q, x.ownBlock = some q → q ≠ X ∧ (∀ j, j < 4 → q ≠ b + j) ∧ ∀ i, i < 4 → (V i).ownBlock ≠ some q
  box : W.heap[X]? = some (.cells (tcs b) 129)
  xo : (∀ j, j < 4 → X ≠ b + j) ∧ ∀ i, i < 4 → (V i).ownBlock ≠ some X
  below : Below N w W
theorem RI.mid {N b X : Nat} {w : World} {S S' : Ms} {V V' : Nat → Value} {x : Value} {n : Nat} {A : List An} {W W2 W3 : World} (h : RI N b X w S V x n A W) (hN : N ≤ W.heap.size) (hb : Below W.heap.size W W2) (h4 : M4 N W3 b S' V') (hm : Mv4 b W2 W3) (ho : ∀ i, i < 4 → ∀ q, (V' i).ownBlock = some q → (V i).ownBlock = some q ∨ W2.heap.size ≤ q) : RI N b X w S' V' x n A W3 := by
  have hX : X < W.heap.size := (Array.getElem?_eq_some_iff.1 h.box).1
  have hbl : ∀ k, k < W.heap.size → (∀ j, j < 4 → k ≠ b + j) → W3.heap[k]? = W.heap[k]? := fun k hk h1 => (hm.block k (Nat.lt_of_lt_of_le hk hb.size) h1).trans (hb.block k hk)
  have hs := hb.size
  refine ⟨h4, owns_keep h.row fun k hk => hbl k (h.row.lt k hk).2 (h.ap k hk).2.1, fun q hq => ?_, (hbl X hX h.xo.1).trans h.box, ⟨h.xo.1, fun i hi e => ?_⟩, h.below.trans ((hb.mono hN).trans (hm.below h4.up (by omega)))⟩
  · obtain ⟨a1, a2, a3⟩ := h.ap q hq
    refine ⟨a1, a2, fun i hi e => ?_⟩
    rcases ho i hi q e with e2 | e2
    · exact a3 i hi e2
    · have := (h.row.lt q hq).2
      omega
  · rcases ho i hi X e with e2 | e2
    · exact h.xo.2 i hi e2
    · omega
theorem RI.app {N b X : Nat} {w : World} {S : Ms} {V : Nat → Value} {x : Value} {n : Nat} {A : List An} {W W2 w' : World} (h : RI N b X w S V x n A W) (hN : N ≤ W.heap.size) (hb : Below W.heap.size W W2) {a : An} {g cap : Nat} (h1 : w'.ownsRow N 49 2 (.slice (some ⟨g, 0, none⟩) (n + 1) cap) (n + 1) ((A ++ [a]).flatMap acs)) (h2 : W2.grownBy w' x.ownBlock) (h3 : x.ownBlock = some g ∨ g = W2.heap.size) : RI N b X w S V (.slice (some ⟨g, 0, none⟩) (n + 1) cap) (n + 1) (A ++ [a]) w' := by
  have hX : X < W.heap.size := (Array.getElem?_eq_some_iff.1 h.box).1
  have hs := hb.size
  have hbl : ∀ k, k < W.heap.size → x.ownBlock ≠ some k → w'.heap[k]? = W.heap[k]? := fun k hk hne => (h2.block k (by omega) (fun e => hne e.symm)).trans (hb.block k hk)
  refine ⟨h.m4.keep (Nat.le_trans hs h2.size) (fun i hi => hbl _ (h.m4.tab i hi).lt (fun e => (h.ap _ e).2.1 i hi rfl)) (fun i hi q hq => hbl q (h.m4.own i hi q hq).2.1 (fun e => (h.ap q e).2.2 i hi hq)), h1, fun q hq => ?_, (hbl X hX (fun e => (h.ap X e).1 rfl)).trans h.box, h.xo, (h.below.trans (hb.mono hN)).grown h2 (by omega) (fun z hz => (h.row.lt z hz).1)⟩
  have hq' : g = q := by simpa [Value.ownBlock] using hq
  subst hq'
  rcases h3 with h3 | h3
  · exact h.ap _ h3
  · refine ⟨by omega, fun j hj => ?_, fun i hi e => ?_⟩
    · have := (h.m4.tab j hj).lt
      omega
    · have := (h.m4.own i hi _ e).2.1
      omega
end
section
open Go.RowKit
attribute [local go_sem ↓] Go.wp_at_zero Go.wp_at_succ

theorem RM.new {N X : Nat} {W : World} (hX : W.heap[X]? = some (.cells #[.slice none 0 0, .slice none 0 0, .slice none 0 0, .slice none 0 0] 95)) (hN : N ≤ X) : RM N W X (fun _ => []) (fun _ => .slice none 0 0) := by
  refine ⟨fun i hi => ⟨cellB hX i _ ?_, frozenB hX i, World.ownsRow_nil _ _ _ _, fun k hk => (by cases hk), by simp, fun r hr => by cases hr⟩, hN, fun i hi q hq => by cases hq⟩
  rcases i with _ | _ | _ | _ | i
  · rfl
  · rfl
  · rfl
  · rfl
  · omega
/-- In the midst of the document's Replay: its map, the answers so far. -/
structure RRI (N X : Nat) (w : World) (L : Ms) (U : Nat → Value) (x : Value) (n : Nat) (A : List An) (W : World) : Prop where
  rm : RM N W X L U
  row : W.ownsRow N 43 2 x n (A.flatMap acs)
  ap : ∀ q, x.ownBlock = some q → q ≠ X ∧ ∀ i, i < 4 → (U i).ownBlock ≠ some q
  below : Below N w W
theorem RRI.mid {N X : Nat} {w : World} {L L' : Ms} {U U' : Nat → Value} {x : Value} {n : Nat} {A : List An} {W W2 W3 : World} (h : RRI N X w L U x n A W) (hN : N ≤ W.heap.size) (hb : Below W.heap.size W W2) (h4 : RM N W3 X L' U') (hm : MvR X U W2 W3) (ho : ∀ i, i < 4 → ∀ q, (U' i).ownBlock = some q → (U i).ownBlock = some q ∨ W2.heap.size ≤ q) : RRI N X w L' U' x n A W3 := by
  have hs := hb.size
  have hbl : ∀ k, k < W.heap.size → k ≠ X → (∀ i, i < 4 → (U i).ownBlock ≠ some k) → W3.heap[k]? = W.heap[k]? := fun k hk h1 h2 => (hm.block k (Nat.lt_of_lt_of_le hk hb.size) h1 h2).trans (hb.block k hk)
  refine ⟨h4, owns_keep h.row fun k hk => hbl k (h.row.lt k hk).2 (h.ap k hk).1 (h.ap k hk).2, fun q hq => ?_, h.below.trans ((hb.mono hN).trans ((h.rm.on hb).below hm))⟩
  obtain ⟨a1, a2⟩ := h.ap q hq
  refine ⟨a1, fun i hi e => ?_⟩
  rcases ho i hi q e with e2 | e2
  · exact a2 i hi e2
  · have := (h.row.lt q hq).2
    omega
theorem RRI.app {N X : Nat} {w : World} {L : Ms} {U : Nat → Value} {x : Value} {n : Nat} {A : List An} {W W2 w' : World} (h : RRI N X w L U x n A W) (hN : N ≤ W.heap.size) (hb : Below W.heap.size W W2) {a : An} {g cap : Nat} (h1 : w'.ownsRow N 43 2 (.slice (some ⟨g, 0, none⟩) (n + 1) cap) (n + 1) ((A ++ [a]).flatMap acs)) (h2 : W2.grownBy w' x.ownBlock) (h3 : x.ownBlock = some g ∨ g = W2.heap.size) : RRI N X w L U (.slice (some ⟨g, 0, none⟩) (n + 1) cap) (n + 1) (A ++ [a]) w' := by
  have hs := hb.size
  have hbl : ∀ k, k < W.heap.size → x.ownBlock ≠ some k → w'.heap[k]? = W.heap[k]? := fun k hk hne => (h2.block k (by omega) (fun e => hne e.symm)).trans (hb.block k hk)
  refine ⟨h.rm.keep (Nat.le_trans hs h2.size) (hbl _ h.rm.lt (fun e => (h.ap _ e).1 rfl)) (fun i hi q hq => hbl q (h.rm.own i hi q hq).2.1 (fun e => (h.ap q e).2 i hi hq)), h1, fun q hq => ?_, (h.below.trans (hb.mono hN)).grown h2 (by omega) (fun z hz => (h.row.lt z hz).1)⟩
  have hq' : g = q := by simpa [Value.ownBlock] using hq
  subst hq'
  rcases h3 with h3 | h3
  · exact h.ap _ h3
  · refine ⟨by have := h.rm.lt; omega, fun i hi e => ?_⟩
    have := (h.rm.own i hi _ e).2.1
    omega
end
section
open Go.RowKit
attribute [local go_sem ↓] Go.wp_at_zero Go.wp_at_succ

/-- A call, a point. -/
structure Cl where
  cl : Int
  no : Int
  op : Opr
  fr : Int
  tt : Int
  an : An
structure Pt where
  tm : Int
  cl : Int
  no : Int
  an : An
abbrev cV (cl no kind : Int) (k v o : List UInt8) (fr tt E : Int) (T : List UInt8) : Value := .agg #[.int .i64 cl, .int .i64 no, .int .i64 kind, .string (bs k), .string (bs v), .string (bs o), .int .i64 fr, .int .i64 tt, .int .i64 E, .string (bs T)]
abbrev pV (tm cl no E : Int) (T : List UInt8) : Value := .agg #[.int .i64 tm, .int .i64 cl, .int .i64 no, .int .i64 E, .string (bs T)]
def ccs (c : Cl) : List Value := [.int .i64 c.cl, .int .i64 c.no, .int .i64 c.op.kind, .string (bs c.op.k), .string (bs c.op.v), .string (bs c.op.o), .int .i64 c.fr, .int .i64 c.tt, .int .i64 c.an.2, .string (bs c.an.1)]
def pks (p : Pt) : List Value := [.int .i64 p.tm, .int .i64 p.cl, .int .i64 p.no, .int .i64 p.an.2, .string (bs p.an.1)]
def ansd (c : Cl) : Bool := decide (c.tt ≠ -1)
def okCall (c : Cl) : Bool := decide (0 ≤ c.cl) && decide (c.cl < 8) && decide (1 ≤ c.no) && decide (c.no ≤ 1099511627776) && decide (chk c.op.kind c.op.k c.op.v c.op.o = 0) && decide (0 ≤ c.fr) && (if c.tt = -1 then decide (c.an = ([], 0)) else decide (c.fr ≤ c.tt))
def behind (c b : Cl) : Bool := decide (b.no < c.no) && ansd b && decide (b.tt ≤ c.fr)
def hasM (c : Cl) (m : Int) : Bool := decide (c.fr ≤ m) && (decide (c.tt = -1) || decide (m ≤ c.tt))
theorem str_one (k : List UInt8) : ((bs k).toList == (bs k).toList) = true := by simp
theorem str_two {a b : List UInt8} (h : a ≠ b) : ((bs a).toList == (bs b).toList) = false := str_ne fun e => h (bs_inj e)

set_option maxRecDepth 20000 in
theorem isAns_any (cl no kind : Int) (k v o : List UInt8) (fr tt E : Int) (T : List UInt8) (w : World) : Calls Tryd.prog 57 #[cV cl no kind k v o fr tt E T] w fun e W' => e = .returned (.bool (decide (tt ≠ -1))) ∧ Below w.heap.size w W' := by
  by_cases h : tt = -1
  · subst h
    go_enter Tryd.func57, Tryd.ntmps57
    go_wp2
    go_ret
    exact ⟨rfl, (Below.refl _ w).alloc (Nat.le_refl _) _⟩
  · have hq : (tt == -1) = false := by simpa using h
    rw [decide_eq_true h]
    go_enter Tryd.func57, Tryd.ntmps57
    go_wp2
    go_ret
    exact ⟨by simp [h], (Below.refl _ w).alloc (Nat.le_refl _) _⟩
set_option maxRecDepth 20000 in
theorem request_any (tm cl no E : Int) (T : List UInt8) (w : World) : Calls Tryd.prog 56 #[pV tm cl no E T] w fun e W' => e = .returned (.agg #[.int .i64 cl, .int .i64 no]) ∧ Below w.heap.size w W' := by
  go_enter Tryd.func56, Tryd.ntmps56
  go_wp2
  refine bodyPost_ret (v := .agg #[.int .i64 cl, .int .i64 no]) (by simp [results, Tryd.f56, go_sem]) rfl ⟨rfl, ?_⟩
  exact ((Below.refl _ w).alloc (Nat.le_refl _) _).alloc (by simp) _
set_option maxRecDepth 20000 in
theorem behind_any (c b : Cl) (w : World) : Calls Tryd.prog 53 #[cV c.cl c.no c.op.kind c.op.k c.op.v c.op.o c.fr c.tt c.an.2 c.an.1, cV b.cl b.no b.op.kind b.op.k b.op.v b.op.o b.fr b.tt b.an.2 b.an.1] w fun e W' => e = .returned (.bool (behind c b)) ∧ Below w.heap.size w W' := by
  obtain ⟨cl, no, ⟨kind, k, v, o⟩, fr, tt, T, E⟩ := c
  obtain ⟨cl', no', ⟨kind', k', v', o'⟩, fr', tt', T', E'⟩ := b
  dsimp only [behind, ansd]
  have hb : Below w.heap.size w ((w.alloc (.cells #[.int .i64 cl, .int .i64 no, .int .i64 kind, .string (bs k), .string (bs v), .string (bs o), .int .i64 fr, .int .i64 tt, .int .i64 E, .string (bs T)] 51)).alloc (.cells #[.int .i64 cl', .int .i64 no', .int .i64 kind', .string (bs k'), .string (bs v'), .string (bs o'), .int .i64 fr', .int .i64 tt', .int .i64 E', .string (bs T')] 51)) := ((Below.refl _ w).alloc (Nat.le_refl _) _).alloc (by simp) _
  have hA := fun W => isAns_any cl' no' kind' k' v' o' fr' tt' E' T' W
  have HB : Hid (_) := hb
  have HC : Hid (∀ W, Below ((w.alloc (.cells #[.int .i64 cl, .int .i64 no, .int .i64 kind, .string (bs k), .string (bs v), .string (bs o), .int .i64 fr, .int .i64 tt, .int .i64 E, .string (bs T)] 51)).alloc (.cells #[.int .i64 cl', .int .i64 no', .int .i64 kind', .string (bs k'), .string (bs v'), .string (bs o'), .int .i64 fr', .int .i64 tt', .int .i64 E', .string (bs T')] 51)).heap.size ((w.alloc (.cells #[.int .i64 cl, .int .i64 no, .int .i64 kind, .string (bs k), .string (bs v), .string (bs o), .int .i64 fr, .int .i64 tt, .int .i64 E, .string (bs T)] 51)).alloc (.cells #[.int .i64 cl', .int .i64 no', .int .i64 kind', .string (bs k'), .string (bs v'), .string (bs o'), .int .i64 fr', .int .i64 tt', .int .i64 E', .string (bs T')] 51)) W → W.cell? ⟨w.heap.size, 6, none⟩ = some (.int .i64 fr) ∧ W.cell? ⟨w.heap.size + 1, 7, none⟩ = some (.int .i64 tt')) := fun W hW => by
    have z0 : ((w.alloc (.cells #[.int .i64 cl, .int .i64 no, .int .i64 kind, .string (bs k), .string (bs v), .string (bs o), .int .i64 fr, .int .i64 tt, .int .i64 E, .string (bs T)] 51)).alloc (.cells #[.int .i64 cl', .int .i64 no', .int .i64 kind', .string (bs k'), .string (bs v'), .string (bs o'), .int .i64 fr', .int .i64 tt', .int .i64 E', .string (bs T')] 51)).heap[w.heap.size]? = some (.cells #[.int .i64 cl, .int .i64 no, .int .i64 kind, .string (bs k), .string (bs v), .string (bs o), .int .i64 fr, .int .i64 tt, .int .i64 E, .string (bs T)] 51) := ((Below.refl (w.heap.size + 1) _).alloc (by simp) _).block w.heap.size (by omega) |>.trans (heap_alloc_new _ _)
    have z1 : ((w.alloc (.cells #[.int .i64 cl, .int .i64 no, .int .i64 kind, .string (bs k), .string (bs v), .string (bs o), .int .i64 fr, .int .i64 tt, .int .i64 E, .string (bs T)] 51)).alloc (.cells #[.int .i64 cl', .int .i64 no', .int .i64 kind', .string (bs k'), .string (bs v'), .string (bs o'), .int .i64 fr', .int .i64 tt', .int .i64 E', .string (bs T')] 51)).heap[w.heap.size + 1]? = some (.cells #[.int .i64 cl', .int .i64 no', .int .i64 kind', .string (bs k'), .string (bs v'), .string (bs o'), .int .i64 fr', .int .i64 tt', .int .i64 E', .string (bs T')] 51) := by
      have := heap_alloc_new (w.alloc (.cells #[.int .i64 cl, .int .i64 no, .int .i64 kind, .string (bs k), .string (bs v), .string (bs o), .int .i64 fr, .int .i64 tt, .int .i64 E, .string (bs T)] 51)) (.cells #[.int .i64 cl', .int .i64 no', .int .i64 kind', .string (bs k'), .string (bs v'), .string (bs o'), .int .i64 fr', .int .i64 tt', .int .i64 E', .string (bs T')] 51)
      rw [World.size_alloc] at this
      exact this
    exact ⟨cellB ((hW.block w.heap.size (by simp; omega)).trans z0) 6 _ rfl, cellB ((hW.block (w.heap.size + 1) (by simp)).trans z1) 7 _ rfl⟩
  have HA : Hid (∀ W, Calls Tryd.prog 57 #[cV cl' no' kind' k' v' o' fr' tt' E' T'] W fun e W' => e = .returned (.bool (decide (tt' ≠ -1))) ∧ Below W.heap.size W W') := hA
  clear hb hA
  by_cases h1 : no' < no
  · rw [decide_eq_true h1]
    by_cases h2 : tt' = -1
    · rw [show decide (tt' ≠ -1) = false by simp [h2]] at HA ⊢
      clear h2
      go_enter Tryd.func53, Tryd.ntmps53
      go_wp2_with (go_at_call 57; refine (HA.out _).mono ?_; rintro e w1 ⟨rfl, hb1⟩; obtain ⟨y6, y7⟩ := HC.out _ hb1)
      go_ret
      exact ⟨rfl, HB.out.trans (hb1.mono HB.out.size)⟩
    · rw [show decide (tt' ≠ -1) = true by simp [h2]] at HA ⊢
      clear h2
      by_cases h3 : tt' ≤ fr
      · rw [decide_eq_true h3]
        go_enter Tryd.func53, Tryd.ntmps53
        go_wp2_with (go_at_call 57; refine (HA.out _).mono ?_; rintro e w1 ⟨rfl, hb1⟩; obtain ⟨y6, y7⟩ := HC.out _ hb1)
        go_ret
        exact ⟨by simp, HB.out.trans (hb1.mono HB.out.size)⟩
      · rw [decide_eq_false h3]
        go_enter Tryd.func53, Tryd.ntmps53
        go_wp2_with (go_at_call 57; refine (HA.out _).mono ?_; rintro e w1 ⟨rfl, hb1⟩; obtain ⟨y6, y7⟩ := HC.out _ hb1)
        go_ret
        exact ⟨by simp [h3], HB.out.trans (hb1.mono HB.out.size)⟩
  · rw [decide_eq_false h1]
    go_enter Tryd.func53, Tryd.ntmps53
    go_wp2
    go_ret
    exact ⟨by simp, HB.out⟩
set_option maxRecDepth 20000 in
theorem has_any (c : Cl) (m : Int) (w : World) : Calls Tryd.prog 55 #[cV c.cl c.no c.op.kind c.op.k c.op.v c.op.o c.fr c.tt c.an.2 c.an.1, .int .i64 m] w fun e W' => e = .returned (.bool (hasM c m)) ∧ Below w.heap.size w W' := by
  obtain ⟨cl, no, ⟨kind, k, v, o⟩, fr, tt, T, E⟩ := c
  dsimp only [hasM]
  have hb : Below w.heap.size w (w.alloc (.cells #[.int .i64 cl, .int .i64 no, .int .i64 kind, .string (bs k), .string (bs v), .string (bs o), .int .i64 fr, .int .i64 tt, .int .i64 E, .string (bs T)] 51)) := (Below.refl _ w).alloc (Nat.le_refl _) _
  have HB : Hid (_) := hb
  have HC : Hid (∀ W, Below (w.alloc (.cells #[.int .i64 cl, .int .i64 no, .int .i64 kind, .string (bs k), .string (bs v), .string (bs o), .int .i64 fr, .int .i64 tt, .int .i64 E, .string (bs T)] 51)).heap.size (w.alloc (.cells #[.int .i64 cl, .int .i64 no, .int .i64 kind, .string (bs k), .string (bs v), .string (bs o), .int .i64 fr, .int .i64 tt, .int .i64 E, .string (bs T)] 51)) W → W.cell? ⟨w.heap.size, 7, none⟩ = some (.int .i64 tt)) := fun W hW => cellB ((hW.block w.heap.size (by simp)).trans (heap_alloc_new _ _)) 7 _ rfl
  have HA : Hid (∀ W, Calls Tryd.prog 57 #[cV cl no kind k v o fr tt E T] W fun e W' => e = .returned (.bool (decide (tt ≠ -1))) ∧ Below W.heap.size W W') := fun W => isAns_any cl no kind k v o fr tt E T W
  clear hb
  by_cases h1 : fr ≤ m
  · rw [decide_eq_true h1]
    by_cases h2 : tt = -1
    · rw [show decide (tt ≠ -1) = false by simp [h2]] at HA
      rw [show decide (tt = -1) = true by simp [h2]]
      clear h2
      go_enter Tryd.func55, Tryd.ntmps55
      go_wp2_with (go_at_call 57; refine (HA.out _).mono ?_; rintro e w1 ⟨rfl, hb1⟩; have y7 := HC.out _ hb1)
      go_ret
      exact ⟨by simp, HB.out.trans (hb1.mono HB.out.size)⟩
    · rw [show decide (tt ≠ -1) = true by simp [h2]] at HA
      rw [show decide (tt = -1) = false by simp [h2]]
      clear h2
      by_cases h3 : m ≤ tt
      · rw [decide_eq_true h3]
        go_enter Tryd.func55, Tryd.ntmps55
        go_wp2_with (go_at_call 57; refine (HA.out _).mono ?_; rintro e w1 ⟨rfl, hb1⟩; have y7 := HC.out _ hb1)
        go_ret
        exact ⟨by simp, HB.out.trans (hb1.mono HB.out.size)⟩
      · rw [decide_eq_false h3]
        go_enter Tryd.func55, Tryd.ntmps55
        go_wp2_with (go_at_call 57; refine (HA.out _).mono ?_; rintro e w1 ⟨rfl, hb1⟩; have y7 := HC.out _ hb1)
        go_ret
        exact ⟨by simp [h3], HB.out.trans (hb1.mono HB.out.size)⟩
  · rw [decide_eq_false h1]
    go_enter Tryd.func55, Tryd.ntmps55
    go_wp2
    go_ret
    exact ⟨by simp, HB.out⟩
end
end Go.Proofs.YtihilkdokfdoeaaDoor
